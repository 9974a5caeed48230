/- Joined by tools/bundle.py: JlexF JlexT. -/
import Derived.Test.YthogheglddfniaaGreatDoorW2
import Derived.Test.YthogheglddfniaaGreatDoorW7
import Derived.Test.YthogheglddfniaaGreatDoorW8
import Derived.Test.YthogheglddfniaaGreatDoorW22
import Derived.Test.YthogheglddfniaaGreatDoorW23
import Derived.Test.YthogheglddfniaaGreatDoorW0
set_option maxRecDepth 100000
set_option maxHeartbeats 16000000
namespace Go.Proofs.YthogheglddfniaaGreatDoor
open Go.ChangeShapes Go.WideShapes Go.ChangeAt Go.RowKit Mem
def letW (l : List UInt8) : Jx.Wd × Nat :=
 if Jx.named l Jx.sT = true then (⟨7, 1, [], 0, 4⟩, 0)
 else if Jx.named l Jx.sF = true then (⟨7, 0, [], 0, 5⟩, 0)
 else if Jx.named l Jx.sN = true then (⟨8, 0, [], 0, 4⟩, 0)
 else (⟨0, 0, [], 0, 0⟩, 20)
def Pre (l S : List UInt8) (j : Nat) : Prop := j ≤ l.length ∧ j ≤ S.length ∧ ∀ i, i < j → Jx.byt l i = Jx.byt S i
theorem Pre.start (l S : List UInt8) : Pre l S 0 := ⟨Nat.zero_le _, Nat.zero_le _, fun _ hi => absurd hi (Nat.not_lt_zero _)⟩
theorem Pre.go {l S : List UInt8} {j : Nat} (h : Pre l S j) (h1 : j < l.length) (h2 : j < S.length) (e : Jx.byt l j = Jx.byt S j) : Pre l S (j + 1) := ⟨h1, h2, fun i hi => by
 rcases Nat.lt_or_ge i j with k | k
 · exact h.2.2 i k
 · obtain rfl : i = j := by omega
   exact e⟩
theorem list_byt {l S : List UInt8} (h : l.length = S.length) (k : ∀ i, i < S.length → Jx.byt l i = Jx.byt S i) : l = S := by
 apply List.ext_getElem h
 intro i h1 h2
 have := k i h2
 unfold Jx.byt at this
 simp only [List.getD, List.getElem?_eq_getElem h1, List.getElem?_eq_getElem h2, Option.getD_some] at this
 exact UInt8.toNat_inj.1 this
theorem Pre.take {l S : List UInt8} (h : Pre l S S.length) : l.take S.length = S :=
 list_byt (by rw [List.length_take]; have := h.1; omega) fun i hi => by rw [Jx.byt_take hi]; exact h.2.2 i hi
theorem pre_take {l S : List UInt8} (h : l.take S.length = S) : Pre l S S.length := by
 have hl : S.length ≤ l.length := by have := congrArg List.length h; rw [List.length_take] at this; omega
 exact ⟨hl, Nat.le_refl _, fun i hi => by rw [← Jx.byt_take (l := l) hi, h]⟩
theorem named_no {l S : List UInt8} (h : ¬ Pre l S S.length) : Jx.named l S = false := by
 unfold Jx.named; rw [decide_eq_false (fun e => h (pre_take e))]; rfl
theorem named_pre {l S : List UInt8} (h : Pre l S S.length) : Jx.named l S = !Jx.isL (Jx.byt l S.length) := by
 unfold Jx.named; rw [decide_eq_true h.take, Bool.true_and]
theorem pre_apart {l S T : List UInt8} (h : Pre l S S.length) (hs : 0 < S.length) (ht : 0 < T.length) (ne : Jx.byt S 0 ≠ Jx.byt T 0) : ¬ Pre l T T.length := fun k => by
 have a := h.2.2 0 hs; have b := k.2.2 0 ht
 exact ne (a.symm.trans b)
theorem letW_none {l : List UInt8} (h0 : ¬ Pre l Jx.sT Jx.sT.length) (h1 : ¬ Pre l Jx.sF Jx.sF.length) (h2 : ¬ Pre l Jx.sN Jx.sN.length) : letW l = (⟨0, 0, [], 0, 0⟩, 20) := by
 unfold letW; rw [named_no h0, named_no h1, named_no h2]; rfl
theorem letW_0 {l : List UInt8} (h : Pre l Jx.sT 4) : letW l = if Jx.isL (Jx.byt l 4) = true then (⟨0, 0, [], 0, 0⟩, 20) else (⟨7, 1, [], 0, 4⟩, 0) := by
 have h' : Pre l Jx.sT Jx.sT.length := h
 unfold letW
 rw [named_pre h', named_no (pre_apart (T := Jx.sF) h' (by decide) (by decide) (by decide)), named_no (pre_apart (T := Jx.sN) h' (by decide) (by decide) (by decide)), show Jx.sT.length = 4 from rfl]
 cases Jx.isL (Jx.byt l 4) <;> rfl
theorem letW_1 {l : List UInt8} (h : Pre l Jx.sF 5) : letW l = if Jx.isL (Jx.byt l 5) = true then (⟨0, 0, [], 0, 0⟩, 20) else (⟨7, 0, [], 0, 5⟩, 0) := by
 have h' : Pre l Jx.sF Jx.sF.length := h
 unfold letW
 rw [named_pre h', named_no (pre_apart (T := Jx.sT) h' (by decide) (by decide) (by decide)), named_no (pre_apart (T := Jx.sN) h' (by decide) (by decide) (by decide)), show Jx.sF.length = 5 from rfl]
 cases Jx.isL (Jx.byt l 5) <;> rfl
theorem letW_2 {l : List UInt8} (h : Pre l Jx.sN 4) : letW l = if Jx.isL (Jx.byt l 4) = true then (⟨0, 0, [], 0, 0⟩, 20) else (⟨8, 0, [], 0, 4⟩, 0) := by
 have h' : Pre l Jx.sN Jx.sN.length := h
 unfold letW
 rw [named_pre h', named_no (pre_apart (T := Jx.sT) h' (by decide) (by decide) (by decide)), named_no (pre_apart (T := Jx.sF) h' (by decide) (by decide) (by decide)), show Jx.sN.length = 4 from rfl]
 cases Jx.isL (Jx.byt l 4) <;> rfl
def Nos (l : List UInt8) (i : Nat) : Prop := (0 < i → ¬ Pre l Jx.sT 4) ∧ (1 < i → ¬ Pre l Jx.sF 5) ∧ (2 < i → ¬ Pre l Jx.sN 4)
theorem str_byt (s : ByteArray) (S : List UInt8) (h : s.data.toList = S) (k : Nat) (hk : k < s.size) : (s[k]'hk).toNat = Jx.byt S k := by
 subst h
 have h2 : k < s.data.toList.length := by simpa using hk
 unfold Jx.byt
 simp [List.getD, List.getElem?_eq_getElem h2]; rfl
theorem letters_any (A : Option Addr) (c : Nat) (l : List UInt8) (w : World) (hL : Laid w) (hb : Bys w w.heap.size A l) (hl : l.length ≤ 60000000000) (hc : l.length ≤ c) (h0 : 0 < l.length) :
 Calls Tryz.prog 151 #[.slice A l.length c] w (TkW (letW l) w) := by
 have CS := cell_set
 obtain ⟨b, off, rfl, hB, _⟩ := bys_cell hb h0
 have hL1 := hL.alloc (.cells #[.int .i64 0, .int .i64 0, .string ⟨#[]⟩, .int .i64 0, .int .i64 0] 118)
 have g0 := hL1.spell 0 (by omega)
 have g1 := hL1.spell 1 (by omega)
 have g2 := hL1.spell 2 (by omega)
 have g3 := hL1.spell 3 (by omega)
 have g4 := hL1.spell 4 (by omega)
 have g5 := hL1.spell 5 (by omega)
 have g6 := hL1.spell 6 (by omega)
 have g7 := hL1.spell 7 (by omega)
 have g8 := hL1.spell 8 (by omega)
 simp only [spells, List.getElem?_cons_zero, List.getElem?_cons_succ] at g0 g1 g2 g3 g4 g5 g6 g7 g8
 obtain ⟨s0, hs0⟩ : ∃ s : ByteArray, s = ⟨#[116, 114, 117, 101]⟩ := ⟨_, rfl⟩
 have z0 : s0.size = 4 := by rw [hs0]; rfl
 have B0 := Lib.hid (fun k hk => str_byt s0 Jx.sT (by rw [hs0]; rfl) k hk)
 rw [← hs0] at g0
 clear hs0
 obtain ⟨s1, hs1⟩ : ∃ s : ByteArray, s = ⟨#[102, 97, 108, 115, 101]⟩ := ⟨_, rfl⟩
 have z1 : s1.size = 5 := by rw [hs1]; rfl
 have B1 := Lib.hid (fun k hk => str_byt s1 Jx.sF (by rw [hs1]; rfl) k hk)
 rw [← hs1] at g3
 clear hs1
 obtain ⟨s2, hs2⟩ : ∃ s : ByteArray, s = ⟨#[110, 117, 108, 108]⟩ := ⟨_, rfl⟩
 have z2 : s2.size = 4 := by rw [hs2]; rfl
 have B2 := Lib.hid (fun k hk => str_byt s2 Jx.sN (by rw [hs2]; rfl) k hk)
 rw [← hs2] at g6
 clear hs2
 have i0 : ∀ w, (Instr.index 196 (.agg #[.string s0, .int .i64 7, .int .i64 1, .string s1, .int .i64 7, .int .i64 0, .string s2, .int .i64 8, .int .i64 0]) (.int .i64 0)).run Tryz.prog w = .ok (.agg #[.string s0, .int .i64 7, .int .i64 1]) w := fun _ => by kernel_rfl
 have i1 : ∀ w, (Instr.index 196 (.agg #[.string s0, .int .i64 7, .int .i64 1, .string s1, .int .i64 7, .int .i64 0, .string s2, .int .i64 8, .int .i64 0]) (.int .i64 1)).run Tryz.prog w = .ok (.agg #[.string s1, .int .i64 7, .int .i64 0]) w := fun _ => by kernel_rfl
 have i2 : ∀ w, (Instr.index 196 (.agg #[.string s0, .int .i64 7, .int .i64 1, .string s1, .int .i64 7, .int .i64 0, .string s2, .int .i64 8, .int .i64 0]) (.int .i64 2)).run Tryz.prog w = .ok (.agg #[.string s2, .int .i64 8, .int .i64 0]) w := fun _ => by kernel_rfl
 have CELL : Hid (∀ k, k < l.length → ∀ W, Below (w.heap.size + 1) (w.alloc (.cells #[.int .i64 0, .int .i64 0, .string ⟨#[]⟩, .int .i64 0, .int .i64 0] 118)) W → W.cell? ⟨b, off + k, none⟩ = some (.int .u8 (Jx.byt l k : Int))) := fun k hk W h => by
  obtain ⟨b2, off2, e2, _, h2⟩ := bys_cell hb hk
  simp only [Option.some.injEq, Addr.mk.injEq, and_true] at e2
  obtain ⟨rfl, rfl⟩ := e2
  exact (h.cell (p := ⟨b, off + k, none⟩) (by show b < w.heap.size + 1; omega)).trans ((World.cell?_alloc_lt w _ ⟨b, off + k, none⟩ hB).trans h2)
 have YL : Hid (∀ k W, Below (w.heap.size + 1) (w.alloc (.cells #[.int .i64 0, .int .i64 0, .string ⟨#[]⟩, .int .i64 0, .int .i64 0] 118)) W → Bys W w.heap.size (some ⟨b, off + k, none⟩) (l.drop k)) := fun k W h => ((hb.alloc (Nat.le_refl _) _).more (Nat.le_succ _)).below h |>.keep (fun _ _ => rfl) |> fun y => (y.tail k).keep (fun _ _ => rfl) |> fun y => by
  rcases y with y | ⟨b3, o3, e3, _, h3⟩
  · exact .inl y
  · simp only [Option.some.injEq, Addr.mk.injEq, and_true] at e3
    obtain ⟨rfl, rfl⟩ := e3
    exact .inr ⟨b, _, rfl, hB, h3⟩
 have GA : Hid (∀ A' n c' W k, n = l.length - k → Bys W w.heap.size A' (l.drop k) → Calls Tryz.prog 172 #[.slice A' n c'] W fun e w' => e = .returned (.bool (Jx.isL (Jx.byt l k))) ∧ W = w') := fun A' n c' W k hn hA => by
  have := goesOn_any A' c' (l.drop k) W _ hA
  rw [Jx.byt_drop, Nat.add_zero, List.length_drop, ← hn] at this
  exact this
 have W0 : Below w.heap.size w (w.alloc (.cells #[.int .i64 0, .int .i64 0, .string ⟨#[]⟩, .int .i64 0, .int .i64 0] 118)) := (Below.refl _ _).alloc (Nat.le_refl _) _
 have sz0 : (w.alloc (.cells #[.int .i64 0, .int .i64 0, .string ⟨#[]⟩, .int .i64 0, .int .i64 0] 118)).heap.size = w.heap.size + 1 := by simp
 have SZ0 := Lib.hid sz0
 have LN := @letW_none l; have L0 := @letW_0 l; have L1 := @letW_1 l; have L2 := @letW_2 l
 generalize letW l = R at *
 have LNH := Lib.hid LN; have L0H := Lib.hid L0; have L1H := Lib.hid L1; have L2H := Lib.hid L2
 clear LN L0 L1 L2 hb sz0 hL hL1
 go_enter Tryz.func151, Tryz.ntmps151
 go_wp2_with fail
 go_step3
 go_wp2_with fail
 go_step3
 go_wp2_with fail
 go_loopg [9] 3 (fun g t wr => ∃ i : Nat, i + g = 3 ∧ i ≤ 3 ∧ t = .int .i64 (i : Int) ∧ Hid (Nos l i) ∧ Below (w.heap.size + 1) (w.alloc (.cells #[.int .i64 0, .int .i64 0, .string ⟨#[]⟩, .int .i64 0, .int .i64 0] 118)) wr)
 case atStart => exact ⟨0, rfl, by omega, rfl, ⟨fun h => absurd h (by omega), fun h => absurd h (by omega), fun h => absurd h (by omega)⟩, Below.refl _ _⟩
 case round =>
  obtain ⟨i, hg, hi, rfl, NS, bl⟩ := hrel
  have gsz := bl.size
  rw [SZ0.out] at gsz
  have hOwn := Nat.lt_of_lt_of_le (n := w.heap.size) sdd (Below.size bl)
  have hOwn1 := Nat.ne_of_gt hOwn
  have hOwn2 := Nat.ne_of_lt hOwn
  have hOwn := ocl bl w.heap.size 0
  have hOwn := ocl bl w.heap.size 1
  have hOwn := ocl bl w.heap.size 2
  have hOwn := ocl bl w.heap.size 3
  have hOwn := ocl bl w.heap.size 4
  have hOwn := ofr bl w.heap.size 0
  have hOwn := ofr bl w.heap.size 1
  have hOwn := ofr bl w.heap.size 2
  have hOwn := ofr bl w.heap.size 3
  have hOwn := ofr bl w.heap.size 4
  obtain rfl | rfl | rfl | rfl : i = 0 ∨ i = 1 ∨ i = 2 ∨ i = 3 := by omega
  · go_wp2_with fail
    go_loopg [15] 4 (fun g t wq => ∃ j : Nat, j + g = 4 ∧ j ≤ 4 ∧ t = .int .i64 (j : Int) ∧ Hid (Pre l Jx.sT j) ∧ Drewn (wr.alloc (.cells #[.string s0, .int .i64 7, .int .i64 1] 195)) wq)
    case atStart => exact ⟨0, by omega, by omega, rfl, Pre.start _ _, ⟨0, rfl⟩⟩
    case round =>
     obtain ⟨j, hg2, hj, rfl, PR, ⟨nd, rfl⟩⟩ := hrel
     have pr := PR.out
     have b2 : Below (w.heap.size + 1) (w.alloc (.cells #[.int .i64 0, .int .i64 0, .string ⟨#[]⟩, .int .i64 0, .int .i64 0] 118)) ((wr.alloc (.cells #[.string s0, .int .i64 7, .int .i64 1] 195)).drewN nd) := bel_drewN (bl.alloc gsz _) nd
     by_cases hjL : j < 4
     · have qL : decide ((j : Int) < 4) = true := by simp; omega
       by_cases hjl : j = l.length
       · have q : ((j : Int) == (l.length : Int)) = true := by rw [beq_iff_eq]; omega
         have no : ¬ Pre l Jx.sT 4 := fun h => by have := h.1; omega
         have NO := Lib.hid no
         have HJ := Lib.hid hjl
         clear no pr hjl
         go_wp2_with fail
         go_quiet (fail)
         go_wp2_with fail
         go_roundg 2
         case rel => exact ⟨1, rfl, by omega, rfl, ⟨fun _ => NO.out, fun h => absurd h (by omega), fun h => absurd h (by omega)⟩, bel_drewN (bl.alloc gsz _) _⟩
         case measure => omega
       · have hjl2 : j < l.length := by have := pr.1; omega
         have q : ((j : Int) == (l.length : Int)) = false := by rw [beq_eq_false_iff_ne]; omega
         have cell := CELL.out j hjl2 _ (bl.alloc gsz (.cells #[.string s0, .int .i64 7, .int .i64 1] 195))
         have sb := B0.out j (by omega)
         have hj0 : j < s0.size := by omega
         have six : ∀ W, (Instr.index 9 (.string s0) (.int .i64 (j : Int))).run Tryz.prog W = .ok (.int .u8 (Jx.byt Jx.sT j : Int)) W := fun W => by
          rw [run_index_string _ _ _ _ _ strT, dif_pos ⟨by omega, by omega⟩]
          show Result.ok (Value.int .u8 ((s0[j]'hj0).toNat : Int)) W = _
          rw [sb]
         have jL : (j : Int) < 4 := by omega
         have j0 : (0 : Int) ≤ (j : Int) := by omega
         by_cases hx : Jx.byt l j = Jx.byt Jx.sT j
         · have qx : ((Jx.byt l j : Int) != (Jx.byt Jx.sT j : Int)) = false := by rw [bne_eq_false_iff_eq]; omega
           have qx2 : ((Jx.byt l j : Int) != ((s0[j]'hj0).toNat : Int)) = false := by rw [bne_eq_false_iff_eq]; omega
           have PR2 := Lib.hid (pr.go hjl2 hjL hx)
           clear pr hx hjl sb
           go_wp2_with fail
           go_quiet (fail)
           go_wp2_with fail
           go_roundg (4 - (j + 1))
           case rel => exact ⟨j + 1, by omega, by omega, by go_num, PR2, ⟨_, rfl⟩⟩
           case measure => omega
         · have qx : ((Jx.byt l j : Int) != (Jx.byt Jx.sT j : Int)) = true := by rw [bne_iff_ne]; omega
           have qx2 : ((Jx.byt l j : Int) != ((s0[j]'hj0).toNat : Int)) = true := by rw [bne_iff_ne]; omega
           have NO := Lib.hid (fun (h : Pre l Jx.sT 4) => hx (h.2.2 j hjL))
           clear pr hx hjl sb
           go_wp2_with fail
           go_quiet (fail)
           go_wp2_with fail
           go_roundg 2
           case rel => exact ⟨1, rfl, by omega, rfl, ⟨fun _ => NO.out, fun h => absurd h (by omega), fun h => absurd h (by omega)⟩, bel_drewN (bl.alloc gsz _) _⟩
           case measure => omega
     · obtain rfl : j = 4 := by omega
       have Z0 := L0H.out pr
       have hLl : 4 ≤ l.length := pr.1
       have yl := YL.out 4 _ b2
       have GO := Lib.hid (fun n c' W h => GA.out (some ⟨b, off + 4, none⟩) n c' W 4 h)
       have GN := Lib.hid (fun A' n c' W h (h2 : l.drop 4 = []) => GA.out A' n c' W 4 h (by rw [h2]; exact Bys.nil _ _ _))
       obtain ⟨LC, hLC⟩ : ∃ x, x = Jx.isL (Jx.byt l 4) := ⟨_, rfl⟩
       rw [← hLC] at Z0 GO GN
       clear hLC pr
       have hd : c = 4 → l.drop 4 = [] := fun h => List.drop_eq_nil_of_le (by omega)
       have HD := Lib.hid hd
       clear hd
       cases LC with
       | true =>
        have Z := Lib.hid (Z0.trans (if_pos rfl))
        by_cases hcL : c = 4
        · subst hcL
          go_wp2_with fail
          with_reducible refine (GN.out _ _ _ _ (by first | rfl | omega | (simp; done) | (simp; omega)) (HD.out (by first | omega | trivial))).mono ?_
          rintro e w1 ⟨rfl, rfl⟩
          go_wp2_with fail
          try rw [Exit.noGoto_ret]
          try simp only [Exit.inBlock, Exit.then]
          refine post_rj (x0 := .int .i64 0) (x1 := .int .i64 0) (x2 := .string ⟨#[]⟩) (x3 := .int .i64 0) (x4 := .int .i64 0) rfl rfl rfl (by go_simp) (by go_simp) (by go_simp) (by go_simp) (by go_simp) ?_
          exact tkW_ret Z.out rfl rfl rfl rfl rfl rfl bqq
        · go_wp2_with fail
          with_reducible refine (GO.out _ _ _ (by first | rfl | omega | (simp; done) | (simp; omega)) yl).mono ?_
          rintro e w1 ⟨rfl, rfl⟩
          go_wp2_with fail
          try rw [Exit.noGoto_ret]
          try simp only [Exit.inBlock, Exit.then]
          refine post_rj (x0 := .int .i64 0) (x1 := .int .i64 0) (x2 := .string ⟨#[]⟩) (x3 := .int .i64 0) (x4 := .int .i64 0) rfl rfl rfl (by go_simp) (by go_simp) (by go_simp) (by go_simp) (by go_simp) ?_
          exact tkW_ret Z.out rfl rfl rfl rfl rfl rfl bqq
       | false =>
        have Z := Lib.hid (Z0.trans (if_neg (by simp)))
        by_cases hcL : c = 4
        · subst hcL
          go_wp2_with fail
          with_reducible refine (GN.out _ _ _ _ (by first | rfl | omega | (simp; done) | (simp; omega)) (HD.out (by first | omega | trivial))).mono ?_
          rintro e w1 ⟨rfl, rfl⟩
          go_wp2_with fail
          try rw [Exit.noGoto_ret]
          try simp only [Exit.inBlock, Exit.then]
          refine post_rj (x0 := .int .i64 7) (x1 := .int .i64 1) (x2 := .string ⟨#[]⟩) (x3 := .int .i64 0) (x4 := .int .i64 4) rfl rfl rfl (by go_simp) (by go_simp) (by go_simp) (by go_simp) (by go_simp) ?_
          exact tkW_ret Z.out rfl rfl rfl rfl rfl rfl bqq
        · go_wp2_with fail
          with_reducible refine (GO.out _ _ _ (by first | rfl | omega | (simp; done) | (simp; omega)) yl).mono ?_
          rintro e w1 ⟨rfl, rfl⟩
          go_wp2_with fail
          try rw [Exit.noGoto_ret]
          try simp only [Exit.inBlock, Exit.then]
          refine post_rj (x0 := .int .i64 7) (x1 := .int .i64 1) (x2 := .string ⟨#[]⟩) (x3 := .int .i64 0) (x4 := .int .i64 4) rfl rfl rfl (by go_simp) (by go_simp) (by go_simp) (by go_simp) (by go_simp) ?_
          exact tkW_ret Z.out rfl rfl rfl rfl rfl rfl bqq
  · go_wp2_with fail
    go_loopg [15] 5 (fun g t wq => ∃ j : Nat, j + g = 5 ∧ j ≤ 5 ∧ t = .int .i64 (j : Int) ∧ Hid (Pre l Jx.sF j) ∧ Drewn (wr.alloc (.cells #[.string s1, .int .i64 7, .int .i64 0] 195)) wq)
    case atStart => exact ⟨0, by omega, by omega, rfl, Pre.start _ _, ⟨0, rfl⟩⟩
    case round =>
     obtain ⟨j, hg2, hj, rfl, PR, ⟨nd, rfl⟩⟩ := hrel
     have pr := PR.out
     have b2 : Below (w.heap.size + 1) (w.alloc (.cells #[.int .i64 0, .int .i64 0, .string ⟨#[]⟩, .int .i64 0, .int .i64 0] 118)) ((wr.alloc (.cells #[.string s1, .int .i64 7, .int .i64 0] 195)).drewN nd) := bel_drewN (bl.alloc gsz _) nd
     by_cases hjL : j < 5
     · have qL : decide ((j : Int) < 5) = true := by simp; omega
       by_cases hjl : j = l.length
       · have q : ((j : Int) == (l.length : Int)) = true := by rw [beq_iff_eq]; omega
         have no : ¬ Pre l Jx.sF 5 := fun h => by have := h.1; omega
         have NO := Lib.hid no
         have HJ := Lib.hid hjl
         clear no pr hjl
         go_wp2_with fail
         go_quiet (fail)
         go_wp2_with fail
         go_roundg 1
         case rel => exact ⟨2, rfl, by omega, rfl, ⟨fun _ => NS.out.1 (by omega), fun _ => NO.out, fun h => absurd h (by omega)⟩, bel_drewN (bl.alloc gsz _) _⟩
         case measure => omega
       · have hjl2 : j < l.length := by have := pr.1; omega
         have q : ((j : Int) == (l.length : Int)) = false := by rw [beq_eq_false_iff_ne]; omega
         have cell := CELL.out j hjl2 _ (bl.alloc gsz (.cells #[.string s1, .int .i64 7, .int .i64 0] 195))
         have sb := B1.out j (by omega)
         have hj1 : j < s1.size := by omega
         have six : ∀ W, (Instr.index 9 (.string s1) (.int .i64 (j : Int))).run Tryz.prog W = .ok (.int .u8 (Jx.byt Jx.sF j : Int)) W := fun W => by
          rw [run_index_string _ _ _ _ _ strT, dif_pos ⟨by omega, by omega⟩]
          show Result.ok (Value.int .u8 ((s1[j]'hj1).toNat : Int)) W = _
          rw [sb]
         have jL : (j : Int) < 5 := by omega
         have j0 : (0 : Int) ≤ (j : Int) := by omega
         by_cases hx : Jx.byt l j = Jx.byt Jx.sF j
         · have qx : ((Jx.byt l j : Int) != (Jx.byt Jx.sF j : Int)) = false := by rw [bne_eq_false_iff_eq]; omega
           have qx2 : ((Jx.byt l j : Int) != ((s1[j]'hj1).toNat : Int)) = false := by rw [bne_eq_false_iff_eq]; omega
           have PR2 := Lib.hid (pr.go hjl2 hjL hx)
           clear pr hx hjl sb
           go_wp2_with fail
           go_quiet (fail)
           go_wp2_with fail
           go_roundg (5 - (j + 1))
           case rel => exact ⟨j + 1, by omega, by omega, by go_num, PR2, ⟨_, rfl⟩⟩
           case measure => omega
         · have qx : ((Jx.byt l j : Int) != (Jx.byt Jx.sF j : Int)) = true := by rw [bne_iff_ne]; omega
           have qx2 : ((Jx.byt l j : Int) != ((s1[j]'hj1).toNat : Int)) = true := by rw [bne_iff_ne]; omega
           have NO := Lib.hid (fun (h : Pre l Jx.sF 5) => hx (h.2.2 j hjL))
           clear pr hx hjl sb
           go_wp2_with fail
           go_quiet (fail)
           go_wp2_with fail
           go_roundg 1
           case rel => exact ⟨2, rfl, by omega, rfl, ⟨fun _ => NS.out.1 (by omega), fun _ => NO.out, fun h => absurd h (by omega)⟩, bel_drewN (bl.alloc gsz _) _⟩
           case measure => omega
     · obtain rfl : j = 5 := by omega
       have Z0 := L1H.out pr
       have hLl : 5 ≤ l.length := pr.1
       have yl := YL.out 5 _ b2
       have GO := Lib.hid (fun n c' W h => GA.out (some ⟨b, off + 5, none⟩) n c' W 5 h)
       have GN := Lib.hid (fun A' n c' W h (h2 : l.drop 5 = []) => GA.out A' n c' W 5 h (by rw [h2]; exact Bys.nil _ _ _))
       obtain ⟨LC, hLC⟩ : ∃ x, x = Jx.isL (Jx.byt l 5) := ⟨_, rfl⟩
       rw [← hLC] at Z0 GO GN
       clear hLC pr
       have hd : c = 5 → l.drop 5 = [] := fun h => List.drop_eq_nil_of_le (by omega)
       have HD := Lib.hid hd
       clear hd
       cases LC with
       | true =>
        have Z := Lib.hid (Z0.trans (if_pos rfl))
        by_cases hcL : c = 5
        · subst hcL
          go_wp2_with fail
          with_reducible refine (GN.out _ _ _ _ (by first | rfl | omega | (simp; done) | (simp; omega)) (HD.out (by first | omega | trivial))).mono ?_
          rintro e w1 ⟨rfl, rfl⟩
          go_wp2_with fail
          try rw [Exit.noGoto_ret]
          try simp only [Exit.inBlock, Exit.then]
          refine post_rj (x0 := .int .i64 0) (x1 := .int .i64 0) (x2 := .string ⟨#[]⟩) (x3 := .int .i64 0) (x4 := .int .i64 0) rfl rfl rfl (by go_simp) (by go_simp) (by go_simp) (by go_simp) (by go_simp) ?_
          exact tkW_ret Z.out rfl rfl rfl rfl rfl rfl bqq
        · go_wp2_with fail
          with_reducible refine (GO.out _ _ _ (by first | rfl | omega | (simp; done) | (simp; omega)) yl).mono ?_
          rintro e w1 ⟨rfl, rfl⟩
          go_wp2_with fail
          try rw [Exit.noGoto_ret]
          try simp only [Exit.inBlock, Exit.then]
          refine post_rj (x0 := .int .i64 0) (x1 := .int .i64 0) (x2 := .string ⟨#[]⟩) (x3 := .int .i64 0) (x4 := .int .i64 0) rfl rfl rfl (by go_simp) (by go_simp) (by go_simp) (by go_simp) (by go_simp) ?_
          exact tkW_ret Z.out rfl rfl rfl rfl rfl rfl bqq
       | false =>
        have Z := Lib.hid (Z0.trans (if_neg (by simp)))
        by_cases hcL : c = 5
        · subst hcL
          go_wp2_with fail
          with_reducible refine (GN.out _ _ _ _ (by first | rfl | omega | (simp; done) | (simp; omega)) (HD.out (by first | omega | trivial))).mono ?_
          rintro e w1 ⟨rfl, rfl⟩
          go_wp2_with fail
          try rw [Exit.noGoto_ret]
          try simp only [Exit.inBlock, Exit.then]
          refine post_rj (x0 := .int .i64 7) (x1 := .int .i64 0) (x2 := .string ⟨#[]⟩) (x3 := .int .i64 0) (x4 := .int .i64 5) rfl rfl rfl (by go_simp) (by go_simp) (by go_simp) (by go_simp) (by go_simp) ?_
          exact tkW_ret Z.out rfl rfl rfl rfl rfl rfl bqq
        · go_wp2_with fail
          with_reducible refine (GO.out _ _ _ (by first | rfl | omega | (simp; done) | (simp; omega)) yl).mono ?_
          rintro e w1 ⟨rfl, rfl⟩
          go_wp2_with fail
          try rw [Exit.noGoto_ret]
          try simp only [Exit.inBlock, Exit.then]
          refine post_rj (x0 := .int .i64 7) (x1 := .int .i64 0) (x2 := .string ⟨#[]⟩) (x3 := .int .i64 0) (x4 := .int .i64 5) rfl rfl rfl (by go_simp) (by go_simp) (by go_simp) (by go_simp) (by go_simp) ?_
          exact tkW_ret Z.out rfl rfl rfl rfl rfl rfl bqq
  · go_wp2_with fail
    go_loopg [15] 4 (fun g t wq => ∃ j : Nat, j + g = 4 ∧ j ≤ 4 ∧ t = .int .i64 (j : Int) ∧ Hid (Pre l Jx.sN j) ∧ Drewn (wr.alloc (.cells #[.string s2, .int .i64 8, .int .i64 0] 195)) wq)
    case atStart => exact ⟨0, by omega, by omega, rfl, Pre.start _ _, ⟨0, rfl⟩⟩
    case round =>
     obtain ⟨j, hg2, hj, rfl, PR, ⟨nd, rfl⟩⟩ := hrel
     have pr := PR.out
     have b2 : Below (w.heap.size + 1) (w.alloc (.cells #[.int .i64 0, .int .i64 0, .string ⟨#[]⟩, .int .i64 0, .int .i64 0] 118)) ((wr.alloc (.cells #[.string s2, .int .i64 8, .int .i64 0] 195)).drewN nd) := bel_drewN (bl.alloc gsz _) nd
     by_cases hjL : j < 4
     · have qL : decide ((j : Int) < 4) = true := by simp; omega
       by_cases hjl : j = l.length
       · have q : ((j : Int) == (l.length : Int)) = true := by rw [beq_iff_eq]; omega
         have no : ¬ Pre l Jx.sN 4 := fun h => by have := h.1; omega
         have NO := Lib.hid no
         have HJ := Lib.hid hjl
         clear no pr hjl
         go_wp2_with fail
         go_quiet (fail)
         go_wp2_with fail
         go_roundg 0
         case rel => exact ⟨3, rfl, by omega, rfl, ⟨fun _ => NS.out.1 (by omega), fun _ => NS.out.2.1 (by omega), fun _ => NO.out⟩, bel_drewN (bl.alloc gsz _) _⟩
         case measure => omega
       · have hjl2 : j < l.length := by have := pr.1; omega
         have q : ((j : Int) == (l.length : Int)) = false := by rw [beq_eq_false_iff_ne]; omega
         have cell := CELL.out j hjl2 _ (bl.alloc gsz (.cells #[.string s2, .int .i64 8, .int .i64 0] 195))
         have sb := B2.out j (by omega)
         have hj2 : j < s2.size := by omega
         have six : ∀ W, (Instr.index 9 (.string s2) (.int .i64 (j : Int))).run Tryz.prog W = .ok (.int .u8 (Jx.byt Jx.sN j : Int)) W := fun W => by
          rw [run_index_string _ _ _ _ _ strT, dif_pos ⟨by omega, by omega⟩]
          show Result.ok (Value.int .u8 ((s2[j]'hj2).toNat : Int)) W = _
          rw [sb]
         have jL : (j : Int) < 4 := by omega
         have j0 : (0 : Int) ≤ (j : Int) := by omega
         by_cases hx : Jx.byt l j = Jx.byt Jx.sN j
         · have qx : ((Jx.byt l j : Int) != (Jx.byt Jx.sN j : Int)) = false := by rw [bne_eq_false_iff_eq]; omega
           have qx2 : ((Jx.byt l j : Int) != ((s2[j]'hj2).toNat : Int)) = false := by rw [bne_eq_false_iff_eq]; omega
           have PR2 := Lib.hid (pr.go hjl2 hjL hx)
           clear pr hx hjl sb
           go_wp2_with fail
           go_quiet (fail)
           go_wp2_with fail
           go_roundg (4 - (j + 1))
           case rel => exact ⟨j + 1, by omega, by omega, by go_num, PR2, ⟨_, rfl⟩⟩
           case measure => omega
         · have qx : ((Jx.byt l j : Int) != (Jx.byt Jx.sN j : Int)) = true := by rw [bne_iff_ne]; omega
           have qx2 : ((Jx.byt l j : Int) != ((s2[j]'hj2).toNat : Int)) = true := by rw [bne_iff_ne]; omega
           have NO := Lib.hid (fun (h : Pre l Jx.sN 4) => hx (h.2.2 j hjL))
           clear pr hx hjl sb
           go_wp2_with fail
           go_quiet (fail)
           go_wp2_with fail
           go_roundg 0
           case rel => exact ⟨3, rfl, by omega, rfl, ⟨fun _ => NS.out.1 (by omega), fun _ => NS.out.2.1 (by omega), fun _ => NO.out⟩, bel_drewN (bl.alloc gsz _) _⟩
           case measure => omega
     · obtain rfl : j = 4 := by omega
       have Z0 := L2H.out pr
       have hLl : 4 ≤ l.length := pr.1
       have yl := YL.out 4 _ b2
       have GO := Lib.hid (fun n c' W h => GA.out (some ⟨b, off + 4, none⟩) n c' W 4 h)
       have GN := Lib.hid (fun A' n c' W h (h2 : l.drop 4 = []) => GA.out A' n c' W 4 h (by rw [h2]; exact Bys.nil _ _ _))
       obtain ⟨LC, hLC⟩ : ∃ x, x = Jx.isL (Jx.byt l 4) := ⟨_, rfl⟩
       rw [← hLC] at Z0 GO GN
       clear hLC pr
       have hd : c = 4 → l.drop 4 = [] := fun h => List.drop_eq_nil_of_le (by omega)
       have HD := Lib.hid hd
       clear hd
       cases LC with
       | true =>
        have Z := Lib.hid (Z0.trans (if_pos rfl))
        by_cases hcL : c = 4
        · subst hcL
          go_wp2_with fail
          with_reducible refine (GN.out _ _ _ _ (by first | rfl | omega | (simp; done) | (simp; omega)) (HD.out (by first | omega | trivial))).mono ?_
          rintro e w1 ⟨rfl, rfl⟩
          go_wp2_with fail
          try rw [Exit.noGoto_ret]
          try simp only [Exit.inBlock, Exit.then]
          refine post_rj (x0 := .int .i64 0) (x1 := .int .i64 0) (x2 := .string ⟨#[]⟩) (x3 := .int .i64 0) (x4 := .int .i64 0) rfl rfl rfl (by go_simp) (by go_simp) (by go_simp) (by go_simp) (by go_simp) ?_
          exact tkW_ret Z.out rfl rfl rfl rfl rfl rfl bqq
        · go_wp2_with fail
          with_reducible refine (GO.out _ _ _ (by first | rfl | omega | (simp; done) | (simp; omega)) yl).mono ?_
          rintro e w1 ⟨rfl, rfl⟩
          go_wp2_with fail
          try rw [Exit.noGoto_ret]
          try simp only [Exit.inBlock, Exit.then]
          refine post_rj (x0 := .int .i64 0) (x1 := .int .i64 0) (x2 := .string ⟨#[]⟩) (x3 := .int .i64 0) (x4 := .int .i64 0) rfl rfl rfl (by go_simp) (by go_simp) (by go_simp) (by go_simp) (by go_simp) ?_
          exact tkW_ret Z.out rfl rfl rfl rfl rfl rfl bqq
       | false =>
        have Z := Lib.hid (Z0.trans (if_neg (by simp)))
        by_cases hcL : c = 4
        · subst hcL
          go_wp2_with fail
          with_reducible refine (GN.out _ _ _ _ (by first | rfl | omega | (simp; done) | (simp; omega)) (HD.out (by first | omega | trivial))).mono ?_
          rintro e w1 ⟨rfl, rfl⟩
          go_wp2_with fail
          try rw [Exit.noGoto_ret]
          try simp only [Exit.inBlock, Exit.then]
          refine post_rj (x0 := .int .i64 8) (x1 := .int .i64 0) (x2 := .string ⟨#[]⟩) (x3 := .int .i64 0) (x4 := .int .i64 4) rfl rfl rfl (by go_simp) (by go_simp) (by go_simp) (by go_simp) (by go_simp) ?_
          exact tkW_ret Z.out rfl rfl rfl rfl rfl rfl bqq
        · go_wp2_with fail
          with_reducible refine (GO.out _ _ _ (by first | rfl | omega | (simp; done) | (simp; omega)) yl).mono ?_
          rintro e w1 ⟨rfl, rfl⟩
          go_wp2_with fail
          try rw [Exit.noGoto_ret]
          try simp only [Exit.inBlock, Exit.then]
          refine post_rj (x0 := .int .i64 8) (x1 := .int .i64 0) (x2 := .string ⟨#[]⟩) (x3 := .int .i64 0) (x4 := .int .i64 4) rfl rfl rfl (by go_simp) (by go_simp) (by go_simp) (by go_simp) (by go_simp) ?_
          exact tkW_ret Z.out rfl rfl rfl rfl rfl rfl bqq
  · have Z := Lib.hid (LNH.out (NS.out.1 (by omega)) (NS.out.2.1 (by omega)) (NS.out.2.2 (by omega)))
    go_wp2_with fail
    try rw [Exit.noGoto_ret]
    try simp only [Exit.inBlock, Exit.then]
    refine post_rj (x0 := .int .i64 0) (x1 := .int .i64 0) (x2 := .string ⟨#[]⟩) (x3 := .int .i64 0) (x4 := .int .i64 0) rfl rfl rfl (by go_simp) (by go_simp) (by go_simp) (by go_simp) (by go_simp) ?_
    exact tkW_ret Z.out rfl rfl rfl rfl rfl rfl bqq
def fstW (l : List UInt8) : Jx.Wd × Nat := if l.length = 0 then (⟨11, 0, [], 0, 0⟩, 0) else Jx.word l
theorem fstW_end {l : List UInt8} (h : l.length = 0) : fstW l = (⟨11, 0, [], 0, 0⟩, 0) := by unfold fstW; rw [if_pos h]
theorem fstW_p {l : List UInt8} (h0 : l.length ≠ 0) (h : Jx.punct (Jx.byt l 0) ≠ 0) : fstW l = (⟨Jx.punct (Jx.byt l 0), 0, [], 0, 1⟩, 0) := by unfold fstW; rw [if_neg h0]; unfold Jx.word; rw [if_pos h]
theorem fstW_t {l : List UInt8} (h0 : l.length ≠ 0) (h : Jx.byt l 0 = 34) : fstW l = txtW (Jx.txt (l.drop 1)) := by
 unfold fstW; rw [if_neg h0]; unfold Jx.word; rw [if_neg (by rw [h]; decide), if_pos h]
 cases Jx.txt (l.drop 1) with
 | none => rfl
 | some r => rfl
theorem fstW_n {l : List UInt8} (h0 : l.length ≠ 0) (h : Jx.byt l 0 = 45 ∨ Jx.isD (Jx.byt l 0) = true) : fstW l = numW (Jx.num l) := by
 have hp : Jx.punct (Jx.byt l 0) = 0 := by
  rw [Jx.isD_is] at h
  have := Jx.punct_is (Jx.byt l 0)
  omega
 have h34 : Jx.byt l 0 ≠ 34 := by rw [Jx.isD_is] at h; omega
 unfold fstW; rw [if_neg h0]; unfold Jx.word numW; rw [if_neg (by omega), if_neg h34, if_pos h]
theorem fstW_l {l : List UInt8} (h0 : l.length ≠ 0) (h : Jx.punct (Jx.byt l 0) = 0) (h1 : Jx.byt l 0 ≠ 34) (h2 : ¬ (Jx.byt l 0 = 45 ∨ Jx.isD (Jx.byt l 0) = true)) : fstW l = letW l := by
 unfold fstW; rw [if_neg h0]; unfold Jx.word letW; rw [if_neg (by omega), if_neg h1, if_neg h2]; rfl
theorem fstW_a (l : List UInt8) : (fstW l).1.a = 0 := by
 by_cases h0 : l.length = 0
 · rw [fstW_end h0]
 · by_cases h : Jx.punct (Jx.byt l 0) = 0
   · by_cases h1 : Jx.byt l 0 = 34
     · rw [fstW_t h0 h1]; cases Jx.txt (l.drop 1) <;> rfl
     · by_cases h2 : Jx.byt l 0 = 45 ∨ Jx.isD (Jx.byt l 0) = true
       · rw [fstW_n h0 h2]; unfold numW; split <;> rfl
       · rw [fstW_l h0 h h1 h2]; unfold letW
         split
         · rfl
         · split
           · rfl
           · split <;> rfl
   · rw [fstW_p h0 h]
theorem tak_fst {l : List UInt8} {k q : Nat} (hk : k ≤ l.length) (hq : q = k + Jx.cnt Jx.isW (l.drop k)) :
 Jx.tak l k = if (fstW (l.drop q)).2 = 0 then ((fstW (l.drop q)).1.at_ q, 0) else (Jx.Wd.zero, (fstW (l.drop q)).2) := by
 have hl := Jx.tak_q l k hk
 rw [← hq] at hl
 by_cases h : q = l.length
 · rw [Jx.tak_e hq h, fstW_end (by rw [List.length_drop]; omega)]
   simp [Jx.Wd.at_]
 · have e : fstW (l.drop q) = Jx.word (l.drop q) := by unfold fstW; rw [if_neg (by rw [List.length_drop]; omega)]
   rw [e]
   cases hw : Jx.word (l.drop q) with
   | mk w er =>
    by_cases he : er = 0
    · subst he; rw [Jx.tak_word hq h hw]; rfl
    · rw [Jx.tak_err hq h hw he, if_neg he]
theorem jfirst_any (A : Option Addr) (c : Nat) (l : List UInt8) (w : World) (hL : Laid w) (hb : Bys w w.heap.size A l) (hl : l.length ≤ 100000000) (hc : l.length ≤ c) :
 Calls Tryz.prog 122 #[.slice A l.length c] w (TkW (fstW l) w) := by
 have CS := cell_set
 by_cases h0 : l.length = 0
 · have Z := Lib.hid (fstW_end h0)
   have q0 : ((l.length : Int) == 0) = true := by rw [beq_iff_eq]; omega
   clear hb h0
   go_enter Tryz.func122, Tryz.ntmps122
   go_wp2_with fail
   try simp only [Exit.inBlock, Exit.then]
   refine post_rj (x0 := .int .i64 11) (x1 := .int .i64 0) (x2 := .string ⟨#[]⟩) (x3 := .int .i64 0) (x4 := .int .i64 0) rfl rfl rfl (by go_simp) (by go_simp) (by go_simp) (by go_simp) (by go_simp) ?_
   exact tkW_ret Z.out rfl rfl rfl rfl rfl rfl bqq
 · have q0 : ((l.length : Int) == 0) = false := by rw [beq_eq_false_iff_ne]; omega
   have LN : (0 : Int) < (l.length : Int) := by omega
   have LP : 0 < l.length := by omega
   have hL1 := hL.alloc (.cells #[.int .i64 0, .int .i64 0, .string ⟨#[]⟩, .int .i64 0, .int .i64 0] 118)
   have hb1 := (hb.alloc (Nat.le_refl _) (.cells #[.int .i64 0, .int .i64 0, .string ⟨#[]⟩, .int .i64 0, .int .i64 0] 118)).more (B' := (w.alloc (.cells #[.int .i64 0, .int .i64 0, .string ⟨#[]⟩, .int .i64 0, .int .i64 0] 118)).heap.size) (by simp)
   have TX := Lib.hid (jtext_any A c l _ hL1 hb1 hl hc LP)
   have NM := Lib.hid (number_any A c l _ hb1 (by omega) hc LP)
   have LT := Lib.hid (letters_any A c l _ hL1 hb1 (by omega) hc LP)
   have W0 : Below w.heap.size w (w.alloc (.cells #[.int .i64 0, .int .i64 0, .string ⟨#[]⟩, .int .i64 0, .int .i64 0] 118)) := (Below.refl _ _).alloc (Nat.le_refl _) _
   obtain ⟨b, off, rfl, hB, cell⟩ := bys_cell hb LP
   rw [Nat.add_zero] at cell
   have P := Lib.hid (place_any ⟨#[123, 125, 91, 93, 58, 44]⟩ (Jx.byt l 0))
   rw [show (⟨#[123, 125, 91, 93, 58, 44]⟩ : ByteArray).data.toList = [123, 125, 91, 93, 58, 44] from rfl, place_signs _ (Jx.byt_lt l 0)] at P
   have D := Lib.hid (digit_any (Jx.byt l 0))
   have fp := @fstW_p l h0; have ft := @fstW_t l h0; have fn := @fstW_n l h0; have fl := @fstW_l l h0
   have ps := Jx.punct_is (Jx.byt l 0)
   generalize fstW l = R at *
   generalize txtW (Jx.txt (l.drop 1)) = RT at *
   generalize numW (Jx.num l) = RN at *
   generalize letW l = RL at *
   generalize Jx.byt l 0 = X at *
   obtain ⟨PX, hPX⟩ : ∃ p, p = Jx.punct X := ⟨_, rfl⟩
   rw [← hPX] at P fp fl ps
   clear hPX hb h0
   by_cases hp : PX = 0
   · subst hp
     have HP : ∀ w0, Calls Tryz.prog 147 #[.string ⟨#[123, 125, 91, 93, 58, 44]⟩, .int .u8 (X : Int)] w0 fun e w' => e = .returned (.int .i64 (-1)) ∧ w0 = w' := P.out
     have P1 := Lib.hid HP
     clear HP P ps fp
     by_cases h34 : X = 34
     · have q34 : ((X : Int) == 34) = true := by rw [beq_iff_eq]; omega
       have Z := Lib.hid (ft h34)
       clear ft fn fl D NM LT h34
       obtain ⟨⟨k, n, t, a, x⟩, er⟩ := RT
       go_enter Tryz.func122, Tryz.ntmps122
       go_wp2_with fail
       go_wp2_with fail
       with_reducible refine (P1.out _).mono ?_
       rintro e w1 ⟨rfl, rfl⟩
       go_wp2_with fail
       refine TX.out.mono ?_
       intro e w1 h1
       obtain ⟨rfl, b1⟩ := tkW_out h1
       clear h1
       have hOwn := Nat.lt_of_lt_of_le (n := w.heap.size) sdd (Below.size b1)
       have hOwn1 := Nat.ne_of_gt hOwn
       have hOwn2 := Nat.ne_of_lt hOwn
       have hOwn := ocl b1 w.heap.size 0
       have hOwn := ocl b1 w.heap.size 1
       have hOwn := ocl b1 w.heap.size 2
       have hOwn := ocl b1 w.heap.size 3
       have hOwn := ocl b1 w.heap.size 4
       have hOwn := ofr b1 w.heap.size 0
       have hOwn := ofr b1 w.heap.size 1
       have hOwn := ofr b1 w.heap.size 2
       have hOwn := ofr b1 w.heap.size 3
       have hOwn := ofr b1 w.heap.size 4
       have bb := W0.trans (b1.mono W0.size)
       go_wp2_with fail
       try simp only [Exit.inBlock, Exit.then]
       refine post_rj (x0 := .int .i64 (k : Int)) (x1 := .int .i64 n) (x2 := .string ⟨t.toArray⟩) (x3 := .int .i64 (a : Int)) (x4 := .int .i64 (x : Int)) rfl rfl rfl (by go_simp) (by go_simp) (by go_simp) (by go_simp) (by go_simp) ?_
       exact tkW_ret Z.out rfl rfl rfl rfl rfl rfl bqq
     · have q34 : ((X : Int) == 34) = false := by rw [beq_eq_false_iff_ne]; omega
       have NUM : Hid ((X = 45 ∨ Jx.isD X = true) → R = RN) := fn
       have LET : Hid (¬ (X = 45 ∨ Jx.isD X = true) → R = RL) := fl rfl h34
       clear ft fn fl TX h34
       by_cases h45 : X = 45
       · have Z := Lib.hid (NUM.out (.inl h45))
         have q45 : ((X : Int) == 45) = true := by rw [beq_iff_eq]; omega
         clear NUM LET D LT h45
         obtain ⟨⟨k, n, t, a, x⟩, er⟩ := RN
         go_enter Tryz.func122, Tryz.ntmps122
         go_wp2_with fail
         go_wp2_with fail
         with_reducible refine (P1.out _).mono ?_
         rintro e w1 ⟨rfl, rfl⟩
         go_wp2_with fail
         refine NM.out.mono ?_
         intro e w1 h1
         obtain ⟨rfl, b1⟩ := tkW_out h1
         clear h1
         have hOwn := Nat.lt_of_lt_of_le (n := w.heap.size) sdd (Below.size b1)
         have hOwn1 := Nat.ne_of_gt hOwn
         have hOwn2 := Nat.ne_of_lt hOwn
         have hOwn := ocl b1 w.heap.size 0
         have hOwn := ocl b1 w.heap.size 1
         have hOwn := ocl b1 w.heap.size 2
         have hOwn := ocl b1 w.heap.size 3
         have hOwn := ocl b1 w.heap.size 4
         have hOwn := ofr b1 w.heap.size 0
         have hOwn := ofr b1 w.heap.size 1
         have hOwn := ofr b1 w.heap.size 2
         have hOwn := ofr b1 w.heap.size 3
         have hOwn := ofr b1 w.heap.size 4
         have bb := W0.trans (b1.mono W0.size)
         go_wp2_with fail
         try simp only [Exit.inBlock, Exit.then]
         refine post_rj (x0 := .int .i64 (k : Int)) (x1 := .int .i64 n) (x2 := .string ⟨t.toArray⟩) (x3 := .int .i64 (a : Int)) (x4 := .int .i64 (x : Int)) rfl rfl rfl (by go_simp) (by go_simp) (by go_simp) (by go_simp) (by go_simp) ?_
         exact tkW_ret Z.out rfl rfl rfl rfl rfl rfl bqq
       · have q45 : ((X : Int) == 45) = false := by rw [beq_eq_false_iff_ne]; omega
         obtain ⟨DX, hDX⟩ : ∃ d, d = Jx.isD X := ⟨_, rfl⟩
         rw [← hDX] at D NUM LET
         clear hDX
         cases DX with
         | true =>
          have Z := Lib.hid (NUM.out (.inr rfl))
          clear NUM LET LT h45
          obtain ⟨⟨k, n, t, a, x⟩, er⟩ := RN
          go_enter Tryz.func122, Tryz.ntmps122
          go_wp2_with fail
          go_wp2_with fail
          with_reducible refine (P1.out _).mono ?_
          rintro e w1 ⟨rfl, rfl⟩
          go_wp2_with fail
          with_reducible refine (D.out _).mono ?_
          rintro e w1 ⟨rfl, rfl⟩
          go_wp2_with fail
          refine NM.out.mono ?_
          intro e w1 h1
          obtain ⟨rfl, b1⟩ := tkW_out h1
          clear h1
          have hOwn := Nat.lt_of_lt_of_le (n := w.heap.size) sdd (Below.size b1)
          have hOwn1 := Nat.ne_of_gt hOwn
          have hOwn2 := Nat.ne_of_lt hOwn
          have hOwn := ocl b1 w.heap.size 0
          have hOwn := ocl b1 w.heap.size 1
          have hOwn := ocl b1 w.heap.size 2
          have hOwn := ocl b1 w.heap.size 3
          have hOwn := ocl b1 w.heap.size 4
          have hOwn := ofr b1 w.heap.size 0
          have hOwn := ofr b1 w.heap.size 1
          have hOwn := ofr b1 w.heap.size 2
          have hOwn := ofr b1 w.heap.size 3
          have hOwn := ofr b1 w.heap.size 4
          have bb := W0.trans (b1.mono W0.size)
          go_wp2_with fail
          try simp only [Exit.inBlock, Exit.then]
          refine post_rj (x0 := .int .i64 (k : Int)) (x1 := .int .i64 n) (x2 := .string ⟨t.toArray⟩) (x3 := .int .i64 (a : Int)) (x4 := .int .i64 (x : Int)) rfl rfl rfl (by go_simp) (by go_simp) (by go_simp) (by go_simp) (by go_simp) ?_
          exact tkW_ret Z.out rfl rfl rfl rfl rfl rfl bqq
         | false =>
          have Z := Lib.hid (LET.out (fun h => by rcases h with h | h; (· exact h45 h); (· cases h)))
          clear NUM LET NM h45
          obtain ⟨⟨k, n, t, a, x⟩, er⟩ := RL
          go_enter Tryz.func122, Tryz.ntmps122
          go_wp2_with fail
          go_wp2_with fail
          with_reducible refine (P1.out _).mono ?_
          rintro e w1 ⟨rfl, rfl⟩
          go_wp2_with fail
          with_reducible refine (D.out _).mono ?_
          rintro e w1 ⟨rfl, rfl⟩
          go_wp2_with fail
          refine LT.out.mono ?_
          intro e w1 h1
          obtain ⟨rfl, b1⟩ := tkW_out h1
          clear h1
          have hOwn := Nat.lt_of_lt_of_le (n := w.heap.size) sdd (Below.size b1)
          have hOwn1 := Nat.ne_of_gt hOwn
          have hOwn2 := Nat.ne_of_lt hOwn
          have hOwn := ocl b1 w.heap.size 0
          have hOwn := ocl b1 w.heap.size 1
          have hOwn := ocl b1 w.heap.size 2
          have hOwn := ocl b1 w.heap.size 3
          have hOwn := ocl b1 w.heap.size 4
          have hOwn := ofr b1 w.heap.size 0
          have hOwn := ofr b1 w.heap.size 1
          have hOwn := ofr b1 w.heap.size 2
          have hOwn := ofr b1 w.heap.size 3
          have hOwn := ofr b1 w.heap.size 4
          have bb := W0.trans (b1.mono W0.size)
          go_wp2_with fail
          try simp only [Exit.inBlock, Exit.then]
          refine post_rj (x0 := .int .i64 (k : Int)) (x1 := .int .i64 n) (x2 := .string ⟨t.toArray⟩) (x3 := .int .i64 (a : Int)) (x4 := .int .i64 (x : Int)) rfl rfl rfl (by go_simp) (by go_simp) (by go_simp) (by go_simp) (by go_simp) ?_
          exact tkW_ret Z.out rfl rfl rfl rfl rfl rfl bqq
   · have Z := Lib.hid (fp hp)
     have hpx : PX ≤ 6 := by omega
     obtain ⟨I, rfl⟩ : ∃ I, PX = I + 1 := ⟨PX - 1, by omega⟩
     have HP : ∀ w0, Calls Tryz.prog 147 #[.string ⟨#[123, 125, 91, 93, 58, 44]⟩, .int .u8 (X : Int)] w0 fun e w' => e = .returned (.int .i64 (I : Int)) ∧ w0 = w' := fun w0 => (P.out w0).mono fun e w' h => ⟨by rw [h.1]; congr 2; omega, h.2⟩
     have P1 := Lib.hid HP
     have qI : decide ((0 : Int) ≤ (I : Int)) = true := by simp
     clear HP P ps fp ft fn fl D NM LT TX hp
     go_enter Tryz.func122, Tryz.ntmps122
     go_wp2_with fail
     go_wp2_with fail
     with_reducible refine (P1.out _).mono ?_
     rintro e w1 ⟨rfl, rfl⟩
     go_wp2_with fail
     with_reducible refine (P1.out _).mono ?_
     rintro e w1 ⟨rfl, rfl⟩
     go_wp2_with fail
     try simp only [Exit.inBlock, Exit.then]
     refine post_rj (x0 := .int .i64 (1 + (I : Int))) (x1 := .int .i64 0) (x2 := .string ⟨#[]⟩) (x3 := .int .i64 0) (x4 := .int .i64 1) rfl rfl rfl (by go_simp) (by go_simp) (by go_simp) (by go_simp) (by go_simp) ?_
     exact tkW_ret Z.out (by push_cast; omega) rfl rfl rfl rfl rfl bqq
end Go.Proofs.YthogheglddfniaaGreatDoor
namespace Go.Proofs.YthogheglddfniaaGreatDoor
open Go.ChangeShapes Go.WideShapes Go.ChangeAt Go.RowKit Mem
theorem jTake_good (A : Option Addr) (c : Nat) (l : List UInt8) (k : Nat) (w : World) (hL : Laid w) (hb : Bys w w.heap.size A l) (hl : l.length ≤ 100000000) (hc : l.length ≤ c) (hk : k ≤ l.length) :
 Calls Tryz.prog 81 #[.slice A l.length c, .int .i64 (k : Int)] w (TkW (Jx.tak l k) w) := by
 have CS := cell_set
 have hql := Jx.tak_q l k hk
 have cin := fun j => Jx.cnt_in Jx.isW (l.drop k) (k := j)
 have cout := Jx.cnt_out Jx.isW (l.drop k)
 have bd := Jx.byt_drop l k
 rw [List.length_drop] at cout
 obtain ⟨N, hN⟩ : ∃ N, N = Jx.cnt Jx.isW (l.drop k) := ⟨_, rfl⟩
 obtain ⟨q, hq⟩ : ∃ q, q = k + Jx.cnt Jx.isW (l.drop k) := ⟨_, rfl⟩
 have tf := tak_fst hk hq
 have fine := (Jx.tak_fine l k hk).1
 rw [← hN] at cin cout hql hq
 simp only [bd] at cin cout
 have fa0 := fstW_a (l.drop q)
 have hL1 := hL.alloc (.cells #[.int .i64 0, .int .i64 0, .string ⟨#[]⟩, .int .i64 0, .int .i64 0] 118)
 have W0 : Below w.heap.size w (w.alloc (.cells #[.int .i64 0, .int .i64 0, .string ⟨#[]⟩, .int .i64 0, .int .i64 0] 118)) := (Below.refl _ _).alloc (Nat.le_refl _) _
 have sz0 : (w.alloc (.cells #[.int .i64 0, .int .i64 0, .string ⟨#[]⟩, .int .i64 0, .int .i64 0] 118)).heap.size = w.heap.size + 1 := by simp
 have fi : ∀ A' n c', n = l.length - q → Bys w w.heap.size A' (l.drop q) → n ≤ c' → Calls Tryz.prog 122 #[.slice A' n c'] (w.alloc (.cells #[.int .i64 0, .int .i64 0, .string ⟨#[]⟩, .int .i64 0, .int .i64 0] 118)) (TkW (fstW (l.drop q)) (w.alloc (.cells #[.int .i64 0, .int .i64 0, .string ⟨#[]⟩, .int .i64 0, .int .i64 0] 118))) := fun A' n c' hn hA hc' => by
  have := jfirst_any A' c' (l.drop q) _ hL1 ((hA.alloc (Nat.le_refl _) _).more (by simp)) (by rw [List.length_drop]; omega) (by rw [List.length_drop]; omega)
  rw [List.length_drop, ← hn] at this
  exact this
 have hcut := hb.cut q c hc
 have CELL := Lib.hid (fun j hj => bys_cell hb (k := j) hj)
 obtain ⟨⟨⟨K, n, T, a, x⟩, er⟩, hr⟩ : ∃ r, r = fstW (l.drop q) := ⟨_, rfl⟩
 rw [← hr] at tf fi fa0
 obtain rfl : a = 0 := fa0
 generalize Jx.tak l k = R at *
 have CIN := Lib.hid cin; have COUT := Lib.hid cout; have HQ := Lib.hid hq; have FI := Lib.hid fi; have TF := Lib.hid tf; have FINE := Lib.hid fine
 have HC : Hid (∀ A', A' = (if c = q then A else A.map (·.add q)) → Bys w w.heap.size A' (l.drop q)) := fun A' e => e ▸ hcut
 clear cin cout bd hN hq fi tf fine hr hcut hb hL hL1
 have qb := HQ.out
 have k1 : ¬ (k : Int) < 0 := by omega
 have k2 : ¬ (l.length : Int) < (k : Int) := by omega
 go_enter Tryz.func81, Tryz.ntmps81
 go_wp2_with fail
 go_loop [1] (fun t => ∃ j : Nat, j ≤ N ∧ t = .int .i64 ((k + j : Nat) : Int)) (fun t => k + N - (intOf t).toNat)
 case atStart => exact ⟨0, by omega, rfl⟩
 case round =>
  obtain ⟨j, hj, rfl⟩ := hrel
  by_cases hjl : k + j < l.length
  · by_cases hjN : j < N
    · obtain ⟨b, off, rfl, hB, cell⟩ := CELL.out (k + j) hjl
      have D := Lib.hid (white_any (Jx.byt l (k + j)))
      rw [CIN.out j hjN] at D
      generalize Jx.byt l (k + j) = X at *
      go_wp2_with fail
      with_reducible refine (D.out _).mono ?_
      rintro e w1 ⟨rfl, rfl⟩
      go_wp2_with fail
      go_round
      case rel => exact ⟨j + 1, by omega, by go_num⟩
      case measure => simp [intOf]; omega
    · obtain rfl : j = N := by omega
      obtain ⟨b, off, rfl, hB, cell⟩ := CELL.out (k + j) hjl
      have D := Lib.hid (white_any (Jx.byt l (k + j)))
      rw [COUT.out (by omega)] at D
      have e := HQ.out
      subst e
      have hcq : c ≠ (k + j) := by omega
      have YB := Lib.hid (HC.out (some ⟨b, off + (k + j), none⟩) (by rw [if_neg hcq, Option.map_some, Mem.add_plain]))
      generalize Jx.byt l (k + j) = X at *
      clear CELL CIN COUT HC HQ hj hjN
      by_cases he : er = 0
      · subst he
        have Z := Lib.hid (TF.out.trans (if_pos rfl))
        have X0 := FINE.out
        rw [Z.out] at X0
        have xl : x + (k + j) ≤ l.length := X0.2.1
        clear X0
        go_wp2_with fail
        with_reducible refine (D.out _).mono ?_
        rintro e w1 ⟨rfl, rfl⟩
        go_wp2_with fail
        refine (FI.out _ _ _ (by first | rfl | omega | (simp; done) | (simp; omega)) (YB.out) (by first | omega | (simp; omega))).mono ?_
        intro e w1 h1
        obtain ⟨rfl, b1⟩ := tkW_out h1
        clear h1
        have bb := W0.trans (b1.mono W0.size)
        have s1 := b1.size
        rw [sz0] at s1
        have hOwn := Nat.lt_of_lt_of_le (n := w.heap.size) sdd (Below.size b1)
        have hOwn1 := Nat.ne_of_gt hOwn
        have hOwn2 := Nat.ne_of_lt hOwn
        have hOwn := ocl b1 w.heap.size 0
        have hOwn := ocl b1 w.heap.size 1
        have hOwn := ocl b1 w.heap.size 2
        have hOwn := ocl b1 w.heap.size 3
        have hOwn := ocl b1 w.heap.size 4
        have hOwn := ofr b1 w.heap.size 0
        have hOwn := ofr b1 w.heap.size 1
        have hOwn := ofr b1 w.heap.size 2
        have hOwn := ofr b1 w.heap.size 3
        have hOwn := ofr b1 w.heap.size 4
        go_wp2_with fail
        try simp only [Exit.inBlock, Exit.then]
        refine post_rj (x0 := .int .i64 (K : Int)) (x1 := .int .i64 n) (x2 := .string ⟨T.toArray⟩) (x3 := .int .i64 ((k : Int) + (j : Int))) (x4 := .int .i64 ((k : Int) + (j : Int) + (x : Int))) rfl rfl rfl (by go_simp) (by go_simp) (by go_simp) (by go_simp) (by go_simp) ?_
        exact tkW_ret Z.out rfl rfl rfl (by push_cast; omega) (by push_cast; omega) rfl bqq
      · have Z := Lib.hid (TF.out.trans (if_neg he))
        have qe : ((er : Int) != 0) = true := by rw [bne_iff_ne]; omega
        clear he
        go_wp2_with fail
        with_reducible refine (D.out _).mono ?_
        rintro e w1 ⟨rfl, rfl⟩
        go_wp2_with fail
        refine (FI.out _ _ _ (by first | rfl | omega | (simp; done) | (simp; omega)) (YB.out) (by first | omega | (simp; omega))).mono ?_
        intro e w1 h1
        obtain ⟨rfl, b1⟩ := tkW_out h1
        clear h1
        have bb := W0.trans (b1.mono W0.size)
        have s1 := b1.size
        rw [sz0] at s1
        have hOwn := Nat.lt_of_lt_of_le (n := w.heap.size) sdd (Below.size b1)
        have hOwn1 := Nat.ne_of_gt hOwn
        have hOwn2 := Nat.ne_of_lt hOwn
        have hOwn := ocl b1 w.heap.size 0
        have hOwn := ocl b1 w.heap.size 1
        have hOwn := ocl b1 w.heap.size 2
        have hOwn := ocl b1 w.heap.size 3
        have hOwn := ocl b1 w.heap.size 4
        have hOwn := ofr b1 w.heap.size 0
        have hOwn := ofr b1 w.heap.size 1
        have hOwn := ofr b1 w.heap.size 2
        have hOwn := ofr b1 w.heap.size 3
        have hOwn := ofr b1 w.heap.size 4
        go_wp2_with fail
        try simp only [Exit.inBlock, Exit.then]
        refine post_rj (x0 := .int .i64 0) (x1 := .int .i64 0) (x2 := .string ⟨#[]⟩) (x3 := .int .i64 0) (x4 := .int .i64 0) rfl rfl rfl (by go_simp) (by go_simp) (by go_simp) (by go_simp) (by go_simp) ?_
        exact tkW_ret (Z.out.trans bad_zero) rfl rfl rfl rfl rfl rfl bqq
  · obtain rfl : j = N := by omega
    have e := HQ.out
    subst e
    have hq2 : (k + j) = l.length := by omega
    have DN := Lib.hid (show ∀ A', Bys w w.heap.size A' (l.drop (k + j)) from fun A' => by rw [List.drop_eq_nil_of_le (by omega)]; exact Bys.nil _ _ _)
    have le0 : l.length - (k + j) = 0 := by omega
    have nlt : ¬ ((k : Int) + (j : Int)) < (l.length : Int) := by omega
    have HQ2 := Lib.hid hq2
    clear CELL CIN COUT HC HQ hj hq2
    by_cases hcq : c = (k + j)
    · subst hcq
      by_cases he : er = 0
      · subst he
        have Z := Lib.hid (TF.out.trans (if_pos rfl))
        have X0 := FINE.out
        rw [Z.out] at X0
        have xl : x + (k + j) ≤ l.length := X0.2.1
        clear X0
        go_wp2_with fail
        refine (FI.out _ _ _ (by first | rfl | omega | (simp; done) | (simp; omega)) (DN.out _) (by first | omega | (simp; omega))).mono ?_
        intro e w1 h1
        obtain ⟨rfl, b1⟩ := tkW_out h1
        clear h1
        have bb := W0.trans (b1.mono W0.size)
        have s1 := b1.size
        rw [sz0] at s1
        have hOwn := Nat.lt_of_lt_of_le (n := w.heap.size) sdd (Below.size b1)
        have hOwn1 := Nat.ne_of_gt hOwn
        have hOwn2 := Nat.ne_of_lt hOwn
        have hOwn := ocl b1 w.heap.size 0
        have hOwn := ocl b1 w.heap.size 1
        have hOwn := ocl b1 w.heap.size 2
        have hOwn := ocl b1 w.heap.size 3
        have hOwn := ocl b1 w.heap.size 4
        have hOwn := ofr b1 w.heap.size 0
        have hOwn := ofr b1 w.heap.size 1
        have hOwn := ofr b1 w.heap.size 2
        have hOwn := ofr b1 w.heap.size 3
        have hOwn := ofr b1 w.heap.size 4
        go_wp2_with fail
        try simp only [Exit.inBlock, Exit.then]
        refine post_rj (x0 := .int .i64 (K : Int)) (x1 := .int .i64 n) (x2 := .string ⟨T.toArray⟩) (x3 := .int .i64 ((k : Int) + (j : Int))) (x4 := .int .i64 ((k : Int) + (j : Int) + (x : Int))) rfl rfl rfl (by go_simp) (by go_simp) (by go_simp) (by go_simp) (by go_simp) ?_
        exact tkW_ret Z.out rfl rfl rfl (by push_cast; omega) (by push_cast; omega) rfl bqq
      · have Z := Lib.hid (TF.out.trans (if_neg he))
        have qe : ((er : Int) != 0) = true := by rw [bne_iff_ne]; omega
        clear he
        go_wp2_with fail
        refine (FI.out _ _ _ (by first | rfl | omega | (simp; done) | (simp; omega)) (DN.out _) (by first | omega | (simp; omega))).mono ?_
        intro e w1 h1
        obtain ⟨rfl, b1⟩ := tkW_out h1
        clear h1
        have bb := W0.trans (b1.mono W0.size)
        have s1 := b1.size
        rw [sz0] at s1
        have hOwn := Nat.lt_of_lt_of_le (n := w.heap.size) sdd (Below.size b1)
        have hOwn1 := Nat.ne_of_gt hOwn
        have hOwn2 := Nat.ne_of_lt hOwn
        have hOwn := ocl b1 w.heap.size 0
        have hOwn := ocl b1 w.heap.size 1
        have hOwn := ocl b1 w.heap.size 2
        have hOwn := ocl b1 w.heap.size 3
        have hOwn := ocl b1 w.heap.size 4
        have hOwn := ofr b1 w.heap.size 0
        have hOwn := ofr b1 w.heap.size 1
        have hOwn := ofr b1 w.heap.size 2
        have hOwn := ofr b1 w.heap.size 3
        have hOwn := ofr b1 w.heap.size 4
        go_wp2_with fail
        try simp only [Exit.inBlock, Exit.then]
        refine post_rj (x0 := .int .i64 0) (x1 := .int .i64 0) (x2 := .string ⟨#[]⟩) (x3 := .int .i64 0) (x4 := .int .i64 0) rfl rfl rfl (by go_simp) (by go_simp) (by go_simp) (by go_simp) (by go_simp) ?_
        exact tkW_ret (Z.out.trans bad_zero) rfl rfl rfl rfl rfl rfl bqq
    · by_cases he : er = 0
      · subst he
        have Z := Lib.hid (TF.out.trans (if_pos rfl))
        have X0 := FINE.out
        rw [Z.out] at X0
        have xl : x + (k + j) ≤ l.length := X0.2.1
        clear X0
        go_wp2_with fail
        refine (FI.out _ _ _ (by first | rfl | omega | (simp; done) | (simp; omega)) (DN.out _) (by first | omega | (simp; omega))).mono ?_
        intro e w1 h1
        obtain ⟨rfl, b1⟩ := tkW_out h1
        clear h1
        have bb := W0.trans (b1.mono W0.size)
        have s1 := b1.size
        rw [sz0] at s1
        have hOwn := Nat.lt_of_lt_of_le (n := w.heap.size) sdd (Below.size b1)
        have hOwn1 := Nat.ne_of_gt hOwn
        have hOwn2 := Nat.ne_of_lt hOwn
        have hOwn := ocl b1 w.heap.size 0
        have hOwn := ocl b1 w.heap.size 1
        have hOwn := ocl b1 w.heap.size 2
        have hOwn := ocl b1 w.heap.size 3
        have hOwn := ocl b1 w.heap.size 4
        have hOwn := ofr b1 w.heap.size 0
        have hOwn := ofr b1 w.heap.size 1
        have hOwn := ofr b1 w.heap.size 2
        have hOwn := ofr b1 w.heap.size 3
        have hOwn := ofr b1 w.heap.size 4
        go_wp2_with fail
        try simp only [Exit.inBlock, Exit.then]
        refine post_rj (x0 := .int .i64 (K : Int)) (x1 := .int .i64 n) (x2 := .string ⟨T.toArray⟩) (x3 := .int .i64 ((k : Int) + (j : Int))) (x4 := .int .i64 ((k : Int) + (j : Int) + (x : Int))) rfl rfl rfl (by go_simp) (by go_simp) (by go_simp) (by go_simp) (by go_simp) ?_
        exact tkW_ret Z.out rfl rfl rfl (by push_cast; omega) (by push_cast; omega) rfl bqq
      · have Z := Lib.hid (TF.out.trans (if_neg he))
        have qe : ((er : Int) != 0) = true := by rw [bne_iff_ne]; omega
        clear he
        go_wp2_with fail
        refine (FI.out _ _ _ (by first | rfl | omega | (simp; done) | (simp; omega)) (DN.out _) (by first | omega | (simp; omega))).mono ?_
        intro e w1 h1
        obtain ⟨rfl, b1⟩ := tkW_out h1
        clear h1
        have bb := W0.trans (b1.mono W0.size)
        have s1 := b1.size
        rw [sz0] at s1
        have hOwn := Nat.lt_of_lt_of_le (n := w.heap.size) sdd (Below.size b1)
        have hOwn1 := Nat.ne_of_gt hOwn
        have hOwn2 := Nat.ne_of_lt hOwn
        have hOwn := ocl b1 w.heap.size 0
        have hOwn := ocl b1 w.heap.size 1
        have hOwn := ocl b1 w.heap.size 2
        have hOwn := ocl b1 w.heap.size 3
        have hOwn := ocl b1 w.heap.size 4
        have hOwn := ofr b1 w.heap.size 0
        have hOwn := ofr b1 w.heap.size 1
        have hOwn := ofr b1 w.heap.size 2
        have hOwn := ofr b1 w.heap.size 3
        have hOwn := ofr b1 w.heap.size 4
        go_wp2_with fail
        try simp only [Exit.inBlock, Exit.then]
        refine post_rj (x0 := .int .i64 0) (x1 := .int .i64 0) (x2 := .string ⟨#[]⟩) (x3 := .int .i64 0) (x4 := .int .i64 0) rfl rfl rfl (by go_simp) (by go_simp) (by go_simp) (by go_simp) (by go_simp) ?_
        exact tkW_ret (Z.out.trans bad_zero) rfl rfl rfl rfl rfl rfl bqq
end Go.Proofs.YthogheglddfniaaGreatDoor
