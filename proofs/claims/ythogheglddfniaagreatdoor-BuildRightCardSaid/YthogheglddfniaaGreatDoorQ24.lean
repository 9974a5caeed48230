/- Joined by tools/bundle.py: JlexF. -/
import Derived.Test.YthogheglddfniaaGreatDoorQ7
import Derived.Test.YthogheglddfniaaGreatDoorQ22
import Derived.Test.YthogheglddfniaaGreatDoorQ0
set_option maxRecDepth 100000
set_option maxHeartbeats 16000000
namespace Go.Proofs.YthogheglddfniaaGreatDoor
open Go.ChangeShapes Go.WideShapes Go.ChangeAt Go.RowKit Mem
def letW (l : List UInt8) : Jx.Wd × Nat :=
 if Jx.named l Jx.sT = true then (⟨7, 1, [], 0, 4⟩, 0)
 else if Jx.named l Jx.sF = true then (⟨7, 0, [], 0, 5⟩, 0)
 else if Jx.named l Jx.sN = true then (⟨8, 0, [], 0, 4⟩, 0)
 else (⟨0, 0, [], 0, 0⟩, 20)
def Pre (l S : List UInt8) (j : Nat) : Prop := j <= l.length /\ j <= S.length /\ ∀ i, i < j -> Jx.byt l i = Jx.byt S i
theorem Pre.start (l S : List UInt8) : Pre l S 0 := ⟨Nat.zero_le _, Nat.zero_le _, fun _ hi => absurd hi (Nat.not_lt_zero _)⟩
theorem Pre.go {l S : List UInt8} {j : Nat} (h : Pre l S j) (h1 : j < l.length) (h2 : j < S.length) (e : Jx.byt l j = Jx.byt S j) : Pre l S (j + 1) := ⟨h1, h2, fun i hi => by
 rcases Nat.lt_or_ge i j with k | k
 · exact h.2.2 i k
 · obtain rfl : i = j := by omega
   exact e⟩
theorem list_byt {l S : List UInt8} (h : l.length = S.length) (k : ∀ i, i < S.length -> Jx.byt l i = Jx.byt S i) : l = S := by
 apply List.ext_getElem h
 intro i h1 h2
 have := k i h2
 unfold Jx.byt at this
 simp only [List.getD, List.getElem?_eq_getElem h1, List.getElem?_eq_getElem h2, Option.getD_some] at this
 exact UInt8.toNat_inj.1 this
theorem Pre.take {l S : List UInt8} (h : Pre l S S.length) : l.take S.length = S :=
 list_byt (by rw [List.length_take]; have := h.1; omega) fun i hi => by rw [Jx.byt_take hi]; exact h.2.2 i hi
theorem pre_take {l S : List UInt8} (h : l.take S.length = S) : Pre l S S.length := by
 have hl : S.length <= l.length := by have := congrArg List.length h; rw [List.length_take] at this; omega
 exact ⟨hl, nlr _, fun i hi => by rw [← Jx.byt_take (l := l) hi, h]⟩
theorem named_no {l S : List UInt8} (h : ¬ Pre l S S.length) : Jx.named l S = false := by
 unfold Jx.named; rw [decide_eq_false (fun e => h (pre_take e))]; rfl
theorem named_pre {l S : List UInt8} (h : Pre l S S.length) : Jx.named l S = !Jx.isL (Jx.byt l S.length) := by
 unfold Jx.named; rw [decide_eq_true h.take, Bool.true_and]
theorem pre_apart {l S T : List UInt8} (h : Pre l S S.length) (hs : 0 < S.length) (ht : 0 < T.length) (ne : Jx.byt S 0 ≠ Jx.byt T 0) : ¬ Pre l T T.length := fun k => by
 have a := h.2.2 0 hs; have b := k.2.2 0 ht
 exact ne (a.symm.trans b)
theorem letW_none {l : List UInt8} (h0 : ¬ Pre l Jx.sT Jx.sT.length) (h1 : ¬ Pre l Jx.sF Jx.sF.length) (h2 : ¬ Pre l Jx.sN Jx.sN.length) : letW l = (⟨0, 0, [], 0, 0⟩, 20) := by
 unfold letW; rw [named_no h0, named_no h1, named_no h2]; rfl
theorem letW_0 {l : List UInt8} (h : Pre l Jx.sT 4) : letW l = if Jx.isL (Jx.byt l 4) = true then (⟨0, 0, [], 0, 0⟩, 20) else (⟨7, 1, [], 0, 4⟩, 0) := by
 have h' : Pre l Jx.sT Jx.sT.length := h
 unfold letW
 rw [named_pre h', named_no (pre_apart (T := Jx.sF) h' dcq dcq dcq), named_no (pre_apart (T := Jx.sN) h' dcq dcq dcq), show Jx.sT.length = 4 from rfl]
 cases Jx.isL (Jx.byt l 4) <;> rfl
theorem letW_1 {l : List UInt8} (h : Pre l Jx.sF 5) : letW l = if Jx.isL (Jx.byt l 5) = true then (⟨0, 0, [], 0, 0⟩, 20) else (⟨7, 0, [], 0, 5⟩, 0) := by
 have h' : Pre l Jx.sF Jx.sF.length := h
 unfold letW
 rw [named_pre h', named_no (pre_apart (T := Jx.sT) h' dcq dcq dcq), named_no (pre_apart (T := Jx.sN) h' dcq dcq dcq), show Jx.sF.length = 5 from rfl]
 cases Jx.isL (Jx.byt l 5) <;> rfl
theorem letW_2 {l : List UInt8} (h : Pre l Jx.sN 4) : letW l = if Jx.isL (Jx.byt l 4) = true then (⟨0, 0, [], 0, 0⟩, 20) else (⟨8, 0, [], 0, 4⟩, 0) := by
 have h' : Pre l Jx.sN Jx.sN.length := h
 unfold letW
 rw [named_pre h', named_no (pre_apart (T := Jx.sT) h' dcq dcq dcq), named_no (pre_apart (T := Jx.sF) h' dcq dcq dcq), show Jx.sN.length = 4 from rfl]
 cases Jx.isL (Jx.byt l 4) <;> rfl
def Nos (l : List UInt8) (i : Nat) : Prop := (0 < i -> ¬ Pre l Jx.sT 4) /\ (1 < i -> ¬ Pre l Jx.sF 5) /\ (2 < i -> ¬ Pre l Jx.sN 4)
theorem str_byt (s : ByteArray) (S : List UInt8) (h : s.data.toList = S) (k : Nat) (hk : k < s.size) : (s[k]'hk).toNat = Jx.byt S k := by
 subst h
 have h2 : k < s.data.toList.length := by simpa using hk
 unfold Jx.byt
 simp [List.getD, List.getElem?_eq_getElem h2]; rfl
theorem letters_any (A : Option Addr) (c : Nat) (l : List UInt8) (w : World) (hL : Laid w) (hb : Bys w w.heap.size A l) (hl : l.length <= 60000000000) (hc : l.length <= c) (h0 : 0 < l.length) :
 Calls Tryz.prog 151 #[.slice A l.length c] w (TkW (letW l) w) := by
 have CS := cell_set
 obtain ⟨b, off, rfl, hB, _⟩ := bys_cell hb h0
 have hL1 := hL.alloc (.cells #[.int .i64 0, .int .i64 0, .string ⟨#[]⟩, .int .i64 0, .int .i64 0] 118)
 have g0 := hL1.spell 0 omq
 have g1 := hL1.spell 1 omq
 have g2 := hL1.spell 2 omq
 have g3 := hL1.spell 3 omq
 have g4 := hL1.spell 4 omq
 have g5 := hL1.spell 5 omq
 have g6 := hL1.spell 6 omq
 have g7 := hL1.spell 7 omq
 have g8 := hL1.spell 8 omq
 simp only [spells, List.getElem?_cons_zero, List.getElem?_cons_succ] at g0 g1 g2 g3 g4 g5 g6 g7 g8
 obtain ⟨s0, hs0⟩ : ∃ s : ByteArray, s = ⟨#[116, 114, 117, 101]⟩ := ⟨_, rfl⟩
 have z0 : s0.size = 4 := by rw [hs0]; rfl
 have B0 := lhq (fun k hk => str_byt s0 Jx.sT (by rw [hs0]; rfl) k hk)
 rw [← hs0] at g0
 clear hs0
 obtain ⟨s1, hs1⟩ : ∃ s : ByteArray, s = ⟨#[102, 97, 108, 115, 101]⟩ := ⟨_, rfl⟩
 have z1 : s1.size = 5 := by rw [hs1]; rfl
 have B1 := lhq (fun k hk => str_byt s1 Jx.sF (by rw [hs1]; rfl) k hk)
 rw [← hs1] at g3
 clear hs1
 obtain ⟨s2, hs2⟩ : ∃ s : ByteArray, s = ⟨#[110, 117, 108, 108]⟩ := ⟨_, rfl⟩
 have z2 : s2.size = 4 := by rw [hs2]; rfl
 have B2 := lhq (fun k hk => str_byt s2 Jx.sN (by rw [hs2]; rfl) k hk)
 rw [← hs2] at g6
 clear hs2
 have i0 : ∀ w, (Instr.index 196 (.agg #[.string s0, .int .i64 7, .int .i64 1, .string s1, .int .i64 7, .int .i64 0, .string s2, .int .i64 8, .int .i64 0]) (.int .i64 0)).run Tryz.prog w = .ok (.agg #[.string s0, .int .i64 7, .int .i64 1]) w := fun _ => by kernel_rfl
 have i1 : ∀ w, (Instr.index 196 (.agg #[.string s0, .int .i64 7, .int .i64 1, .string s1, .int .i64 7, .int .i64 0, .string s2, .int .i64 8, .int .i64 0]) (.int .i64 1)).run Tryz.prog w = .ok (.agg #[.string s1, .int .i64 7, .int .i64 0]) w := fun _ => by kernel_rfl
 have i2 : ∀ w, (Instr.index 196 (.agg #[.string s0, .int .i64 7, .int .i64 1, .string s1, .int .i64 7, .int .i64 0, .string s2, .int .i64 8, .int .i64 0]) (.int .i64 2)).run Tryz.prog w = .ok (.agg #[.string s2, .int .i64 8, .int .i64 0]) w := fun _ => by kernel_rfl
 have CELL : Hid (∀ k, k < l.length -> ∀ W, Below (w.heap.size + 1) (w.alloc (.cells #[.int .i64 0, .int .i64 0, .string ⟨#[]⟩, .int .i64 0, .int .i64 0] 118)) W -> W.cell? ⟨b, off + k, none⟩ = some (.int .u8 (Jx.byt l k : Int))) := fun k hk W h => by
  obtain ⟨b2, off2, e2, _, h2⟩ := bys_cell hb hk
  simp only [Option.some.injEq, Addr.mk.injEq, and_true] at e2
  obtain ⟨rfl, rfl⟩ := e2
  exact (h.cell (p := ⟨b, off + k, none⟩) (by show b < w.heap.size + 1; omega)).trans ((World.cell?_alloc_lt w _ ⟨b, off + k, none⟩ hB).trans h2)
 have YL : Hid (∀ k W, Below (w.heap.size + 1) (w.alloc (.cells #[.int .i64 0, .int .i64 0, .string ⟨#[]⟩, .int .i64 0, .int .i64 0] 118)) W -> Bys W w.heap.size (some ⟨b, off + k, none⟩) (l.drop k)) := fun k W h => ((hb.alloc (nlr _) _).more (Nat.le_succ _)).below h |>.keep (fun _ _ => rfl) |> fun y => (y.tail k).keep (fun _ _ => rfl) |> fun y => by
  rcases y with y | ⟨b3, o3, e3, _, h3⟩
  · exact .inl y
  · simp only [Option.some.injEq, Addr.mk.injEq, and_true] at e3
    obtain ⟨rfl, rfl⟩ := e3
    exact .inr ⟨b, _, rfl, hB, h3⟩
 have GA : Hid (∀ A' n c' W k, n = l.length - k -> Bys W w.heap.size A' (l.drop k) -> Calls Tryz.prog 172 #[.slice A' n c'] W fun e w' => e = .returned (.bool (Jx.isL (Jx.byt l k))) /\ W = w') := fun A' n c' W k hn hA => by
  have := goesOn_any A' c' (l.drop k) W _ hA
  rw [Jx.byt_drop, Nat.add_zero, List.length_drop, ← hn] at this
  exact this
 have W0 : Below w.heap.size w (w.alloc (.cells #[.int .i64 0, .int .i64 0, .string ⟨#[]⟩, .int .i64 0, .int .i64 0] 118)) := (Below.refl _ _).alloc (nlr _) _
 have sz0 : (w.alloc (.cells #[.int .i64 0, .int .i64 0, .string ⟨#[]⟩, .int .i64 0, .int .i64 0] 118)).heap.size = w.heap.size + 1 := by simp
 have SZ0 := lhq sz0
 have LN := @letW_none l; have L0 := @letW_0 l; have L1 := @letW_1 l; have L2 := @letW_2 l
 generalize letW l = R at *
 have LNH := lhq LN; have L0H := lhq L0; have L1H := lhq L1; have L2H := lhq L2
 clear LN L0 L1 L2 hb sz0 hL hL1
 go_enter Tryz.func151, Tryz.ntmps151
 go_wp2_with fail
 go_step3
 go_wp2_with fail
 go_step3
 go_wp2_with fail
 go_loopg [9] 3 (fun g t wr => ∃ i : Nat, i + g = 3 /\ i <= 3 /\ t = .int .i64 (i : Int) /\ Hid (Nos l i) /\ Below (w.heap.size + 1) (w.alloc (.cells #[.int .i64 0, .int .i64 0, .string ⟨#[]⟩, .int .i64 0, .int .i64 0] 118)) wr)
 case atStart => exact ⟨0, rfl, by omega, rfl, ⟨fun h => absurd h omq, fun h => absurd h omq, fun h => absurd h omq⟩, Below.refl _ _⟩
 case round =>
  obtain ⟨i, hg, hi, rfl, NS, bl⟩ := hrel
  have gsz := bl.size
  rw [SZ0.out] at gsz
  have hO := nll (n := w.heap.size) sdd (Below.size bl)
  have hO1 := Nat.ne_of_gt hO
  have hO2 := Nat.ne_of_lt hO
  have hO := (Below.cell bl (p := ⟨w.heap.size, 0, none⟩) sdd).trans gsr
  have hO := (Below.cell bl (p := ⟨w.heap.size, 1, none⟩) sdd).trans gsr
  have hO := (Below.cell bl (p := ⟨w.heap.size, 2, none⟩) sdd).trans gsr
  have hO := (Below.cell bl (p := ⟨w.heap.size, 3, none⟩) sdd).trans gsr
  have hO := (Below.cell bl (p := ⟨w.heap.size, 4, none⟩) sdd).trans gsr
  have hO := (Below.frozen bl (p := ⟨w.heap.size, 0, none⟩) sdd).trans gsr
  have hO := (Below.frozen bl (p := ⟨w.heap.size, 1, none⟩) sdd).trans gsr
  have hO := (Below.frozen bl (p := ⟨w.heap.size, 2, none⟩) sdd).trans gsr
  have hO := (Below.frozen bl (p := ⟨w.heap.size, 3, none⟩) sdd).trans gsr
  have hO := (Below.frozen bl (p := ⟨w.heap.size, 4, none⟩) sdd).trans gsr
  obtain rfl | rfl | rfl | rfl : i = 0 ∨ i = 1 ∨ i = 2 ∨ i = 3 := by omega
  · go_wp2_with fail
    go_loopg [15] 4 (fun g t wq => ∃ j : Nat, j + g = 4 /\ j <= 4 /\ t = .int .i64 (j : Int) /\ Hid (Pre l Jx.sT j) /\ Drewn (wr.alloc (.cells #[.string s0, .int .i64 7, .int .i64 1] 195)) wq)
    case atStart => exact ⟨0, by omega, by omega, rfl, Pre.start _ _, ⟨0, rfl⟩⟩
    case round =>
     obtain ⟨j, hg2, hj, rfl, PR, ⟨nd, rfl⟩⟩ := hrel
     have pr := PR.out
     have b2 : Below (w.heap.size + 1) (w.alloc (.cells #[.int .i64 0, .int .i64 0, .string ⟨#[]⟩, .int .i64 0, .int .i64 0] 118)) ((wr.alloc (.cells #[.string s0, .int .i64 7, .int .i64 1] 195)).drewN nd) := bel_drewN (bl.alloc gsz _) nd
     by_cases hjL : j < 4
     · have qL : decide ((j : Int) < 4) = true := by simp; omega
       by_cases hjl : j = l.length
       · have q : ((j : Int) == (l.length : Int)) = true := by rw [beq_iff_eq]; omega
         have no : ¬ Pre l Jx.sT 4 := fun h => by have := h.1; omega
         have NO := lhq no
         have HJ := lhq hjl
         clear no pr hjl
         go_wp2_with fail
         go_quiet (fail)
         go_wp2_with fail
         go_roundg 2
         case rel => exact ⟨1, rfl, by omega, rfl, ⟨fun _ => NO.out, fun h => absurd h omq, fun h => absurd h omq⟩, bel_drewN (bl.alloc gsz _) _⟩
         case measure => omega
       · have hjl2 : j < l.length := by have := pr.1; omega
         have q : ((j : Int) == (l.length : Int)) = false := by rw [beq_eq_false_iff_ne]; omega
         have cell := CELL.out j hjl2 _ (bl.alloc gsz (.cells #[.string s0, .int .i64 7, .int .i64 1] 195))
         have sb := B0.out j omq
         have hj0 : j < s0.size := by omega
         have six : ∀ W, (Instr.index 9 (.string s0) (.int .i64 (j : Int))).run Tryz.prog W = .ok (.int .u8 (Jx.byt Jx.sT j : Int)) W := fun W => by
          rw [run_index_string _ _ _ _ _ strT, dif_pos ⟨by omega, by omega⟩]
          show Result.ok (Value.int .u8 ((s0[j]'hj0).toNat : Int)) W = _
          rw [sb]
         have jL : (j : Int) < 4 := by omega
         have j0 : (0 : Int) <= (j : Int) := by omega
         by_cases hx : Jx.byt l j = Jx.byt Jx.sT j
         · have qx : ((Jx.byt l j : Int) != (Jx.byt Jx.sT j : Int)) = false := by rw [bne_eq_false_iff_eq]; omega
           have qx2 : ((Jx.byt l j : Int) != ((s0[j]'hj0).toNat : Int)) = false := by rw [bne_eq_false_iff_eq]; omega
           have PR2 := lhq (pr.go hjl2 hjL hx)
           clear pr hx hjl sb
           go_wp2_with fail
           go_quiet (fail)
           go_wp2_with fail
           go_roundg (4 - (j + 1))
           case rel => exact ⟨j + 1, by omega, by omega, by go_num, PR2, ⟨_, rfl⟩⟩
           case measure => omega
         · have qx : ((Jx.byt l j : Int) != (Jx.byt Jx.sT j : Int)) = true := by rw [bne_iff_ne]; omega
           have qx2 : ((Jx.byt l j : Int) != ((s0[j]'hj0).toNat : Int)) = true := by rw [bne_iff_ne]; omega
           have NO := lhq (fun (h : Pre l Jx.sT 4) => hx (h.2.2 j hjL))
           clear pr hx hjl sb
           go_wp2_with fail
           go_quiet (fail)
           go_wp2_with fail
           go_roundg 2
           case rel => exact ⟨1, rfl, by omega, rfl, ⟨fun _ => NO.out, fun h => absurd h omq, fun h => absurd h omq⟩, bel_drewN (bl.alloc gsz _) _⟩
           case measure => omega
     · obtain rfl : j = 4 := by omega
       have Z0 := L0H.out pr
       have hLl : 4 <= l.length := pr.1
       have yl := YL.out 4 _ b2
       have GO := lhq (fun n c' W h => GA.out (some ⟨b, off + 4, none⟩) n c' W 4 h)
       have GN := lhq (fun A' n c' W h (h2 : l.drop 4 = []) => GA.out A' n c' W 4 h (by rw [h2]; exact Bys.nil _ _ _))
       obtain ⟨LC, hLC⟩ : ∃ x, x = Jx.isL (Jx.byt l 4) := ⟨_, rfl⟩
       rw [← hLC] at Z0 GO GN
       clear hLC pr
       have hd : c = 4 -> l.drop 4 = [] := fun h => List.drop_eq_nil_of_le omq
       have HD := lhq hd
       clear hd
       cases LC with
       | true =>
        have Z := lhq (Z0.trans (if_pos rfl))
        by_cases hcL : c = 4
        · subst hcL
          go_wp2_with fail
          with_reducible refine (GN.out _ _ _ _ (by first | rfl | omega | (simp; done) | (simp; omega)) (HD.out (by first | omega | trivial))).mono ?_
          rintro e w1 ⟨rfl, rfl⟩
          go_wp2_with fail
          try rw [Exit.noGoto_ret]
          try simp only [Exit.inBlock, Exit.then]
          refine post_rj (x0 := .int .i64 0) (x1 := .int .i64 0) (x2 := .string ⟨#[]⟩) (x3 := .int .i64 0) (x4 := .int .i64 0) rfl rfl rfl gsq gsq gsq gsq gsq ?_
          exact tkW_ret Z.out rfl rfl rfl rfl rfl rfl bqq
        · go_wp2_with fail
          with_reducible refine (GO.out _ _ _ (by first | rfl | omega | (simp; done) | (simp; omega)) yl).mono ?_
          rintro e w1 ⟨rfl, rfl⟩
          go_wp2_with fail
          try rw [Exit.noGoto_ret]
          try simp only [Exit.inBlock, Exit.then]
          refine post_rj (x0 := .int .i64 0) (x1 := .int .i64 0) (x2 := .string ⟨#[]⟩) (x3 := .int .i64 0) (x4 := .int .i64 0) rfl rfl rfl gsq gsq gsq gsq gsq ?_
          exact tkW_ret Z.out rfl rfl rfl rfl rfl rfl bqq
       | false =>
        have Z := lhq (Z0.trans (if_neg smq))
        by_cases hcL : c = 4
        · subst hcL
          go_wp2_with fail
          with_reducible refine (GN.out _ _ _ _ (by first | rfl | omega | (simp; done) | (simp; omega)) (HD.out (by first | omega | trivial))).mono ?_
          rintro e w1 ⟨rfl, rfl⟩
          go_wp2_with fail
          try rw [Exit.noGoto_ret]
          try simp only [Exit.inBlock, Exit.then]
          refine post_rj (x0 := .int .i64 7) (x1 := .int .i64 1) (x2 := .string ⟨#[]⟩) (x3 := .int .i64 0) (x4 := .int .i64 4) rfl rfl rfl gsq gsq gsq gsq gsq ?_
          exact tkW_ret Z.out rfl rfl rfl rfl rfl rfl bqq
        · go_wp2_with fail
          with_reducible refine (GO.out _ _ _ (by first | rfl | omega | (simp; done) | (simp; omega)) yl).mono ?_
          rintro e w1 ⟨rfl, rfl⟩
          go_wp2_with fail
          try rw [Exit.noGoto_ret]
          try simp only [Exit.inBlock, Exit.then]
          refine post_rj (x0 := .int .i64 7) (x1 := .int .i64 1) (x2 := .string ⟨#[]⟩) (x3 := .int .i64 0) (x4 := .int .i64 4) rfl rfl rfl gsq gsq gsq gsq gsq ?_
          exact tkW_ret Z.out rfl rfl rfl rfl rfl rfl bqq
  · go_wp2_with fail
    go_loopg [15] 5 (fun g t wq => ∃ j : Nat, j + g = 5 /\ j <= 5 /\ t = .int .i64 (j : Int) /\ Hid (Pre l Jx.sF j) /\ Drewn (wr.alloc (.cells #[.string s1, .int .i64 7, .int .i64 0] 195)) wq)
    case atStart => exact ⟨0, by omega, by omega, rfl, Pre.start _ _, ⟨0, rfl⟩⟩
    case round =>
     obtain ⟨j, hg2, hj, rfl, PR, ⟨nd, rfl⟩⟩ := hrel
     have pr := PR.out
     have b2 : Below (w.heap.size + 1) (w.alloc (.cells #[.int .i64 0, .int .i64 0, .string ⟨#[]⟩, .int .i64 0, .int .i64 0] 118)) ((wr.alloc (.cells #[.string s1, .int .i64 7, .int .i64 0] 195)).drewN nd) := bel_drewN (bl.alloc gsz _) nd
     by_cases hjL : j < 5
     · have qL : decide ((j : Int) < 5) = true := by simp; omega
       by_cases hjl : j = l.length
       · have q : ((j : Int) == (l.length : Int)) = true := by rw [beq_iff_eq]; omega
         have no : ¬ Pre l Jx.sF 5 := fun h => by have := h.1; omega
         have NO := lhq no
         have HJ := lhq hjl
         clear no pr hjl
         go_wp2_with fail
         go_quiet (fail)
         go_wp2_with fail
         go_roundg 1
         case rel => exact ⟨2, rfl, by omega, rfl, ⟨fun _ => NS.out.1 omq, fun _ => NO.out, fun h => absurd h omq⟩, bel_drewN (bl.alloc gsz _) _⟩
         case measure => omega
       · have hjl2 : j < l.length := by have := pr.1; omega
         have q : ((j : Int) == (l.length : Int)) = false := by rw [beq_eq_false_iff_ne]; omega
         have cell := CELL.out j hjl2 _ (bl.alloc gsz (.cells #[.string s1, .int .i64 7, .int .i64 0] 195))
         have sb := B1.out j omq
         have hj1 : j < s1.size := by omega
         have six : ∀ W, (Instr.index 9 (.string s1) (.int .i64 (j : Int))).run Tryz.prog W = .ok (.int .u8 (Jx.byt Jx.sF j : Int)) W := fun W => by
          rw [run_index_string _ _ _ _ _ strT, dif_pos ⟨by omega, by omega⟩]
          show Result.ok (Value.int .u8 ((s1[j]'hj1).toNat : Int)) W = _
          rw [sb]
         have jL : (j : Int) < 5 := by omega
         have j0 : (0 : Int) <= (j : Int) := by omega
         by_cases hx : Jx.byt l j = Jx.byt Jx.sF j
         · have qx : ((Jx.byt l j : Int) != (Jx.byt Jx.sF j : Int)) = false := by rw [bne_eq_false_iff_eq]; omega
           have qx2 : ((Jx.byt l j : Int) != ((s1[j]'hj1).toNat : Int)) = false := by rw [bne_eq_false_iff_eq]; omega
           have PR2 := lhq (pr.go hjl2 hjL hx)
           clear pr hx hjl sb
           go_wp2_with fail
           go_quiet (fail)
           go_wp2_with fail
           go_roundg (5 - (j + 1))
           case rel => exact ⟨j + 1, by omega, by omega, by go_num, PR2, ⟨_, rfl⟩⟩
           case measure => omega
         · have qx : ((Jx.byt l j : Int) != (Jx.byt Jx.sF j : Int)) = true := by rw [bne_iff_ne]; omega
           have qx2 : ((Jx.byt l j : Int) != ((s1[j]'hj1).toNat : Int)) = true := by rw [bne_iff_ne]; omega
           have NO := lhq (fun (h : Pre l Jx.sF 5) => hx (h.2.2 j hjL))
           clear pr hx hjl sb
           go_wp2_with fail
           go_quiet (fail)
           go_wp2_with fail
           go_roundg 1
           case rel => exact ⟨2, rfl, by omega, rfl, ⟨fun _ => NS.out.1 omq, fun _ => NO.out, fun h => absurd h omq⟩, bel_drewN (bl.alloc gsz _) _⟩
           case measure => omega
     · obtain rfl : j = 5 := by omega
       have Z0 := L1H.out pr
       have hLl : 5 <= l.length := pr.1
       have yl := YL.out 5 _ b2
       have GO := lhq (fun n c' W h => GA.out (some ⟨b, off + 5, none⟩) n c' W 5 h)
       have GN := lhq (fun A' n c' W h (h2 : l.drop 5 = []) => GA.out A' n c' W 5 h (by rw [h2]; exact Bys.nil _ _ _))
       obtain ⟨LC, hLC⟩ : ∃ x, x = Jx.isL (Jx.byt l 5) := ⟨_, rfl⟩
       rw [← hLC] at Z0 GO GN
       clear hLC pr
       have hd : c = 5 -> l.drop 5 = [] := fun h => List.drop_eq_nil_of_le omq
       have HD := lhq hd
       clear hd
       cases LC with
       | true =>
        have Z := lhq (Z0.trans (if_pos rfl))
        by_cases hcL : c = 5
        · subst hcL
          go_wp2_with fail
          with_reducible refine (GN.out _ _ _ _ (by first | rfl | omega | (simp; done) | (simp; omega)) (HD.out (by first | omega | trivial))).mono ?_
          rintro e w1 ⟨rfl, rfl⟩
          go_wp2_with fail
          try rw [Exit.noGoto_ret]
          try simp only [Exit.inBlock, Exit.then]
          refine post_rj (x0 := .int .i64 0) (x1 := .int .i64 0) (x2 := .string ⟨#[]⟩) (x3 := .int .i64 0) (x4 := .int .i64 0) rfl rfl rfl gsq gsq gsq gsq gsq ?_
          exact tkW_ret Z.out rfl rfl rfl rfl rfl rfl bqq
        · go_wp2_with fail
          with_reducible refine (GO.out _ _ _ (by first | rfl | omega | (simp; done) | (simp; omega)) yl).mono ?_
          rintro e w1 ⟨rfl, rfl⟩
          go_wp2_with fail
          try rw [Exit.noGoto_ret]
          try simp only [Exit.inBlock, Exit.then]
          refine post_rj (x0 := .int .i64 0) (x1 := .int .i64 0) (x2 := .string ⟨#[]⟩) (x3 := .int .i64 0) (x4 := .int .i64 0) rfl rfl rfl gsq gsq gsq gsq gsq ?_
          exact tkW_ret Z.out rfl rfl rfl rfl rfl rfl bqq
       | false =>
        have Z := lhq (Z0.trans (if_neg smq))
        by_cases hcL : c = 5
        · subst hcL
          go_wp2_with fail
          with_reducible refine (GN.out _ _ _ _ (by first | rfl | omega | (simp; done) | (simp; omega)) (HD.out (by first | omega | trivial))).mono ?_
          rintro e w1 ⟨rfl, rfl⟩
          go_wp2_with fail
          try rw [Exit.noGoto_ret]
          try simp only [Exit.inBlock, Exit.then]
          refine post_rj (x0 := .int .i64 7) (x1 := .int .i64 0) (x2 := .string ⟨#[]⟩) (x3 := .int .i64 0) (x4 := .int .i64 5) rfl rfl rfl gsq gsq gsq gsq gsq ?_
          exact tkW_ret Z.out rfl rfl rfl rfl rfl rfl bqq
        · go_wp2_with fail
          with_reducible refine (GO.out _ _ _ (by first | rfl | omega | (simp; done) | (simp; omega)) yl).mono ?_
          rintro e w1 ⟨rfl, rfl⟩
          go_wp2_with fail
          try rw [Exit.noGoto_ret]
          try simp only [Exit.inBlock, Exit.then]
          refine post_rj (x0 := .int .i64 7) (x1 := .int .i64 0) (x2 := .string ⟨#[]⟩) (x3 := .int .i64 0) (x4 := .int .i64 5) rfl rfl rfl gsq gsq gsq gsq gsq ?_
          exact tkW_ret Z.out rfl rfl rfl rfl rfl rfl bqq
  · go_wp2_with fail
    go_loopg [15] 4 (fun g t wq => ∃ j : Nat, j + g = 4 /\ j <= 4 /\ t = .int .i64 (j : Int) /\ Hid (Pre l Jx.sN j) /\ Drewn (wr.alloc (.cells #[.string s2, .int .i64 8, .int .i64 0] 195)) wq)
    case atStart => exact ⟨0, by omega, by omega, rfl, Pre.start _ _, ⟨0, rfl⟩⟩
    case round =>
     obtain ⟨j, hg2, hj, rfl, PR, ⟨nd, rfl⟩⟩ := hrel
     have pr := PR.out
     have b2 : Below (w.heap.size + 1) (w.alloc (.cells #[.int .i64 0, .int .i64 0, .string ⟨#[]⟩, .int .i64 0, .int .i64 0] 118)) ((wr.alloc (.cells #[.string s2, .int .i64 8, .int .i64 0] 195)).drewN nd) := bel_drewN (bl.alloc gsz _) nd
     by_cases hjL : j < 4
     · have qL : decide ((j : Int) < 4) = true := by simp; omega
       by_cases hjl : j = l.length
       · have q : ((j : Int) == (l.length : Int)) = true := by rw [beq_iff_eq]; omega
         have no : ¬ Pre l Jx.sN 4 := fun h => by have := h.1; omega
         have NO := lhq no
         have HJ := lhq hjl
         clear no pr hjl
         go_wp2_with fail
         go_quiet (fail)
         go_wp2_with fail
         go_roundg 0
         case rel => exact ⟨3, rfl, by omega, rfl, ⟨fun _ => NS.out.1 omq, fun _ => NS.out.2.1 omq, fun _ => NO.out⟩, bel_drewN (bl.alloc gsz _) _⟩
         case measure => omega
       · have hjl2 : j < l.length := by have := pr.1; omega
         have q : ((j : Int) == (l.length : Int)) = false := by rw [beq_eq_false_iff_ne]; omega
         have cell := CELL.out j hjl2 _ (bl.alloc gsz (.cells #[.string s2, .int .i64 8, .int .i64 0] 195))
         have sb := B2.out j omq
         have hj2 : j < s2.size := by omega
         have six : ∀ W, (Instr.index 9 (.string s2) (.int .i64 (j : Int))).run Tryz.prog W = .ok (.int .u8 (Jx.byt Jx.sN j : Int)) W := fun W => by
          rw [run_index_string _ _ _ _ _ strT, dif_pos ⟨by omega, by omega⟩]
          show Result.ok (Value.int .u8 ((s2[j]'hj2).toNat : Int)) W = _
          rw [sb]
         have jL : (j : Int) < 4 := by omega
         have j0 : (0 : Int) <= (j : Int) := by omega
         by_cases hx : Jx.byt l j = Jx.byt Jx.sN j
         · have qx : ((Jx.byt l j : Int) != (Jx.byt Jx.sN j : Int)) = false := by rw [bne_eq_false_iff_eq]; omega
           have qx2 : ((Jx.byt l j : Int) != ((s2[j]'hj2).toNat : Int)) = false := by rw [bne_eq_false_iff_eq]; omega
           have PR2 := lhq (pr.go hjl2 hjL hx)
           clear pr hx hjl sb
           go_wp2_with fail
           go_quiet (fail)
           go_wp2_with fail
           go_roundg (4 - (j + 1))
           case rel => exact ⟨j + 1, by omega, by omega, by go_num, PR2, ⟨_, rfl⟩⟩
           case measure => omega
         · have qx : ((Jx.byt l j : Int) != (Jx.byt Jx.sN j : Int)) = true := by rw [bne_iff_ne]; omega
           have qx2 : ((Jx.byt l j : Int) != ((s2[j]'hj2).toNat : Int)) = true := by rw [bne_iff_ne]; omega
           have NO := lhq (fun (h : Pre l Jx.sN 4) => hx (h.2.2 j hjL))
           clear pr hx hjl sb
           go_wp2_with fail
           go_quiet (fail)
           go_wp2_with fail
           go_roundg 0
           case rel => exact ⟨3, rfl, by omega, rfl, ⟨fun _ => NS.out.1 omq, fun _ => NS.out.2.1 omq, fun _ => NO.out⟩, bel_drewN (bl.alloc gsz _) _⟩
           case measure => omega
     · obtain rfl : j = 4 := by omega
       have Z0 := L2H.out pr
       have hLl : 4 <= l.length := pr.1
       have yl := YL.out 4 _ b2
       have GO := lhq (fun n c' W h => GA.out (some ⟨b, off + 4, none⟩) n c' W 4 h)
       have GN := lhq (fun A' n c' W h (h2 : l.drop 4 = []) => GA.out A' n c' W 4 h (by rw [h2]; exact Bys.nil _ _ _))
       obtain ⟨LC, hLC⟩ : ∃ x, x = Jx.isL (Jx.byt l 4) := ⟨_, rfl⟩
       rw [← hLC] at Z0 GO GN
       clear hLC pr
       have hd : c = 4 -> l.drop 4 = [] := fun h => List.drop_eq_nil_of_le omq
       have HD := lhq hd
       clear hd
       cases LC with
       | true =>
        have Z := lhq (Z0.trans (if_pos rfl))
        by_cases hcL : c = 4
        · subst hcL
          go_wp2_with fail
          with_reducible refine (GN.out _ _ _ _ (by first | rfl | omega | (simp; done) | (simp; omega)) (HD.out (by first | omega | trivial))).mono ?_
          rintro e w1 ⟨rfl, rfl⟩
          go_wp2_with fail
          try rw [Exit.noGoto_ret]
          try simp only [Exit.inBlock, Exit.then]
          refine post_rj (x0 := .int .i64 0) (x1 := .int .i64 0) (x2 := .string ⟨#[]⟩) (x3 := .int .i64 0) (x4 := .int .i64 0) rfl rfl rfl gsq gsq gsq gsq gsq ?_
          exact tkW_ret Z.out rfl rfl rfl rfl rfl rfl bqq
        · go_wp2_with fail
          with_reducible refine (GO.out _ _ _ (by first | rfl | omega | (simp; done) | (simp; omega)) yl).mono ?_
          rintro e w1 ⟨rfl, rfl⟩
          go_wp2_with fail
          try rw [Exit.noGoto_ret]
          try simp only [Exit.inBlock, Exit.then]
          refine post_rj (x0 := .int .i64 0) (x1 := .int .i64 0) (x2 := .string ⟨#[]⟩) (x3 := .int .i64 0) (x4 := .int .i64 0) rfl rfl rfl gsq gsq gsq gsq gsq ?_
          exact tkW_ret Z.out rfl rfl rfl rfl rfl rfl bqq
       | false =>
        have Z := lhq (Z0.trans (if_neg smq))
        by_cases hcL : c = 4
        · subst hcL
          go_wp2_with fail
          with_reducible refine (GN.out _ _ _ _ (by first | rfl | omega | (simp; done) | (simp; omega)) (HD.out (by first | omega | trivial))).mono ?_
          rintro e w1 ⟨rfl, rfl⟩
          go_wp2_with fail
          try rw [Exit.noGoto_ret]
          try simp only [Exit.inBlock, Exit.then]
          refine post_rj (x0 := .int .i64 8) (x1 := .int .i64 0) (x2 := .string ⟨#[]⟩) (x3 := .int .i64 0) (x4 := .int .i64 4) rfl rfl rfl gsq gsq gsq gsq gsq ?_
          exact tkW_ret Z.out rfl rfl rfl rfl rfl rfl bqq
        · go_wp2_with fail
          with_reducible refine (GO.out _ _ _ (by first | rfl | omega | (simp; done) | (simp; omega)) yl).mono ?_
          rintro e w1 ⟨rfl, rfl⟩
          go_wp2_with fail
          try rw [Exit.noGoto_ret]
          try simp only [Exit.inBlock, Exit.then]
          refine post_rj (x0 := .int .i64 8) (x1 := .int .i64 0) (x2 := .string ⟨#[]⟩) (x3 := .int .i64 0) (x4 := .int .i64 4) rfl rfl rfl gsq gsq gsq gsq gsq ?_
          exact tkW_ret Z.out rfl rfl rfl rfl rfl rfl bqq
  · have Z := lhq (LNH.out (NS.out.1 omq) (NS.out.2.1 omq) (NS.out.2.2 omq))
    go_wp2_with fail
    try rw [Exit.noGoto_ret]
    try simp only [Exit.inBlock, Exit.then]
    refine post_rj (x0 := .int .i64 0) (x1 := .int .i64 0) (x2 := .string ⟨#[]⟩) (x3 := .int .i64 0) (x4 := .int .i64 0) rfl rfl rfl gsq gsq gsq gsq gsq ?_
    exact tkW_ret Z.out rfl rfl rfl rfl rfl rfl bqq
end Go.Proofs.YthogheglddfniaaGreatDoor
