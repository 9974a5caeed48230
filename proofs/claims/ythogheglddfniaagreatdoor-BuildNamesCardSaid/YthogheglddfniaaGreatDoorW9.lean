/- Joined by tools/bundle.py: NCodeC SCA BC0 BC1. -/
import Derived.Deep.LoopGhost
import Derived.BigQuiet
import Derived.Lib.SliceRun
import Derived.Deep.RegionLaw
import Derived.Test.YthogheglddfniaaGreatDoorW3
import Derived.Test.YthogheglddfniaaGreatDoorW4
import Derived.Test.YthogheglddfniaaGreatDoorW6
import Derived.Test.YthogheglddfniaaGreatDoorW8
import Derived.Test.YthogheglddfniaaGreatDoorW0
set_option maxRecDepth 100000
set_option maxHeartbeats 16000000
namespace Go.Proofs.YthogheglddfniaaGreatDoor
open Go.ChangeShapes Go.WideShapes Go.ChangeAt Go.RowKit Mem
theorem kword_at : ∀ n : Nat, n < 15 → kwords[n]? = some (.string (sst (Nm.word (n : Int)))) := by
 intro n hn
 obtain rfl | rfl | rfl | rfl | rfl | rfl | rfl | rfl | rfl | rfl | rfl | rfl | rfl | rfl | rfl : n = 0 ∨ n = 1 ∨ n = 2 ∨ n = 3 ∨ n = 4 ∨ n = 5 ∨ n = 6 ∨ n = 7 ∨ n = 8 ∨ n = 9 ∨ n = 10 ∨ n = 11 ∨ n = 12 ∨ n = 13 ∨ n = 14 := by omega
 all_goals rfl
theorem kword_idx : ∀ n : Nat, n < 15 → ∀ W, (Instr.index 158 (.agg kwords.toArray) (.int .i64 (n : Int))).run Tryz.prog W = .ok (.string (sst (Nm.word (n : Int)))) W := by
 intro n hn W
 obtain rfl | rfl | rfl | rfl | rfl | rfl | rfl | rfl | rfl | rfl | rfl | rfl | rfl | rfl | rfl : n = 0 ∨ n = 1 ∨ n = 2 ∨ n = 3 ∨ n = 4 ∨ n = 5 ∨ n = 6 ∨ n = 7 ∨ n = 8 ∨ n = 9 ∨ n = 10 ∨ n = 11 ∨ n = 12 ∨ n = 13 ∨ n = 14 := by omega
 all_goals kernel_rfl
theorem nKind_any (s : ByteArray) (_hs : s.size ≤ 1000000000) (w : World) (hL : LaidN w) : Calls Tryz.prog 86 #[.string s] w (Ans (.int .i64 (Nm.kind s.data.toList : Nat)) w) := by
 have g0 : w.cell? ⟨1, 0, none⟩ = some (.string ⟨#[]⟩) := hL.words 0 (by decide)
 have g1 : w.cell? ⟨1, 1, none⟩ = some (.string ⟨#[110, 117, 108, 108]⟩) := hL.words 1 (by decide)
 have g2 : w.cell? ⟨1, 2, none⟩ = some (.string ⟨#[98, 111, 111, 108, 101, 97, 110]⟩) := hL.words 2 (by decide)
 have g3 : w.cell? ⟨1, 3, none⟩ = some (.string ⟨#[105, 110, 116]⟩) := hL.words 3 (by decide)
 have g4 : w.cell? ⟨1, 4, none⟩ = some (.string ⟨#[108, 111, 110, 103]⟩) := hL.words 4 (by decide)
 have g5 : w.cell? ⟨1, 5, none⟩ = some (.string ⟨#[102, 108, 111, 97, 116]⟩) := hL.words 5 (by decide)
 have g6 : w.cell? ⟨1, 6, none⟩ = some (.string ⟨#[100, 111, 117, 98, 108, 101]⟩) := hL.words 6 (by decide)
 have g7 : w.cell? ⟨1, 7, none⟩ = some (.string ⟨#[98, 121, 116, 101, 115]⟩) := hL.words 7 (by decide)
 have g8 : w.cell? ⟨1, 8, none⟩ = some (.string ⟨#[115, 116, 114, 105, 110, 103]⟩) := hL.words 8 (by decide)
 have g9 : w.cell? ⟨1, 9, none⟩ = some (.string ⟨#[114, 101, 99, 111, 114, 100]⟩) := hL.words 9 (by decide)
 have g10 : w.cell? ⟨1, 10, none⟩ = some (.string ⟨#[101, 110, 117, 109]⟩) := hL.words 10 (by decide)
 have g11 : w.cell? ⟨1, 11, none⟩ = some (.string ⟨#[97, 114, 114, 97, 121]⟩) := hL.words 11 (by decide)
 have g12 : w.cell? ⟨1, 12, none⟩ = some (.string ⟨#[109, 97, 112]⟩) := hL.words 12 (by decide)
 have g13 : w.cell? ⟨1, 13, none⟩ = some (.string ⟨#[]⟩) := hL.words 13 (by decide)
 have g14 : w.cell? ⟨1, 14, none⟩ = some (.string ⟨#[102, 105, 120, 101, 100]⟩) := hL.words 14 (by decide)
 have IX := kword_idx
 unfold kwords at IX
 generalize (⟨#[110, 117, 108, 108]⟩ : ByteArray) = s1 at *
 generalize (⟨#[98, 111, 111, 108, 101, 97, 110]⟩ : ByteArray) = s2 at *
 generalize (⟨#[105, 110, 116]⟩ : ByteArray) = s3 at *
 generalize (⟨#[108, 111, 110, 103]⟩ : ByteArray) = s4 at *
 generalize (⟨#[102, 108, 111, 97, 116]⟩ : ByteArray) = s5 at *
 generalize (⟨#[100, 111, 117, 98, 108, 101]⟩ : ByteArray) = s6 at *
 generalize (⟨#[98, 121, 116, 101, 115]⟩ : ByteArray) = s7 at *
 generalize (⟨#[115, 116, 114, 105, 110, 103]⟩ : ByteArray) = s8 at *
 generalize (⟨#[114, 101, 99, 111, 114, 100]⟩ : ByteArray) = s9 at *
 generalize (⟨#[101, 110, 117, 109]⟩ : ByteArray) = s10 at *
 generalize (⟨#[97, 114, 114, 97, 121]⟩ : ByteArray) = s11 at *
 generalize (⟨#[109, 97, 112]⟩ : ByteArray) = s12 at *
 generalize (⟨#[102, 105, 120, 101, 100]⟩ : ByteArray) = s14 at *
 generalize (⟨#[]⟩ : ByteArray) = s0 at *
 have IXH := Lib.hid IX
 clear IX
 have KF2 : Hid (∀ {j : Nat}, j < 15 → (∀ m : Nat, m < j → Nm.word (m : Int) ≠ s.data.toList) → Nm.word (j : Int) = s.data.toList → Nm.kind s.data.toList = j) := fun {j} a b c => Nm.kind_first a b c
 have KN := Lib.hid (@Nm.kind_none s.data.toList)
 have TE : Hid (∀ l : List UInt8, sst l = s ↔ l = s.data.toList) := fun l => ⟨fun h => by rw [← h, sst_in], fun h => by rw [h, sst_out]⟩
 generalize Nm.kind s.data.toList = R at *
 go_enter Tryz.func86, Tryz.ntmps86
 go_wp2_with fail
 go_loopw [6] (fun t wr => ∃ j : Nat, j ≤ 15 ∧ t = .int .i64 (j : Int) ∧ Hid (∀ m : Nat, m < j → Nm.word (m : Int) ≠ s.data.toList) ∧ wr = w) (fun t _ => 15 - (intOf t).toNat)
 case atStart => exact ⟨0, Nat.zero_le _, rfl, fun _ h => absurd h (Nat.not_lt_zero _), rfl⟩
 case round =>
  obtain ⟨j, hj, rfl, AL, rfl⟩ := hrel
  by_cases hjn : j < 15
  · have qj : (j : Int) < 15 := by omega
    have ij := IXH.out j hjn
    have eT := TE.out (Nm.word (j : Int))
    by_cases he : sst (Nm.word (j : Int)) = s
    · have qe : ((sst (Nm.word (j : Int))).toList == s.toList) = true := by rw [he]; simp
      have Z : Hid (R = j) := KF2.out hjn AL.out (eT.1 he)
      generalize sst (Nm.word (j : Int)) = T at *
      clear he eT
      go_wp2_with fail
      go_ret
      exact ⟨by rw [Z.out]; rfl, Below.refl _ _⟩
    · have qe : ((sst (Nm.word (j : Int))).toList == s.toList) = false := by rw [str_beq]; simpa using he
      have NX : Hid (∀ m : Nat, m < j + 1 → Nm.word (m : Int) ≠ s.data.toList) := fun m hm => by
       rcases Nat.lt_or_ge m j with g | g
       · exact AL.out m g
       · obtain rfl : m = j := by omega
         exact fun e => he (eT.2 e)
      generalize sst (Nm.word (j : Int)) = T at *
      clear he eT
      go_wp2_with fail
      go_roundw
      case rel => exact ⟨j + 1, by omega, by go_num, NX, by first | rfl | trivial⟩
      case measure => simp [intOf]; omega
  · obtain rfl : j = 15 := by omega
    have Z : Hid (R = 0) := KN.out AL.out
    go_wp2_with fail
    go_ret
    exact ⟨by rw [Z.out]; rfl, Below.refl _ _⟩
def Sole (v : Value) (w : World) (e : Ending) (w' : World) : Prop := e = .returned v ∧ w' = w
theorem sNamed_pure (k : Int) (w : World) : Calls Tryz.prog 31 #[.int .i64 k] w (Sole (.bool (named k)) w) := by
 obtain ⟨b, hb⟩ : ∃ b, b = named k := ⟨_, rfl⟩
 rw [← hb]
 unfold named at hb
 by_cases h9 : k = 9
 · subst h9
   obtain rfl : b = true := by rw [hb]; decide
   clear hb
   go_enter Tryz.func31, Tryz.ntmps31
   go_wp2_with fail
   go_ret
   exact ⟨rfl, rfl⟩
 · have q9 : ((k : Int) == 9) = false := by rw [beq_eq_false_iff_ne]; exact h9
   by_cases h10 : k = 10
   · subst h10
     obtain rfl : b = true := by rw [hb]; decide
     clear hb q9
     go_enter Tryz.func31, Tryz.ntmps31
     go_wp2_with fail
     go_ret
     exact ⟨rfl, rfl⟩
   · have q10 : ((k : Int) == 10) = false := by rw [beq_eq_false_iff_ne]; exact h10
     by_cases h14 : k = 14
     · subst h14
       obtain rfl : b = true := by rw [hb]; decide
       clear hb q9 q10
       go_enter Tryz.func31, Tryz.ntmps31
       go_wp2_with fail
       go_ret
       exact ⟨rfl, rfl⟩
     · have q14 : ((k : Int) == 14) = false := by rw [beq_eq_false_iff_ne]; exact h14
       obtain rfl : b = false := by rw [hb, decide_eq_false_iff_not]; omega
       clear hb
       go_enter Tryz.func31, Tryz.ntmps31
       go_wp2_with fail
       go_ret
       exact ⟨rfl, rfl⟩
theorem sClone_any (l : List Int) (hs : l.length ≤ 100000000) (w : World) (A : Option Addr) (c : Nat) (h : RowD w (· < w.heap.size) 1 (l.map (D.i .i64)) A) :
 Calls Tryz.prog 98 #[.slice A l.length c] w (KidsA l w) := by
 have FL := Lib.hid (fls_fl (B := w.heap.size) (ints_fl h) (fun _ h => h))
 have nq := fun (A : Option Addr) (n c : Nat) (W : World) => Lib.run_eql_slice_nil (P := Tryz.prog) W 39 3 A n c 0 0 intT.sl
 cases A with
 | none =>
  obtain rfl : l = [] := by
   rcases l with _ | ⟨x, r⟩
   · rfl
   · obtain ⟨_, _, e, _⟩ := ints_at h (i := 0) (by simp)
     cases e
  clear h FL
  go_enter Tryz.func98, Tryz.ntmps98
  go_wp2_with fail
  go_ret
  exact kids_ret (OwnR.none_ _ w.heap.size 3 1) (Nat.le_refl _) rfl rfl (by decide) (Below.refl _ _)
 | some ad =>
  have W1 : Below w.heap.size w (w.alloc (.cells #[] 3)) := (Below.refl _ _).alloc (Nat.le_refl _) _
  have FW := Lib.hid (Fl.below FL.out W1)
  have O0 := Lib.hid (own_litR w 3 1 (Nat.le_refl w.heap.size))
  obtain ⟨n, hn⟩ : ∃ n, n = l.length := ⟨_, rfl⟩
  have HN := Lib.hid hn
  rw [← hn] at hs ⊢
  clear h FL hn
  go_enter Tryz.func98, Tryz.ntmps98
  go_wp2_with (at_builtin; refine wpList_appRs _ intT rfl (.tmp 5) (.tmp 6) rfl w.heap.size _ 0 _ rfl O0.out w.heap.size (some ad) n c (l.map (Value.int .i64)) rfl (by rw [List.length_map, HN.out]; omega) FW.out (by intro u hu; obtain ⟨x, _, rfl⟩ := List.mem_map.1 hu; rfl) (by omega) (by simp) ?_; intro v3 w3 o3 b3)
  go_ret
  exact kids_ret o3 (Nat.le_refl _) rfl (by rw [HN.out]; omega) (by rw [← HN.out]; omega) (W1.trans b3)
theorem sKids_9 (n : Nd) (hk : n.k = 9) (hs : n.fs.length ≤ 100000000) (w : World) (A2 A3 A4 A9 : Option Addr) (c2 c3 c4 c9 : Nat)
 (h : Lies w (· < w.heap.size) n.enc [.int .i64 n.k, .string n.name, .slice A2 n.al.length c2, .slice A3 n.fs.length c3, .slice A4 n.sy.length c4, .bool n.has, .string n.df, .int .i64 n.size, .int .i64 n.items, .slice A9 n.br.length c9]) :
 Calls Tryz.prog 112 #[.agg #[.int .i64 n.k, .string n.name, .slice A2 n.al.length c2, .slice A3 n.fs.length c3, .slice A4 n.sy.length c4, .bool n.has, .string n.df, .int .i64 n.size, .int .i64 n.items, .slice A9 n.br.length c9]] w (KidsA n.kids w) := by
 have CS := cell_set
 have ek : n.kids = n.fs.map Fd.ty := by unfold Nd.kids; rw [if_pos hk]
 obtain ⟨_, _, _, _, _, _, _, _, e, _, _, len3, row3, _, _, len9, row9⟩ := Nd.out.1 h
 simp only [List.cons.injEq, Value.slice.injEq, true_and, and_true] at e
 obtain ⟨⟨rfl, rfl⟩, ⟨rfl, rfl⟩, ⟨rfl, rfl⟩, rfl, rfl⟩ := e
 rw [ek, hk]
 have RW := Lib.hid row3
 obtain ⟨fs, hfs⟩ : ∃ fs, fs = n.fs := ⟨_, rfl⟩
 rw [← hfs] at hs RW ⊢
 obtain ⟨m, hm⟩ : ∃ m, m = fs.length := ⟨_, rfl⟩
 have HM := Lib.hid hm
 rw [← hm] at hs ⊢
 have W1 : Below w.heap.size w (w.alloc (.cells #[.int .i64 9, .string n.name, .slice A2 n.al.length c2, .slice A3 m c3, .slice A4 n.sy.length c4, .bool n.has, .string n.df, .int .i64 n.size, .int .i64 n.items, .slice A9 n.br.length c9] 41)) := (Below.refl _ _).alloc (Nat.le_refl _) _
 have gz : (w.alloc (.cells #[.int .i64 9, .string n.name, .slice A2 n.al.length c2, .slice A3 m c3, .slice A4 n.sy.length c4, .bool n.has, .string n.df, .int .i64 n.size, .int .i64 n.items, .slice A9 n.br.length c9] 41)).heap.size = w.heap.size + 1 := by simp
 have GZ := Lib.hid gz
 clear h row3 row9 hm hfs ek len3 len9 gz
 generalize n.al.length = e2 at *
 generalize n.sy.length = e4 at *
 generalize n.br.length = e9 at *
 have SZ : Hid (∀ (W : World) (o : Obj), (W.alloc o).heap.size = W.heap.size + 1) := fun W o => by simp
 have BK := Lib.hid (Blk.new w 41 #[.int .i64 9, .string n.name, .slice A2 e2 c2, .slice A3 m c3, .slice A4 e4 c4, .bool n.has, .string n.df, .int .i64 n.size, .int .i64 n.items, .slice A9 e9 c9])
 go_enter Tryz.func112, Tryz.ntmps112
 go_wp2_with (at_make; refine wpList_mkR0 _ intT rfl (.const (.int .i64 0)) (.tmp 12) rfl (w.heap.size + 1) _ m rfl rfl rfl (by omega) (by rw [GZ.out]; exact Nat.le_refl _) ?_; intro v0 w0 o0 b0; have z0 := b0.size; rw [GZ.out] at z0; have k3 := (b0.cell (p := ⟨w.heap.size, 3, none⟩) (Nat.lt_succ_self _)).trans ((BK.out).cell 3); simp at k3)
 go_loopw [17, 3] (fun t v wr => ∃ j : Nat, j ≤ m ∧ t = .int .i64 (j : Int) ∧ OwnR wr (w.heap.size + 1) 3 1 v j (((fs.take j).map Fd.ty).map (Value.int .i64)) ∧ Hid (Below (w.heap.size + 1) (w.alloc (.cells #[.int .i64 9, .string n.name, .slice A2 e2 c2, .slice A3 m c3, .slice A4 e4 c4, .bool n.has, .string n.df, .int .i64 n.size, .int .i64 n.items, .slice A9 e9 c9] 41)) wr)) (fun t _ _ => m - (intOf t).toNat)
 case atStart => exact ⟨0, Nat.zero_le _, rfl, o0, b0⟩
 case round =>
  obtain ⟨j, hj, rfl, ow, bl⟩ := hrel
  have bl2 := bl.out
  have z := bl2.size
  rw [GZ.out] at z
  have k3 := (bl2.cell (p := ⟨w.heap.size, 3, none⟩) (Nat.lt_succ_self _)).trans ((BK.out).cell 3)
  simp at k3
  by_cases hjm : j < m
  · have q : (j : Int) < (m : Int) := by omega
    obtain ⟨g, off, A1, c1, B3, d3, B4, d4, e, hg, ⟨f0, f1, f2, f3, f4, f5, f6, f7, f8⟩, _⟩ := fields_at RW.out (i := j) (by rw [← HM.out]; exact hjm)
    obtain rfl := e
    have hgw : g < w.heap.size := hg
    have y0 := (bl2.cell (p := ⟨g, off + j * 9, none⟩) (Nat.lt_succ_of_lt hgw)).trans ((W1.cell (p := ⟨g, off + j * 9, none⟩) hgw).trans f0)
    have y1 := (bl2.cell (p := ⟨g, off + j * 9 + 1, none⟩) (Nat.lt_succ_of_lt hgw)).trans ((W1.cell (p := ⟨g, off + j * 9 + 1, none⟩) hgw).trans f1)
    have y2 := (bl2.cell (p := ⟨g, off + j * 9 + 2, none⟩) (Nat.lt_succ_of_lt hgw)).trans ((W1.cell (p := ⟨g, off + j * 9 + 2, none⟩) hgw).trans f2)
    have y3 := (bl2.cell (p := ⟨g, off + j * 9 + 3, none⟩) (Nat.lt_succ_of_lt hgw)).trans ((W1.cell (p := ⟨g, off + j * 9 + 3, none⟩) hgw).trans f3)
    have y4 := (bl2.cell (p := ⟨g, off + j * 9 + 4, none⟩) (Nat.lt_succ_of_lt hgw)).trans ((W1.cell (p := ⟨g, off + j * 9 + 4, none⟩) hgw).trans f4)
    have y5 := (bl2.cell (p := ⟨g, off + j * 9 + 5, none⟩) (Nat.lt_succ_of_lt hgw)).trans ((W1.cell (p := ⟨g, off + j * 9 + 5, none⟩) hgw).trans f5)
    have y6 := (bl2.cell (p := ⟨g, off + j * 9 + 6, none⟩) (Nat.lt_succ_of_lt hgw)).trans ((W1.cell (p := ⟨g, off + j * 9 + 6, none⟩) hgw).trans f6)
    have y7 := (bl2.cell (p := ⟨g, off + j * 9 + 7, none⟩) (Nat.lt_succ_of_lt hgw)).trans ((W1.cell (p := ⟨g, off + j * 9 + 7, none⟩) hgw).trans f7)
    have y8 := (bl2.cell (p := ⟨g, off + j * 9 + 8, none⟩) (Nat.lt_succ_of_lt hgw)).trans ((W1.cell (p := ⟨g, off + j * 9 + 8, none⟩) hgw).trans f8)
    have TK : Hid ((fs.take (j + 1)).map Fd.ty = (fs.take j).map Fd.ty ++ [(fs[j]'(by rw [← HM.out]; exact hjm)).ty]) := by
     show _ = _
     rw [List.take_succ_eq_append_getElem (by rw [← HM.out]; exact hjm), List.map_append]; rfl
    generalize fs[j]'(by rw [← HM.out]; exact hjm) = F at *
    generalize F.al.length = l1 at *
    generalize F.df.its.length = l3 at *
    generalize F.df.ks.length = l4 at *
    clear f0 f1 f2 f3 f4 f5 f6 f7 f8
    have ow2 := ow.alloc (.cells #[.string F.name, .slice A1 l1 c1, .int .i64 F.ty, .bool F.has, .int .i64 F.df.k, .int .i64 F.df.n, .string F.df.t, .slice B3 l3 d3, .slice B4 l4 d4] 97)
    go_wp2_with (at_builtin; refine wpList_appR1 _ intT rfl (.tmp 21) (.tmp 24) rfl (w.heap.size + 1) _ j _ rfl ow2 1 #[.int .i64 F.ty] (by rw [SZ.out]; rfl) rfl (by simp [Value.oneCell']) (by omega) (by simp; omega) ?_; intro v3 w3 o3 b3 _)
    go_roundw
    case rel => exact ⟨j + 1, by omega, by go_num, by rw [TK.out, List.map_append]; exact o3, (bl2.alloc (by omega) _).trans b3⟩
    case measure => simp [intOf]; omega
  · obtain rfl : j = m := by omega
    have q : ¬ (j : Int) < (j : Int) := by omega
    have TK : fs.take j = fs := by rw [HM.out, List.take_length]
    rw [TK] at ow
    have OW := Lib.hid ow
    clear ow
    go_wp2_with fail
    go_ret
    exact kids_ret OW.out (Nat.le_succ _) rfl (by rw [List.length_map]; exact HM.out) (by rw [List.length_map, ← HM.out]; omega) (W1.trans (bl2.mono (Nat.le_succ _)))
theorem sKids_11 (n : Nd) (hk : n.k = 11) (w : World) (A2 A3 A4 A9 : Option Addr) (c2 c3 c4 c9 : Nat)
 (h : Lies w (· < w.heap.size) n.enc [.int .i64 n.k, .string n.name, .slice A2 n.al.length c2, .slice A3 n.fs.length c3, .slice A4 n.sy.length c4, .bool n.has, .string n.df, .int .i64 n.size, .int .i64 n.items, .slice A9 n.br.length c9]) :
 Calls Tryz.prog 112 #[.agg #[.int .i64 n.k, .string n.name, .slice A2 n.al.length c2, .slice A3 n.fs.length c3, .slice A4 n.sy.length c4, .bool n.has, .string n.df, .int .i64 n.size, .int .i64 n.items, .slice A9 n.br.length c9]] w (KidsA n.kids w) := by
 have CS := cell_set
 have ek : n.kids = [n.items] := by unfold Nd.kids; rw [if_neg (by omega), if_pos (by omega)]
 obtain ⟨_, _, _, _, _, _, _, _, e, _, _, len3, row3, _, _, len9, row9⟩ := Nd.out.1 h
 simp only [List.cons.injEq, Value.slice.injEq, true_and, and_true] at e
 obtain ⟨⟨rfl, rfl⟩, ⟨rfl, rfl⟩, ⟨rfl, rfl⟩, rfl, rfl⟩ := e
 rw [ek, hk]
 clear h row3 row9 ek len3 len9
 have W1 : Below w.heap.size w (w.alloc (.cells #[.int .i64 11, .string n.name, .slice A2 n.al.length c2, .slice A3 n.fs.length c3, .slice A4 n.sy.length c4, .bool n.has, .string n.df, .int .i64 n.size, .int .i64 n.items, .slice A9 n.br.length c9] 41)) := (Below.refl _ _).alloc (Nat.le_refl _) _
 have W2 : Below w.heap.size w ((w.alloc (.cells #[.int .i64 11, .string n.name, .slice A2 n.al.length c2, .slice A3 n.fs.length c3, .slice A4 n.sy.length c4, .bool n.has, .string n.df, .int .i64 n.size, .int .i64 n.items, .slice A9 n.br.length c9] 41)).alloc (.cells #[.int .i64 n.items] 3)) := W1.alloc (by simp) _
 have BK := Lib.hid (Blk.new (w.alloc (.cells #[.int .i64 11, .string n.name, .slice A2 n.al.length c2, .slice A3 n.fs.length c3, .slice A4 n.sy.length c4, .bool n.has, .string n.df, .int .i64 n.size, .int .i64 n.items, .slice A9 n.br.length c9] 41)) 3 #[.int .i64 n.items])
 go_enter Tryz.func112, Tryz.ntmps112
 go_wp2_with fail
 go_ret
 refine ⟨_, _, rfl, ⟨Nat.le_refl _, by unfold maxLen; simp⟩, row_ints (.inr ⟨_, 0, rfl, ⟨by simp, by simp⟩, fun k hk => ?_⟩), W2⟩
 have hk0 : k = 0 := by simpa using hk
 subst hk0
 have z := (BK.out).cell 0
 simp at z ⊢
 try exact z
theorem sKids_12 (n : Nd) (hk : n.k = 12) (w : World) (A2 A3 A4 A9 : Option Addr) (c2 c3 c4 c9 : Nat)
 (h : Lies w (· < w.heap.size) n.enc [.int .i64 n.k, .string n.name, .slice A2 n.al.length c2, .slice A3 n.fs.length c3, .slice A4 n.sy.length c4, .bool n.has, .string n.df, .int .i64 n.size, .int .i64 n.items, .slice A9 n.br.length c9]) :
 Calls Tryz.prog 112 #[.agg #[.int .i64 n.k, .string n.name, .slice A2 n.al.length c2, .slice A3 n.fs.length c3, .slice A4 n.sy.length c4, .bool n.has, .string n.df, .int .i64 n.size, .int .i64 n.items, .slice A9 n.br.length c9]] w (KidsA n.kids w) := by
 have CS := cell_set
 have ek : n.kids = [n.items] := by unfold Nd.kids; rw [if_neg (by omega), if_pos (by omega)]
 obtain ⟨_, _, _, _, _, _, _, _, e, _, _, len3, row3, _, _, len9, row9⟩ := Nd.out.1 h
 simp only [List.cons.injEq, Value.slice.injEq, true_and, and_true] at e
 obtain ⟨⟨rfl, rfl⟩, ⟨rfl, rfl⟩, ⟨rfl, rfl⟩, rfl, rfl⟩ := e
 rw [ek, hk]
 clear h row3 row9 ek len3 len9
 have W1 : Below w.heap.size w (w.alloc (.cells #[.int .i64 12, .string n.name, .slice A2 n.al.length c2, .slice A3 n.fs.length c3, .slice A4 n.sy.length c4, .bool n.has, .string n.df, .int .i64 n.size, .int .i64 n.items, .slice A9 n.br.length c9] 41)) := (Below.refl _ _).alloc (Nat.le_refl _) _
 have W2 : Below w.heap.size w ((w.alloc (.cells #[.int .i64 12, .string n.name, .slice A2 n.al.length c2, .slice A3 n.fs.length c3, .slice A4 n.sy.length c4, .bool n.has, .string n.df, .int .i64 n.size, .int .i64 n.items, .slice A9 n.br.length c9] 41)).alloc (.cells #[.int .i64 n.items] 3)) := W1.alloc (by simp) _
 have BK := Lib.hid (Blk.new (w.alloc (.cells #[.int .i64 12, .string n.name, .slice A2 n.al.length c2, .slice A3 n.fs.length c3, .slice A4 n.sy.length c4, .bool n.has, .string n.df, .int .i64 n.size, .int .i64 n.items, .slice A9 n.br.length c9] 41)) 3 #[.int .i64 n.items])
 go_enter Tryz.func112, Tryz.ntmps112
 go_wp2_with fail
 go_ret
 refine ⟨_, _, rfl, ⟨Nat.le_refl _, by unfold maxLen; simp⟩, row_ints (.inr ⟨_, 0, rfl, ⟨by simp, by simp⟩, fun k hk => ?_⟩), W2⟩
 have hk0 : k = 0 := by simpa using hk
 subst hk0
 have z := (BK.out).cell 0
 simp at z ⊢
 try exact z
theorem sKids_13 (n : Nd) (hk : n.k = 13) (hs : n.br.length ≤ 100000000) (w : World) (A2 A3 A4 A9 : Option Addr) (c2 c3 c4 c9 : Nat)
 (h : Lies w (· < w.heap.size) n.enc [.int .i64 n.k, .string n.name, .slice A2 n.al.length c2, .slice A3 n.fs.length c3, .slice A4 n.sy.length c4, .bool n.has, .string n.df, .int .i64 n.size, .int .i64 n.items, .slice A9 n.br.length c9]) :
 Calls Tryz.prog 112 #[.agg #[.int .i64 n.k, .string n.name, .slice A2 n.al.length c2, .slice A3 n.fs.length c3, .slice A4 n.sy.length c4, .bool n.has, .string n.df, .int .i64 n.size, .int .i64 n.items, .slice A9 n.br.length c9]] w (KidsA n.kids w) := by
 have CS := cell_set
 have ek : n.kids = n.br := by unfold Nd.kids; rw [if_neg (by omega), if_neg (by omega), if_pos hk]
 obtain ⟨_, _, _, _, _, _, _, _, e, _, _, len3, row3, _, _, len9, row9⟩ := Nd.out.1 h
 simp only [List.cons.injEq, Value.slice.injEq, true_and, and_true] at e
 obtain ⟨⟨rfl, rfl⟩, ⟨rfl, rfl⟩, ⟨rfl, rfl⟩, rfl, rfl⟩ := e
 rw [ek, hk]
 have W1 : Below w.heap.size w (w.alloc (.cells #[.int .i64 13, .string n.name, .slice A2 n.al.length c2, .slice A3 n.fs.length c3, .slice A4 n.sy.length c4, .bool n.has, .string n.df, .int .i64 n.size, .int .i64 n.items, .slice A9 n.br.length c9] 41)) := (Below.refl _ _).alloc (Nat.le_refl _) _
 have CL := Lib.hid (sClone_any n.br hs (w.alloc (.cells #[.int .i64 13, .string n.name, .slice A2 n.al.length c2, .slice A3 n.fs.length c3, .slice A4 n.sy.length c4, .bool n.has, .string n.df, .int .i64 n.size, .int .i64 n.items, .slice A9 n.br.length c9] 41)) A9 c9 (row9.on W1))
 clear h row3 row9 ek len3 len9
 go_enter Tryz.func112, Tryz.ntmps112
 go_wp2_with fail
 with_reducible refine CL.out.mono ?_
 rintro e w3 ⟨A, c, rfl, hl, hr, b3⟩
 have HR := Lib.hid hr
 clear hr
 go_wp2_with fail
 go_ret
 refine ⟨A, c, rfl, hl, (HR.out).keep (fun _ _ => rfl) fun g hg => ⟨by have := hg.1; simp at this; omega, hg.2⟩, W1.trans (b3.mono (by simp))⟩
theorem sKids_0 (n : Nd) (h9 : n.k ≠ 9) (h11 : n.k ≠ 11) (h12 : n.k ≠ 12) (h13 : n.k ≠ 13) (w : World) (A2 A3 A4 A9 : Option Addr) (c2 c3 c4 c9 : Nat)
 (h : Lies w (· < w.heap.size) n.enc [.int .i64 n.k, .string n.name, .slice A2 n.al.length c2, .slice A3 n.fs.length c3, .slice A4 n.sy.length c4, .bool n.has, .string n.df, .int .i64 n.size, .int .i64 n.items, .slice A9 n.br.length c9]) :
 Calls Tryz.prog 112 #[.agg #[.int .i64 n.k, .string n.name, .slice A2 n.al.length c2, .slice A3 n.fs.length c3, .slice A4 n.sy.length c4, .bool n.has, .string n.df, .int .i64 n.size, .int .i64 n.items, .slice A9 n.br.length c9]] w (KidsA n.kids w) := by
 have CS := cell_set
 have ek : n.kids = [] := by unfold Nd.kids; rw [if_neg h9, if_neg (by omega), if_neg h13]
 obtain ⟨_, _, _, _, _, _, _, _, e, _, _, len3, row3, _, _, len9, row9⟩ := Nd.out.1 h
 simp only [List.cons.injEq, Value.slice.injEq, true_and, and_true] at e
 obtain ⟨⟨rfl, rfl⟩, ⟨rfl, rfl⟩, ⟨rfl, rfl⟩, rfl, rfl⟩ := e
 rw [ek]
 obtain ⟨k, hk⟩ : ∃ k, k = n.k := ⟨_, rfl⟩
 rw [← hk] at h9 h11 h12 h13 ⊢
 have q9 : ((k : Int) == 9) = false := by rw [beq_eq_false_iff_ne]; exact h9
 have q11 : ((k : Int) == 11) = false := by rw [beq_eq_false_iff_ne]; exact h11
 have q12 : ((k : Int) == 12) = false := by rw [beq_eq_false_iff_ne]; exact h12
 have q13 : ((k : Int) == 13) = false := by rw [beq_eq_false_iff_ne]; exact h13
 have W1 : Below w.heap.size w (w.alloc (.cells #[.int .i64 k, .string n.name, .slice A2 n.al.length c2, .slice A3 n.fs.length c3, .slice A4 n.sy.length c4, .bool n.has, .string n.df, .int .i64 n.size, .int .i64 n.items, .slice A9 n.br.length c9] 41)) := (Below.refl _ _).alloc (Nat.le_refl _) _
 clear h row3 row9 ek len3 len9 hk h9 h11 h12 h13
 go_enter Tryz.func112, Tryz.ntmps112
 go_wp2_with fail
 go_ret
 exact kids_ret (OwnR.none_ _ w.heap.size 3 1) (Nat.le_refl _) rfl rfl (by decide) W1
theorem sKids_any (n : Nd) (h3 : n.fs.length ≤ 100000000) (h9 : n.br.length ≤ 100000000) (w : World) (A2 A3 A4 A9 : Option Addr) (c2 c3 c4 c9 : Nat)
 (h : Lies w (· < w.heap.size) n.enc [.int .i64 n.k, .string n.name, .slice A2 n.al.length c2, .slice A3 n.fs.length c3, .slice A4 n.sy.length c4, .bool n.has, .string n.df, .int .i64 n.size, .int .i64 n.items, .slice A9 n.br.length c9]) :
 Calls Tryz.prog 112 #[.agg #[.int .i64 n.k, .string n.name, .slice A2 n.al.length c2, .slice A3 n.fs.length c3, .slice A4 n.sy.length c4, .bool n.has, .string n.df, .int .i64 n.size, .int .i64 n.items, .slice A9 n.br.length c9]] w (KidsA n.kids w) := by
 by_cases k9 : n.k = 9
 · exact sKids_9 n k9 h3 w A2 A3 A4 A9 c2 c3 c4 c9 h
 · by_cases k11 : n.k = 11
   · exact sKids_11 n k11 w A2 A3 A4 A9 c2 c3 c4 c9 h
   · by_cases k12 : n.k = 12
     · exact sKids_12 n k12 w A2 A3 A4 A9 c2 c3 c4 c9 h
     · by_cases k13 : n.k = 13
       · exact sKids_13 n k13 h9 w A2 A3 A4 A9 c2 c3 c4 c9 h
       · exact sKids_0 n k9 k11 k12 k13 w A2 A3 A4 A9 c2 c3 c4 c9 h
end Go.Proofs.YthogheglddfniaaGreatDoor
namespace Go.Proofs.YthogheglddfniaaGreatDoor
open Go.ChangeShapes Go.WideShapes Go.ChangeAt Go.RowKit Mem
theorem ba_eq {a b : ByteArray} : (a == b) = true ↔ a = b := by
 obtain ⟨a⟩ := a
 obtain ⟨b⟩ := b
 constructor
 · intro h
   have : (a == b) = true := h
   rw [eq_of_beq this]
 · intro h
   obtain rfl := ByteArray.mk.inj h
   show (a == a) = true
   simp
def isN (t : ByteArray) (n : Nd) : Bool := named n.k && n.name == t
def plc : Option Nat → Int
 | some i => i
 | none => -1
theorem plc_at {l : List Nd} {t : ByteArray} {i : Nat} (hi : i < l.length) (h : isN t (l[i]'hi) = true) (hn : ∀ m (g : m < l.length), m < i → isN t (l[m]'g) = false) : plc (l.findIdx? (isN t)) = (i : Int) := by
 have : l.findIdx? (isN t) = some i := by
  rw [List.findIdx?_eq_some_iff_getElem]
  exact ⟨hi, h, fun j hj => by rw [hn j (by omega) hj]; simp⟩
 rw [this]; rfl
theorem plc_no {l : List Nd} {t : ByteArray} (hn : ∀ m (g : m < l.length), isN t (l[m]'g) = false) : plc (l.findIdx? (isN t)) = -1 := by
 have : l.findIdx? (isN t) = none := by
  rw [List.findIdx?_eq_none_iff]
  intro x hx
  obtain ⟨m, hm, rfl⟩ := List.getElem_of_mem hx
  exact hn m hm
 rw [this]; rfl
theorem find1_0 (n : Nd) (t : ByteArray) (hk : named n.k = false) (w : World) (g : Nat) (_hg : w.cell? ⟨g, 0, none⟩ = some (.string t)) (hl : g < w.heap.size) (A2 A3 A4 A9 : Option Addr) (a2 a3 a4 a9 : Nat) :
 Calls Tryz.prog 128 #[.agg #[.int .i64 n.k, .string n.name, .slice A2 n.al.length a2, .slice A3 n.fs.length a3, .slice A4 n.sy.length a4, .bool n.has, .string n.df, .int .i64 n.size, .int .i64 n.items, .slice A9 n.br.length a9], .pointer (some ⟨g, 0, none⟩)] w (Told false w) := by
 have CS := cell_set
 have NM := Lib.hid (fun W => sNamed_pure n.k W)
 rw [hk] at NM
 have ng : g ≠ w.heap.size := by omega
 clear hk
 go_enter Tryz.func128, Tryz.ntmps128
 go_wp2_with fail
 with_reducible refine (NM.out _).mono ?_
 rintro e w1 ⟨rfl, rfl⟩
 go_wp2_with fail
 go_ret
 exact told_ret rfl bqq
theorem find1_1 (n : Nd) (t : ByteArray) (hk : named n.k = true) (hn : n.name = t) (w : World) (g : Nat) (hg : w.cell? ⟨g, 0, none⟩ = some (.string t)) (hl : g < w.heap.size) (A2 A3 A4 A9 : Option Addr) (a2 a3 a4 a9 : Nat) :
 Calls Tryz.prog 128 #[.agg #[.int .i64 n.k, .string n.name, .slice A2 n.al.length a2, .slice A3 n.fs.length a3, .slice A4 n.sy.length a4, .bool n.has, .string n.df, .int .i64 n.size, .int .i64 n.items, .slice A9 n.br.length a9], .pointer (some ⟨g, 0, none⟩)] w (Told true w) := by
 have CS := cell_set
 have NM := Lib.hid (fun W => sNamed_pure n.k W)
 rw [hk] at NM
 have ng : g ≠ w.heap.size := by omega
 have sx : (n.name.toList == t.toList) = true := by rw [str_beq]; simpa using hn
 clear hk hn
 go_enter Tryz.func128, Tryz.ntmps128
 go_wp2_with fail
 with_reducible refine (NM.out _).mono ?_
 rintro e w1 ⟨rfl, rfl⟩
 go_wp2_with fail
 go_ret
 exact told_ret rfl bqq
theorem find1_2 (n : Nd) (t : ByteArray) (hk : named n.k = true) (hn : n.name ≠ t) (w : World) (g : Nat) (hg : w.cell? ⟨g, 0, none⟩ = some (.string t)) (hl : g < w.heap.size) (A2 A3 A4 A9 : Option Addr) (a2 a3 a4 a9 : Nat) :
 Calls Tryz.prog 128 #[.agg #[.int .i64 n.k, .string n.name, .slice A2 n.al.length a2, .slice A3 n.fs.length a3, .slice A4 n.sy.length a4, .bool n.has, .string n.df, .int .i64 n.size, .int .i64 n.items, .slice A9 n.br.length a9], .pointer (some ⟨g, 0, none⟩)] w (Told false w) := by
 have CS := cell_set
 have NM := Lib.hid (fun W => sNamed_pure n.k W)
 rw [hk] at NM
 have ng : g ≠ w.heap.size := by omega
 have sx : (n.name.toList == t.toList) = false := by rw [str_beq]; simpa using hn
 clear hk hn
 go_enter Tryz.func128, Tryz.ntmps128
 go_wp2_with fail
 with_reducible refine (NM.out _).mono ?_
 rintro e w1 ⟨rfl, rfl⟩
 go_wp2_with fail
 go_ret
 exact told_ret rfl bqq
theorem find1_any (n : Nd) (t : ByteArray) (w : World) (g : Nat) (hg : w.cell? ⟨g, 0, none⟩ = some (.string t)) (hl : g < w.heap.size) (A2 A3 A4 A9 : Option Addr) (a2 a3 a4 a9 : Nat) :
 Calls Tryz.prog 128 #[.agg #[.int .i64 n.k, .string n.name, .slice A2 n.al.length a2, .slice A3 n.fs.length a3, .slice A4 n.sy.length a4, .bool n.has, .string n.df, .int .i64 n.size, .int .i64 n.items, .slice A9 n.br.length a9], .pointer (some ⟨g, 0, none⟩)] w (Told (isN t n) w) := by
 unfold isN
 cases hk : named n.k with
 | false => exact find1_0 n t hk w g hg hl A2 A3 A4 A9 a2 a3 a4 a9
 | true =>
  rw [Bool.true_and]
  by_cases hn : n.name = t
  · rw [show (n.name == t) = true from ba_eq.2 hn]; exact find1_1 n t hk hn w g hg hl A2 A3 A4 A9 a2 a3 a4 a9
  · rw [show (n.name == t) = false by rw [← Bool.not_eq_true]; exact fun e => hn (ba_eq.1 e)]; exact find1_2 n t hk hn w g hg hl A2 A3 A4 A9 a2 a3 a4 a9
theorem idxF_any (l : List Nd) (t : ByteArray) (w : World) (g : Nat) (hg : w.cell? ⟨g, 0, none⟩ = some (.string t)) (hgl : g < w.heap.size) (A : Option Addr) (c : Nat) (rt : RowD w (· < w.heap.size) 10 (l.map Nd.enc) A) (hl : l.length ≤ maxLen) :
 Calls Tryz.prog 127 #[.slice A l.length c, .func (.func 128) #[] #[.pointer (some ⟨g, 0, none⟩)]] w (fun e w' => e = .returned (.int .i64 (plc (l.findIdx? (isN t)))) ∧ Below w.heap.size w w') := by
 have CS := cell_set
 obtain ⟨R, hR⟩ : ∃ R, R = plc (l.findIdx? (isN t)) := ⟨_, rfl⟩
 rw [← hR]
 have YES : Hid (∀ i (hi : i < l.length), isN t (l[i]'hi) = true → (∀ m (g : m < l.length), m < i → isN t (l[m]'g) = false) → R = (i : Int)) := fun i hi h1 h2 => hR.trans (plc_at hi h1 h2)
 have NO : Hid ((∀ m (g : m < l.length), isN t (l[m]'g) = false) → R = -1) := fun h => hR.trans (plc_no h)
 have RT := Lib.hid rt
 obtain ⟨ni, hni⟩ : ∃ m, m = l.length := ⟨_, rfl⟩
 have HNI := Lib.hid hni
 have ni0 : ni ≤ 9223372036854775807 := by unfold maxLen at hl; omega
 rw [← HNI.out]
 clear hni rt hl hR
 go_enter Tryz.func127, Tryz.ntmps127
 go_wp2_with fail
 go_loopw [8] (fun t' wr => ∃ p : Nat, p ≤ ni ∧ t' = .int .i64 (p : Int) ∧ Hid (∀ m (h1 : m < l.length), m < p → isN t (l[m]'h1) = false) ∧ Below w.heap.size w wr) (fun t' _ => ni - (intOf t').toNat)
 case atStart => exact ⟨0, by omega, rfl, fun _ _ h => absurd h (Nat.not_lt_zero _), Below.refl _ _⟩
 case round =>
  obtain ⟨p, hp, rfl, HE, bl⟩ := hrel
  have gsz := bl.size
  by_cases hpn : p < ni
  · have h1 : p < l.length := by rw [← HNI.out]; exact hpn
    obtain ⟨b1, o1, X2, x2, X3, x3, X4, x4, X9, x9, e1, hb1, ⟨y0, y1, y2, y3, y4, y5, y6, y7, y8, y9⟩, lx⟩ := nodes_at (RT.out.below bl) h1
    have lb1 : b1 < wr.heap.size := by omega
    have hg2 := (bl.cell (p := ⟨g, 0, none⟩) hgl).trans hg
    have he := HE.out
    have ST : Hid (isN t (l[p]'h1) = false → ∀ m (h1 : m < l.length), m < p + 1 → isN t (l[m]'h1) = false) := fun hx j g1 hj => by
     rcases Nat.lt_or_ge j p with g | g
     · exact he j g1 g
     · obtain rfl : j = p := by omega
       exact hx
    have YP : Hid (isN t (l[p]'h1) = true → R = (p : Int)) := fun hx => YES.out p h1 hx he
    generalize l[p]'h1 = T at *
    subst e1
    have I2 : Hid (∀ W, Below wr.heap.size wr W → Calls Tryz.prog 128 #[.agg #[.int .i64 T.k, .string T.name, .slice X2 T.al.length x2, .slice X3 T.fs.length x3, .slice X4 T.sy.length x4, .bool T.has, .string T.df, .int .i64 T.size, .int .i64 T.items, .slice X9 T.br.length x9], .pointer (some ⟨g, 0, none⟩)] W (Told (isN t T) W)) := fun W b =>
     find1_any T t W g ((b.cell (p := ⟨g, 0, none⟩) (by show g < _; omega)).trans hg2) (by have := b.size; omega) X2 X3 X4 X9 x2 x3 x4 x9
    obtain ⟨RR, hRR⟩ : ∃ RR, RR = isN t T := ⟨_, rfl⟩
    have HRR := Lib.hid hRR
    rw [← hRR] at I2
    clear he h1 lx hRR hg2
    cases RR with
    | true =>
     have Z := Lib.hid (YP.out HRR.out.symm)
     go_wp2_with fail
     with_reducible refine (I2.out _ bqq).mono ?_
     rintro e w3 ⟨rfl, b3⟩
     have bl3 : Below w.heap.size w w3 := bqq
     go_wp2_with fail
     go_ret
     exact ⟨by rw [Z.out]; rfl, bl3⟩
    | false =>
     have HE2 := Lib.hid (ST.out HRR.out.symm)
     go_wp2_with fail
     with_reducible refine (I2.out _ bqq).mono ?_
     rintro e w3 ⟨rfl, b3⟩
     have bl3 : Below w.heap.size w w3 := bqq
     go_wp2_with fail
     go_roundw
     case rel => exact ⟨p + 1, by omega, by go_num, HE2, bl3⟩
     case measure => simp [intOf]; omega
  · obtain rfl : p = ni := by omega
    have Z := Lib.hid (NO.out fun m g => HE.out m g (by rw [HNI.out]; exact g))
    clear HE hpn
    go_wp2_with fail
    go_ret
    exact ⟨by rw [Z.out]; rfl, bqq⟩
theorem sFindX_any (sc : Sc) (t : ByteArray) (w : World) (A : Option Addr) (c : Nat) (h : Lies w (· < w.heap.size) sc.enc [.slice A sc.nodes.length c, .int .i64 sc.root]) :
 Calls Tryz.prog 89 #[.agg #[.slice A sc.nodes.length c, .int .i64 sc.root], .string t] w (fun e w' => e = .returned (.int .i64 (plc (sc.find t))) ∧ Below w.heap.size w w') := by
 have CS := cell_set
 obtain ⟨_, _, e, la, ra⟩ := Sc.out.1 h
 simp only [List.cons.injEq, Value.slice.injEq, true_and, and_true] at e
 obtain ⟨rfl, rfl⟩ := e
 have IX : Hid (∀ W g, Below w.heap.size w W → W.cell? ⟨g, 0, none⟩ = some (.string t) → g < W.heap.size → Calls Tryz.prog 127 #[.slice A sc.nodes.length c, .func (.func 128) #[] #[.pointer (some ⟨g, 0, none⟩)]] W (fun e w' => e = .returned (.int .i64 (plc (sc.find t))) ∧ Below W.heap.size W w')) := fun W g b h1 h2 =>
  idxF_any sc.nodes t W g h1 h2 A c ((ra.below b).more b.size) la.2
 clear h la ra
 go_enter Tryz.func89, Tryz.ntmps89
 go_wp2_with fail
 with_reducible refine (IX.out _ _ bqq (by simp) (by simp)).mono ?_
 rintro e w3 ⟨rfl, b3⟩
 have bw : Below w.heap.size w w3 := bqq
 go_wp2_with fail
 go_ret
 exact ⟨rfl, bw⟩
end Go.Proofs.YthogheglddfniaaGreatDoor
namespace Go.Proofs.YthogheglddfniaaGreatDoor
open Go.RowKit Mem
theorem find_er (ns : List Nd) (r : Int) (t : ByteArray) : Sc.find ⟨ns, r⟩ t = findK (ns.map er) t := by
 unfold Sc.find findK
 rw [List.findIdx?_map]
 rfl
structure MkW (X : Nat → Prop) (w : World) (g r : Nat) (ns : List Nd) : Prop where
 mkr : Mkr X w 52 41 g r ns
 laid : LaidN w
 top : 5 < g
 len : ns.length ≤ 200
 out : ∀ b, X b → g < b ∧ b < w.heap.size ∧ b ≠ r
section
variable {X : Nat → Prop}
theorem MkW.below {w w' : World} {g r : Nat} {ns : List Nd} (h : MkW X w g r ns) (b : Below w.heap.size w w') : MkW X w' g r ns :=
 ⟨h.mkr.below b, LaidN.below h.laid b, h.top, h.len, fun k hk => ⟨(h.out k hk).1, Nat.lt_of_lt_of_le (h.out k hk).2.1 b.size, (h.out k hk).2.2⟩⟩
theorem MkW.go {w w' : World} {g r r' : Nat} {ns ns' : List Nd} (h : MkW X w g r ns) (s : Sav g r w.heap.size w w') (m : Mkr X w' 52 41 g r' ns') (hl : ns'.length ≤ 200) (hr : r' = r ∨ w.heap.size ≤ r') : MkW X w' g r' ns' :=
 ⟨m, Laid.below h.laid (s.bel (B' := g) (Nat.le_refl _) h.mkr.lt.2.2 (Nat.le_of_lt h.mkr.lt.1)) h.top, h.top, hl, fun k hk => ⟨(h.out k hk).1, Nat.lt_of_lt_of_le (h.out k hk).2.1 s.size, fun e => by rcases hr with z | z; exact (h.out k hk).2.2 (e.trans z); have := (h.out k hk).2.1; omega⟩⟩
theorem MkW.tree {w w' : World} {g r : Nat} {ns : List Nd} {S : Nat → Prop} {j : J} {cs : List Value} (h : MkW X w g r ns) (s : Sav g r w.heap.size w w') (hS : ∀ b, S b → b < g) (ht : TreeS w S j cs) : TreeS w' S j cs :=
 TreeS.keep (s.keeps fun k hk => ⟨Nat.lt_trans (hS k hk) h.mkr.lt.1, Nat.ne_of_lt (hS k hk), Nat.ne_of_lt (Nat.lt_of_lt_of_le (hS k hk) h.mkr.lt.2.2)⟩) (fun _ h => h) ht
end
def BPost (X : Nat → Prop) (R : Bres) (g r : Nat) (ns : List Nd) (w : World) (e : Ending) (w' : World) : Prop :=
 ∃ (pl er_ : Int), e = .returned (.tuple #[.int .i64 pl, .int .i64 er_]) ∧ Sav g r w.heap.size w w' ∧ (∀ z, R = .error z → er_ = z ∧ z ≠ 0) ∧
  ∀ ext p, R = .ok (ext, p) → er_ = 0 ∧ pl = (p : Int) ∧ ∃ r', Mkr X w' 52 41 g r' (ns ++ ext) ∧ (r' = r ∨ w.heap.size ≤ r') ∧ (ns ++ ext).length ≤ 200
section
variable {X : Nat → Prop} {R : Bres} {g r r' : Nat} {ns ext : List Nd} {w w' : World} {e : Ending} {p : Nat} {pl z : Int}
theorem bpost_no (hR : R = .error z) (hz : z ≠ 0) (pl : Int) (s : Sav g r w.heap.size w w') : BPost X R g r ns w (.returned (.tuple #[.int .i64 pl, .int .i64 z])) w' :=
 ⟨pl, z, rfl, s, (fun y hy => by rw [hR] at hy; injection hy with hy; exact ⟨hy.symm ▸ rfl, by omega⟩), (fun ext p hy => by rw [hR] at hy; cases hy)⟩
theorem bpost_ok (hR : R = .ok (ext, p)) (hp : pl = (p : Int)) (s : Sav g r w.heap.size w w') (m : Mkr X w' 52 41 g r' (ns ++ ext)) (hr : r' = r ∨ w.heap.size ≤ r') (hl : (ns ++ ext).length ≤ 200) :
 BPost X R g r ns w (.returned (.tuple #[.int .i64 pl, .int .i64 0])) w' :=
 ⟨pl, 0, rfl, s, (fun y hy => by rw [hR] at hy; cases hy), fun ext' p' hy => by
  rw [hR] at hy
  simp only [Except.ok.injEq, Prod.mk.injEq] at hy
  obtain ⟨rfl, rfl⟩ := hy
  exact ⟨rfl, hp, r', m, hr, hl⟩⟩
theorem BPost.no (h : BPost X R g r ns w e w') (hR : R = .error z) : ∃ pl : Int, e = .returned (.tuple #[.int .i64 pl, .int .i64 z]) ∧ z ≠ 0 ∧ Sav g r w.heap.size w w' := by
 obtain ⟨pl, y, rfl, s, h1, _⟩ := h
 obtain ⟨rfl, hz⟩ := h1 z hR
 exact ⟨pl, rfl, hz, s⟩
theorem BPost.yes (h : BPost X R g r ns w e w') (hR : R = .ok (ext, p)) : e = .returned (.tuple #[.int .i64 (p : Int), .int .i64 0]) ∧ Sav g r w.heap.size w w' ∧ ∃ r', Mkr X w' 52 41 g r' (ns ++ ext) ∧ (r' = r ∨ w.heap.size ≤ r') ∧ (ns ++ ext).length ≤ 200 := by
 obtain ⟨pl, y, rfl, s, _, h2⟩ := h
 obtain ⟨rfl, rfl, r', m, hr, hl⟩ := h2 ext p hR
 exact ⟨rfl, s, r', m, hr, hl⟩
end
end Go.Proofs.YthogheglddfniaaGreatDoor
namespace Go.Proofs.YthogheglddfniaaGreatDoor
open Go.ChangeShapes Go.WideShapes Go.ChangeAt Go.RowKit Mem
theorem item_any (S : Nat → Prop) (j : J) (key : ByteArray) (w : World) (hS : ∀ b, S b → b < w.heap.size) (A3 A4 : Option Addr) (c3 c4 : Nat) (ht : TreeS w S j [.int .i64 j.k, .int .i64 j.n, .string j.t, .slice A3 j.its.length c3, .slice A4 j.ks.length c4]) :
 Calls Tryz.prog 47 #[.agg #[.int .i64 j.k, .int .i64 j.n, .string j.t, .slice A3 j.its.length c3, .slice A4 j.ks.length c4], .string key] w (GotS S (j.get key) w) := by
 have CS := cell_set
 have GA := Lib.hid (fun W (b : Below w.heap.size w W) => get_anyS S j key W (fun k hk => Nat.lt_of_lt_of_le (hS k hk) b.size) A3 A4 c3 c4 (TreeS.keep (fun p hp => b.cell (hS _ hp)) (fun _ h => h) ht))
 have W0 : Hid (Below w.heap.size w ((w.alloc (.cells #[.int .i64 j.k, .int .i64 j.n, .string j.t, .slice A3 j.its.length c3, .slice A4 j.ks.length c4] 83)).alloc (.cells #[.int .i64 0, .int .i64 0, .string ⟨#[]⟩, .slice none 0 0, .slice none 0 0] 25))) := (((Below.refl _ _).alloc (Nat.le_refl _) _).alloc (by simp) _)
 have H1 : Hid (B5 ((w.alloc (.cells #[.int .i64 j.k, .int .i64 j.n, .string j.t, .slice A3 j.its.length c3, .slice A4 j.ks.length c4] 83)).alloc (.cells #[.int .i64 0, .int .i64 0, .string ⟨#[]⟩, .slice none 0 0, .slice none 0 0] 25)) (w.heap.size + 1) 25 (.int .i64 0) (.int .i64 0) (.string ⟨#[]⟩) (.slice none 0 0) (.slice none 0 0)) := B5.newat (by simp)
 have Z0 : Hid (((w.alloc (.cells #[.int .i64 j.k, .int .i64 j.n, .string j.t, .slice A3 j.its.length c3, .slice A4 j.ks.length c4] 83)).alloc (.cells #[.int .i64 0, .int .i64 0, .string ⟨#[]⟩, .slice none 0 0, .slice none 0 0] 25)).heap.size = w.heap.size + 2) := by show _ = _; simp
 obtain ⟨o, ho⟩ : ∃ o, o = j.get key := ⟨_, rfl⟩
 rw [← ho] at GA ⊢
 have HS := Lib.hid hS
 clear ht ho hS
 go_enter Tryz.func47, Tryz.ntmps47
 go_wp2_with fail
 with_reducible refine (GA.out _ W0.out).mono ?_
 rintro e w3 ⟨X3, x3, X4, x4, rfl, tx, b3⟩
 rw [Z0.out] at b3
 have bw : Below w.heap.size w w3 := W0.out.trans (b3.mono (by omega))
 have h3 := Lib.hid (B5.below H1.out b3 (by omega))
 have TX := Lib.hid tx
 have lt3 := h3.out.lt
 obtain ⟨_, _, _, _, _, _, _, _, _, _⟩ := B5.facts h3.out
 clear tx H1 W0 Z0 GA
 go_wp2_with fail
 try simp only [Exit.inBlock, Exit.then]
 refine post_jb (x0 := .int .i64 (gotten o).k) (x1 := .int .i64 (gotten o).n) (x2 := .string (gotten o).t) (x3 := .slice X3 (gotten o).its.length x3) (x4 := .slice X4 (gotten o).ks.length x4) rfl rfl rfl (by go_simp) (by go_simp) (by go_simp) (by go_simp) (by go_simp) ?_
 exact ⟨X3, x3, X4, x4, rfl, TreeS.keep (fun p hp => (show Below w.heap.size w3 _ from bqq).cell (HS.out _ hp)) (fun _ h => h) TX.out, bqq⟩
theorem nodeTm : RecT Tryz.prog 28 41 10 (.agg #[.int .i64 0, .string ⟨#[]⟩, .slice none 0 0, .slice none 0 0, .slice none 0 0, .bool false, .string ⟨#[]⟩, .int .i64 0, .int .i64 0, .slice none 0 0]) 160 := ⟨by kernel_rfl, by kernel_rfl, rfl, by decide, by decide⟩
def GotK (S : Nat → Prop) (o : Option J) (kind : Int) (w : World) (e : Ending) (w' : World) : Prop :=
 ∃ A3 c3 A4 c4, e = .returned (.tuple #[.agg #[.int .i64 (gotten o).k, .int .i64 (gotten o).n, .string (gotten o).t, .slice A3 (gotten o).its.length c3, .slice A4 (gotten o).ks.length c4], .bool (o.isSome && decide ((gotten o).k = kind))]) ∧
  TreeS w' S (gotten o) [.int .i64 (gotten o).k, .int .i64 (gotten o).n, .string (gotten o).t, .slice A3 (gotten o).its.length c3, .slice A4 (gotten o).ks.length c4] ∧ Below w.heap.size w w'
theorem one_any (S : Nat → Prop) (j : J) (key : ByteArray) (kind : Int) (w : World) (hS : ∀ b, S b → b < w.heap.size) (A3 A4 : Option Addr) (c3 c4 : Nat) (ht : TreeS w S j [.int .i64 j.k, .int .i64 j.n, .string j.t, .slice A3 j.its.length c3, .slice A4 j.ks.length c4]) :
 Calls Tryz.prog 91 #[.func (.func 47) #[.agg #[.int .i64 j.k, .int .i64 j.n, .string j.t, .slice A3 j.its.length c3, .slice A4 j.ks.length c4]] #[], .string key, .int .i64 kind] w (GotK S (j.get key) kind w) := by
 have CS := cell_set
 have GA := Lib.hid (fun W (b : Below w.heap.size w W) => item_any S j key W (fun k hk => Nat.lt_of_lt_of_le (hS k hk) b.size) A3 A4 c3 c4 (TreeS.keep (fun p hp => b.cell (hS _ hp)) (fun _ h => h) ht))
 have W0 : Hid (Below w.heap.size w (w.alloc (.cells #[.int .i64 0, .int .i64 0, .string ⟨#[]⟩, .slice none 0 0, .slice none 0 0] 25))) := ((Below.refl _ _).alloc (Nat.le_refl _) _)
 have H1 : Hid (B5 (w.alloc (.cells #[.int .i64 0, .int .i64 0, .string ⟨#[]⟩, .slice none 0 0, .slice none 0 0] 25)) w.heap.size 25 (.int .i64 0) (.int .i64 0) (.string ⟨#[]⟩) (.slice none 0 0) (.slice none 0 0)) := B5.newat (by simp)
 have Z0 : Hid ((w.alloc (.cells #[.int .i64 0, .int .i64 0, .string ⟨#[]⟩, .slice none 0 0, .slice none 0 0] 25)).heap.size = w.heap.size + 1) := by show _ = _; simp
 obtain ⟨o, ho⟩ : ∃ o, o = j.get key := ⟨_, rfl⟩
 rw [← ho] at GA ⊢
 have HS := Lib.hid hS
 clear ht ho hS
 go_enter Tryz.func91, Tryz.ntmps91
 go_wp2_with fail
 with_reducible refine (GA.out _ W0.out).mono ?_
 rintro e w3 ⟨X3, x3, X4, x4, rfl, tx, b3⟩
 rw [Z0.out] at b3
 have bw : Below w.heap.size w w3 := W0.out.trans (b3.mono (by omega))
 have h3 := Lib.hid (B5.below H1.out b3 (by omega))
 have lt3 := h3.out.lt
 have PO : Hid (∀ b : Bool, b = (o.isSome && decide ((gotten o).k = kind)) → ∀ W, Below w.heap.size w W → Below w.heap.size w3 W → GotK S o kind w (.returned (.tuple #[.agg #[.int .i64 (gotten o).k, .int .i64 (gotten o).n, .string (gotten o).t, .slice X3 (gotten o).its.length x3, .slice X4 (gotten o).ks.length x4], .bool b])) W) := fun b hb W bl hk => by
  subst hb
  exact ⟨X3, x3, X4, x4, rfl, TreeS.keep (fun p hp => hk.cell (HS.out _ hp)) (fun _ h => h) tx, bl⟩
 obtain ⟨_, _, _, _, _, _, _, _, _, _⟩ := B5.facts h3.out
 clear tx H1 W0 Z0 GA
 generalize (gotten o).n = K1 at *
 generalize (gotten o).t = K2 at *
 generalize (gotten o).its.length = l3 at *
 generalize (gotten o).ks.length = l4 at *
 generalize (gotten o).k = K0 at *
 generalize o.isSome = os at *
 cases os with
 | false =>
  go_wp2_with fail
  go_region
  go_wp2_with fail
  try simp only [Exit.inBlock, Exit.then]
  refine post_jb (x0 := .int .i64 K0) (x1 := .int .i64 K1) (x2 := .string K2) (x3 := .slice X3 l3 x3) (x4 := .slice X4 l4 x4) rfl rfl rfl (by go_simp) (by go_simp) (by go_simp) (by go_simp) (by go_simp) ?_
  exact PO.out false (by first | rfl | (simp; done)) _ bqq bqq
 | true =>
 by_cases hk : K0 = kind
 · have q : (K0 == kind) = true := by rw [beq_iff_eq]; exact hk
   have q2 : decide (K0 = kind) = true := decide_eq_true hk
   rw [q2] at PO
   clear hk q2
   go_wp2_with fail
   go_region
   go_wp2_with fail
   try simp only [Exit.inBlock, Exit.then]
   refine post_jb (x0 := .int .i64 K0) (x1 := .int .i64 K1) (x2 := .string K2) (x3 := .slice X3 l3 x3) (x4 := .slice X4 l4 x4) rfl rfl rfl (by go_simp) (by go_simp) (by go_simp) (by go_simp) (by go_simp) ?_
   exact PO.out true (by first | rfl | (simp; done)) _ bqq bqq
 · have q : (K0 == kind) = false := by rw [beq_eq_false_iff_ne]; exact hk
   have q2 : decide (K0 = kind) = false := decide_eq_false hk
   rw [q2] at PO
   clear hk q2
   go_wp2_with fail
   go_region
   go_wp2_with fail
   try simp only [Exit.inBlock, Exit.then]
   refine post_jb (x0 := .int .i64 K0) (x1 := .int .i64 K1) (x2 := .string K2) (x3 := .slice X3 l3 x3) (x4 := .slice X4 l4 x4) rfl rfl rfl (by go_simp) (by go_simp) (by go_simp) (by go_simp) (by go_simp) ?_
   exact PO.out false (by first | rfl | (simp; done)) _ bqq bqq
theorem add_any {X : Nat → Prop} (n : Nd) (g r : Nat) (ns : List Nd) (w : World) (h : MkW X w g r ns) (A2 A3 A4 A9 : Option Addr) (c2 c3 c4 c9 : Nat) (hd : Lies w (fun b => b < w.heap.size ∧ b ≠ g ∧ b ≠ r ∧ ¬ X b) n.enc [.int .i64 n.k, .string n.name, .slice A2 n.al.length c2, .slice A3 n.fs.length c3, .slice A4 n.sy.length c4, .bool n.has, .string n.df, .int .i64 n.size, .int .i64 n.items, .slice A9 n.br.length c9]) (R : Bres) (hR : R = if ns.length = 200 then .error 3 else .ok ([n], ns.length)) :
 Calls Tryz.prog 87 #[.pointer (some ⟨g, 0, none⟩), .agg #[.int .i64 n.k, .string n.name, .slice A2 n.al.length c2, .slice A3 n.fs.length c3, .slice A4 n.sy.length c4, .bool n.has, .string n.df, .int .i64 n.size, .int .i64 n.items, .slice A9 n.br.length c9]] w (BPost X R g r ns w) := by
 have CS := cell_set
 obtain ⟨A, c, hB, hc, hA, hRN, _⟩ := h.mkr.out
 have lg := h.mkr.lt
 have hl := h.len
 have R0 := Lib.hid (RowN.below hRN ((Below.refl _ _).alloc (Nat.le_refl _) (.cells #[.int .i64 n.k, .string n.name, .slice A2 n.al.length c2, .slice A3 n.fs.length c3, .slice A4 n.sy.length c4, .bool n.has, .string n.df, .int .i64 n.size, .int .i64 n.items, .slice A9 n.br.length c9] 41)))
 have D0 : Hid (Lies (w.alloc (.cells #[.int .i64 n.k, .string n.name, .slice A2 n.al.length c2, .slice A3 n.fs.length c3, .slice A4 n.sy.length c4, .bool n.has, .string n.df, .int .i64 n.size, .int .i64 n.items, .slice A9 n.br.length c9] 41)) (fun b => b < (w.alloc (.cells #[.int .i64 n.k, .string n.name, .slice A2 n.al.length c2, .slice A3 n.fs.length c3, .slice A4 n.sy.length c4, .bool n.has, .string n.df, .int .i64 n.size, .int .i64 n.items, .slice A9 n.br.length c9] 41)).heap.size ∧ b ≠ g ∧ b ≠ r ∧ ¬ X b) n.enc [.int .i64 n.k, .string n.name, .slice A2 n.al.length c2, .slice A3 n.fs.length c3, .slice A4 n.sy.length c4, .bool n.has, .string n.df, .int .i64 n.size, .int .i64 n.items, .slice A9 n.br.length c9]) := hd.keep (fun p hp => ((Below.refl w.heap.size w).alloc (Nat.le_refl _) _).cell hp.1) (fun b hb => ⟨by simp; omega, hb.2⟩)
 have B0 := Lib.hid (B2.alloc hB (.cells #[.int .i64 n.k, .string n.name, .slice A2 n.al.length c2, .slice A3 n.fs.length c3, .slice A4 n.sy.length c4, .bool n.has, .string n.df, .int .i64 n.size, .int .i64 n.items, .slice A9 n.br.length c9] 41))
 have N0 := Lib.hid (B10.newat (w := w) (t := 41) (x0 := .int .i64 n.k) (x1 := .string n.name) (x2 := .slice A2 n.al.length c2) (x3 := .slice A3 n.fs.length c3) (x4 := .slice A4 n.sy.length c4) (x5 := .bool n.has) (x6 := .string n.df) (x7 := .int .i64 n.size) (x8 := .int .i64 n.items) (x9 := .slice A9 n.br.length c9) rfl)
 have hBB := Lib.hid hB
 have HR := Lib.hid hR
 have S0 : Hid (Sav g r w.heap.size w (w.alloc (.cells #[.int .i64 n.k, .string n.name, .slice A2 n.al.length c2, .slice A3 n.fs.length c3, .slice A4 n.sy.length c4, .bool n.has, .string n.df, .int .i64 n.size, .int .i64 n.items, .slice A9 n.br.length c9] 41))) := (Sav.refl _ _ _ _).alloc (Nat.le_refl _) _
 have Z0 : Hid ((w.alloc (.cells #[.int .i64 n.k, .string n.name, .slice A2 n.al.length c2, .slice A3 n.fs.length c3, .slice A4 n.sy.length c4, .bool n.has, .string n.df, .int .i64 n.size, .int .i64 n.items, .slice A9 n.br.length c9] 41)).heap.size = w.heap.size + 1) := by show _ = _; simp
 obtain ⟨m, hm⟩ : ∃ m, m = ns.length := ⟨_, rfl⟩
 have HM := Lib.hid hm
 have ng : g ≠ w.heap.size := by omega
 rw [← hm] at hBB B0 HR hl R0
 obtain ⟨_, _, _, _⟩ := B2.facts hBB.out
 clear h hd hRN hB hA hc hm
 by_cases h2 : m = 200
 · have q : ((m : Int) == 200) = true := by rw [beq_iff_eq]; omega
   have Z : Hid (R = .error 3) := by show _ = _; rw [HR.out, if_pos h2]
   clear h2
   obtain ⟨_, _, _, _⟩ := B2.facts B0.out
   go_enter Tryz.func87, Tryz.ntmps87
   go_wp2_with fail
   go_ret2
   exact bpost_no Z.out (by decide) _ S0.out
 · have q : ((m : Int) == 200) = false := by rw [beq_eq_false_iff_ne]; omega
   have Z : Hid (R = .ok ([n], m)) := by show _ = _; rw [HR.out, if_neg h2]
   have HL : Hid (m < 200) := by show _ < _; omega
   clear h2
   obtain ⟨z0, z1, z2, z3⟩ := B2.facts B0.out
   go_enter Tryz.func87, Tryz.ntmps87
   go_wp2_with fail
   clear z0 z1 z2 z3
   obtain ⟨w6, hw6⟩ : ∃ W, W = (w.alloc (.cells #[.int .i64 n.k, .string n.name, .slice A2 n.al.length c2, .slice A3 n.fs.length c3, .slice A4 n.sy.length c4, .bool n.has, .string n.df, .int .i64 n.size, .int .i64 n.items, .slice A9 n.br.length c9] 41)) := ⟨_, rfl⟩
   rw [← hw6] at R0 D0 B0 N0 S0 Z0
   rw [← hw6]
   clear hw6
   obtain ⟨_, _, _, _, _, _, _, _, _, _, _, _, _, _, _, _, _, _, _, _⟩ := B10.facts N0.out
   obtain ⟨_, _, _, _⟩ := B2.facts B0.out
   have lg6 : g < w6.heap.size := by have := Z0.out; omega
   have ng6 : g ≠ w6.heap.size := by omega
   have ng7 : w6.heap.size ≠ g := by omega
   have nw6 : w.heap.size ≠ w6.heap.size := by have := Z0.out; omega
   have lw6 : w.heap.size < w6.heap.size := by have := Z0.out; omega
   go_region_law
    (first | (go_loud (refine step_mk _ nodeTm (by rfl) (some 23) rfl (.tmp 20) (.tmp 22) rfl _ ns rfl R0.out 1 _ (by first | rfl | simp [Act.eval]) (by rfl) (by simp [Value.oneCell']) (by have := HM.out; have := HL.out; omega) n D0.out ?_); intro r' v' w7 R7 hr7 sv7 hg7; obtain ⟨A', c', rfl, _, _, e7, _⟩ := R7.form; obtain rfl := e7 (by simp); rw [show (ns ++ [n]).length = ns.length + 1 by simp] at R7 ⊢; have R8 := Lib.hid R7; clear R7 e7; have B7 := Lib.hid (show B2 w7 g 52 (.slice A m c) (.int .i64 0) from hg7.trans B0.out); obtain ⟨_, _, _, _⟩ := B2.facts B7.out))
   all_goals
    go_wp2_with fail
    go_ret2
    exact bpost_ok (r' := r') Z.out (by simp) (by
     have k1 := Lib.hid (S0.out.trans (sv7.mono (by omega)))
     exact k1.out.set (.inl rfl) _) (RowN.mkr R8.out B7.out) (by omega) (by have := HM.out; have := HL.out; simp; omega)
end Go.Proofs.YthogheglddfniaaGreatDoor
