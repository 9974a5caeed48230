/- Joined by tools/bundle.py: R10A R11C JEq VCA VCB. -/
import Derived.Deep.LoopGhost
import Derived.BigQuiet
import Derived.Deep.RegionHeldLaw
import Derived.Test.YtpmgjpchpmkklaaGreatDoorT3
import Derived.Test.YtpmgjpchpmkklaaGreatDoorT4
import Derived.Test.YtpmgjpchpmkklaaGreatDoorT5
import Derived.Test.YtpmgjpchpmkklaaGreatDoorT6
import Derived.Test.YtpmgjpchpmkklaaGreatDoorT0
set_option maxRecDepth 100000
set_option maxHeartbeats 16000000
namespace Go.Proofs.YtpmgjpchpmkklaaGreatDoor
open Go.ChangeShapes Go.WideShapes Go.ChangeAt Go.RowKit Mem
theorem rNamed_any (k : Int) (w : World) : Calls Tryz.prog 34 #[.int .i64 k] w (Pure (.bool (named k)) w) := by
 obtain ⟨b, hb⟩ : ∃ b, b = named k := ⟨_, rfl⟩
 rw [← hb]
 unfold named at hb
 by_cases h9 : k = 9
 · subst h9
   obtain rfl : b = true := by rw [hb]; decide
   clear hb
   go_enter Tryz.func34, Tryz.ntmps34
   go_wp2_with fail
   go_ret
   exact ⟨rfl, rfl⟩
 · have q9 : ((k : Int) == 9) = false := by rw [beq_eq_false_iff_ne]; exact h9
   by_cases h10 : k = 10
   · subst h10
     obtain rfl : b = true := by rw [hb]; decide
     clear hb q9
     go_enter Tryz.func34, Tryz.ntmps34
     go_wp2_with fail
     go_ret
     exact ⟨rfl, rfl⟩
   · have q10 : ((k : Int) == 10) = false := by rw [beq_eq_false_iff_ne]; exact h10
     by_cases h14 : k = 14
     · subst h14
       obtain rfl : b = true := by rw [hb]; decide
       clear hb q9 q10
       go_enter Tryz.func34, Tryz.ntmps34
       go_wp2_with fail
       go_ret
       exact ⟨rfl, rfl⟩
     · have q14 : ((k : Int) == 14) = false := by rw [beq_eq_false_iff_ne]; exact h14
       obtain rfl : b = false := by rw [hb, decide_eq_false_iff_not]; omega
       clear hb
       go_enter Tryz.func34, Tryz.ntmps34
       go_wp2_with fail
       go_ret
       exact ⟨rfl, rfl⟩
theorem rKids_9 (n : Nd) (hk : n.k = 9) (hs : n.fs.length ≤ 100000000) (w : World) (A2 A3 A4 A9 : Option Addr) (c2 c3 c4 c9 : Nat)
 (h : Lies w (· < w.heap.size) n.enc [.int .i64 n.k, .string n.name, .slice A2 n.al.length c2, .slice A3 n.fs.length c3, .slice A4 n.sy.length c4, .bool n.has, .string n.df, .int .i64 n.size, .int .i64 n.items, .slice A9 n.br.length c9]) :
 Calls Tryz.prog 75 #[.agg #[.int .i64 n.k, .string n.name, .slice A2 n.al.length c2, .slice A3 n.fs.length c3, .slice A4 n.sy.length c4, .bool n.has, .string n.df, .int .i64 n.size, .int .i64 n.items, .slice A9 n.br.length c9]] w (KidsA n.kids w) := by
 have CS := cell_set
 have ek : n.kids = n.fs.map Fd.ty := by unfold Nd.kids; rw [if_pos hk]
 obtain ⟨_, _, _, _, _, _, _, _, e, _, _, len3, row3, _, _, len9, row9⟩ := Nd.out.1 h
 simp only [List.cons.injEq, Value.slice.injEq, true_and, and_true] at e
 obtain ⟨⟨rfl, rfl⟩, ⟨rfl, rfl⟩, ⟨rfl, rfl⟩, rfl, rfl⟩ := e
 rw [ek, hk]
 have RW := Lib.hid row3
 obtain ⟨fs, hfs⟩ : ∃ fs, fs = n.fs := ⟨_, rfl⟩
 rw [← hfs] at hs RW ⊢
 obtain ⟨m, hm⟩ : ∃ m, m = fs.length := ⟨_, rfl⟩
 have HM := Lib.hid hm
 rw [← hm] at hs ⊢
 have W1 : Below w.heap.size w (w.alloc (.cells #[.int .i64 9, .string n.name, .slice A2 n.al.length c2, .slice A3 m c3, .slice A4 n.sy.length c4, .bool n.has, .string n.df, .int .i64 n.size, .int .i64 n.items, .slice A9 n.br.length c9] 42)) := (Below.refl _ _).alloc (Nat.le_refl _) _
 have gz : (w.alloc (.cells #[.int .i64 9, .string n.name, .slice A2 n.al.length c2, .slice A3 m c3, .slice A4 n.sy.length c4, .bool n.has, .string n.df, .int .i64 n.size, .int .i64 n.items, .slice A9 n.br.length c9] 42)).heap.size = w.heap.size + 1 := by simp
 have GZ := Lib.hid gz
 clear h row3 row9 hm hfs ek len3 len9 gz
 generalize n.al.length = e2 at *
 generalize n.sy.length = e4 at *
 generalize n.br.length = e9 at *
 have BK := Lib.hid (Blk.new w 42 #[.int .i64 9, .string n.name, .slice A2 e2 c2, .slice A3 m c3, .slice A4 e4 c4, .bool n.has, .string n.df, .int .i64 n.size, .int .i64 n.items, .slice A9 e9 c9])
 go_enter Tryz.func75, Tryz.ntmps75
 go_wp2_with fail
 go_loopw [4, 3] (fun t v wr => ∃ j : Nat, j ≤ m ∧ t = .int .i64 (j : Int) ∧ OwnR wr (w.heap.size + 1) 3 1 v j (((fs.take j).map Fd.ty).map (Value.int .i64)) ∧ Hid (Below (w.heap.size + 1) (w.alloc (.cells #[.int .i64 9, .string n.name, .slice A2 e2 c2, .slice A3 m c3, .slice A4 e4 c4, .bool n.has, .string n.df, .int .i64 n.size, .int .i64 n.items, .slice A9 e9 c9] 42)) wr)) (fun t _ _ => m - (intOf t).toNat)
 case atStart => exact ⟨0, Nat.zero_le _, rfl, OwnR.none_ _ _ _ _, Below.refl _ _⟩
 case round =>
  obtain ⟨j, hj, rfl, ow, bl⟩ := hrel
  have bl2 := bl.out
  have z := bl2.size
  rw [GZ.out] at z
  have k0 := (bl2.cell (p := ⟨w.heap.size, 0, none⟩) (Nat.lt_succ_self _)).trans ((BK.out).cell 0)
  have k3 := (bl2.cell (p := ⟨w.heap.size, 3, none⟩) (Nat.lt_succ_self _)).trans ((BK.out).cell 3)
  have k9 := (bl2.cell (p := ⟨w.heap.size, 9, none⟩) (Nat.lt_succ_self _)).trans ((BK.out).cell 9)
  simp at k0 k3 k9
  by_cases hjm : j < m
  · have q : (j : Int) < (m : Int) := by omega
    obtain ⟨g, off, _, _, _, _, _, _, e, hg, ⟨_, _, f2, _⟩, _⟩ := fields_at RW.out (i := j) (by rw [← HM.out]; exact hjm)
    obtain rfl := e
    have hgw : g < w.heap.size := hg
    have f2' := ((W1.cell (p := ⟨g, off + j * 9 + 2, none⟩) hgw).trans f2)
    have y := (bl2.cell (p := ⟨g, off + j * 9 + 2, none⟩) (Nat.lt_succ_of_lt hgw)).trans f2'
    have TK : Hid ((fs.take (j + 1)).map Fd.ty = (fs.take j).map Fd.ty ++ [(fs[j]'(by rw [← HM.out]; exact hjm)).ty]) := by
     show _ = _
     rw [List.take_succ_eq_append_getElem (by rw [← HM.out]; exact hjm), List.map_append]; rfl
    generalize (fs[j]'(by rw [← HM.out]; exact hjm)).ty = TY at *
    clear f2 f2'
    go_wp2_with (at_builtin; refine wpList_appR1 _ intT rfl (.tmp 15) (.tmp 22) rfl (w.heap.size + 1) _ j _ rfl ow 1 #[.int .i64 TY] rfl rfl (by simp [Value.oneCell']) (by omega) (by omega) ?_; intro v3 w3 o3 b3 _)
    go_roundw
    case rel => exact ⟨j + 1, by omega, by go_num, by rw [TK.out, List.map_append]; exact o3, bl2.trans b3⟩
    case measure => simp [intOf]; omega
  · obtain rfl : j = m := by omega
    have q : ¬ (j : Int) < (j : Int) := by omega
    have TK : fs.take j = fs := by rw [HM.out, List.take_length]
    rw [TK] at ow
    have OW := Lib.hid ow
    clear ow
    go_wp2_with fail
    go_ret
    exact kids_ret OW.out (Nat.le_succ _) rfl (by rw [List.length_map]; exact HM.out) (by rw [List.length_map, ← HM.out]; omega) (W1.trans (bl2.mono (Nat.le_succ _)))
theorem rKids_11 (n : Nd) (hk : n.k = 11) (w : World) (A2 A3 A4 A9 : Option Addr) (c2 c3 c4 c9 : Nat)
 (h : Lies w (· < w.heap.size) n.enc [.int .i64 n.k, .string n.name, .slice A2 n.al.length c2, .slice A3 n.fs.length c3, .slice A4 n.sy.length c4, .bool n.has, .string n.df, .int .i64 n.size, .int .i64 n.items, .slice A9 n.br.length c9]) :
 Calls Tryz.prog 75 #[.agg #[.int .i64 n.k, .string n.name, .slice A2 n.al.length c2, .slice A3 n.fs.length c3, .slice A4 n.sy.length c4, .bool n.has, .string n.df, .int .i64 n.size, .int .i64 n.items, .slice A9 n.br.length c9]] w (KidsA n.kids w) := by
 have CS := cell_set
 have ek : n.kids = [n.items] := by unfold Nd.kids; rw [if_neg (by omega), if_pos (by omega)]
 obtain ⟨_, _, _, _, _, _, _, _, e, _, _, len3, row3, _, _, len9, row9⟩ := Nd.out.1 h
 simp only [List.cons.injEq, Value.slice.injEq, true_and, and_true] at e
 obtain ⟨⟨rfl, rfl⟩, ⟨rfl, rfl⟩, ⟨rfl, rfl⟩, rfl, rfl⟩ := e
 rw [ek, hk]
 have W1 : Below w.heap.size w (w.alloc (.cells #[.int .i64 11, .string n.name, .slice A2 n.al.length c2, .slice A3 n.fs.length c3, .slice A4 n.sy.length c4, .bool n.has, .string n.df, .int .i64 n.size, .int .i64 n.items, .slice A9 n.br.length c9] 42)) := (Below.refl _ _).alloc (Nat.le_refl _) _
 have gz : (w.alloc (.cells #[.int .i64 11, .string n.name, .slice A2 n.al.length c2, .slice A3 n.fs.length c3, .slice A4 n.sy.length c4, .bool n.has, .string n.df, .int .i64 n.size, .int .i64 n.items, .slice A9 n.br.length c9] 42)).heap.size = w.heap.size + 1 := by simp
 have o0 := OwnR.none_ (w.alloc (.cells #[.int .i64 11, .string n.name, .slice A2 n.al.length c2, .slice A3 n.fs.length c3, .slice A4 n.sy.length c4, .bool n.has, .string n.df, .int .i64 n.size, .int .i64 n.items, .slice A9 n.br.length c9] 42)) (w.heap.size + 1) 3 1
 have GZ := Lib.hid gz
 have O0 := Lib.hid o0
 clear h row3 row9 ek len3 len9 gz o0
 go_enter Tryz.func75, Tryz.ntmps75
 go_wp2_with (at_builtin; refine wpList_appR1 _ intT rfl (.tmp 32) (.tmp 35) rfl (w.heap.size + 1) _ 0 _ rfl O0.out 1 #[.int .i64 n.items] (by rw [GZ.out]; rfl) rfl (by simp [Value.oneCell']) (by omega) (by rw [GZ.out]; exact Nat.le_refl _) ?_; intro v3 w3 o3 b3 _; have z3 := b3.size; rw [GZ.out] at z3; have k0 := (b3.cell (p := ⟨w.heap.size, 0, none⟩) (Nat.lt_succ_self _)).trans ((Blk.new w 42 #[.int .i64 11, .string n.name, .slice A2 n.al.length c2, .slice A3 n.fs.length c3, .slice A4 n.sy.length c4, .bool n.has, .string n.df, .int .i64 n.size, .int .i64 n.items, .slice A9 n.br.length c9]).cell 0); simp at k0)
 go_ret
 exact kids_ret o3 (Nat.le_succ _) rfl rfl (by simp) (W1.trans (b3.mono (Nat.le_succ _)))
theorem rKids_12 (n : Nd) (hk : n.k = 12) (w : World) (A2 A3 A4 A9 : Option Addr) (c2 c3 c4 c9 : Nat)
 (h : Lies w (· < w.heap.size) n.enc [.int .i64 n.k, .string n.name, .slice A2 n.al.length c2, .slice A3 n.fs.length c3, .slice A4 n.sy.length c4, .bool n.has, .string n.df, .int .i64 n.size, .int .i64 n.items, .slice A9 n.br.length c9]) :
 Calls Tryz.prog 75 #[.agg #[.int .i64 n.k, .string n.name, .slice A2 n.al.length c2, .slice A3 n.fs.length c3, .slice A4 n.sy.length c4, .bool n.has, .string n.df, .int .i64 n.size, .int .i64 n.items, .slice A9 n.br.length c9]] w (KidsA n.kids w) := by
 have CS := cell_set
 have ek : n.kids = [n.items] := by unfold Nd.kids; rw [if_neg (by omega), if_pos (by omega)]
 obtain ⟨_, _, _, _, _, _, _, _, e, _, _, len3, row3, _, _, len9, row9⟩ := Nd.out.1 h
 simp only [List.cons.injEq, Value.slice.injEq, true_and, and_true] at e
 obtain ⟨⟨rfl, rfl⟩, ⟨rfl, rfl⟩, ⟨rfl, rfl⟩, rfl, rfl⟩ := e
 rw [ek, hk]
 have W1 : Below w.heap.size w (w.alloc (.cells #[.int .i64 12, .string n.name, .slice A2 n.al.length c2, .slice A3 n.fs.length c3, .slice A4 n.sy.length c4, .bool n.has, .string n.df, .int .i64 n.size, .int .i64 n.items, .slice A9 n.br.length c9] 42)) := (Below.refl _ _).alloc (Nat.le_refl _) _
 have gz : (w.alloc (.cells #[.int .i64 12, .string n.name, .slice A2 n.al.length c2, .slice A3 n.fs.length c3, .slice A4 n.sy.length c4, .bool n.has, .string n.df, .int .i64 n.size, .int .i64 n.items, .slice A9 n.br.length c9] 42)).heap.size = w.heap.size + 1 := by simp
 have o0 := OwnR.none_ (w.alloc (.cells #[.int .i64 12, .string n.name, .slice A2 n.al.length c2, .slice A3 n.fs.length c3, .slice A4 n.sy.length c4, .bool n.has, .string n.df, .int .i64 n.size, .int .i64 n.items, .slice A9 n.br.length c9] 42)) (w.heap.size + 1) 3 1
 have GZ := Lib.hid gz
 have O0 := Lib.hid o0
 clear h row3 row9 ek len3 len9 gz o0
 go_enter Tryz.func75, Tryz.ntmps75
 go_wp2_with (at_builtin; refine wpList_appR1 _ intT rfl (.tmp 32) (.tmp 35) rfl (w.heap.size + 1) _ 0 _ rfl O0.out 1 #[.int .i64 n.items] (by rw [GZ.out]; rfl) rfl (by simp [Value.oneCell']) (by omega) (by rw [GZ.out]; exact Nat.le_refl _) ?_; intro v3 w3 o3 b3 _; have z3 := b3.size; rw [GZ.out] at z3; have k0 := (b3.cell (p := ⟨w.heap.size, 0, none⟩) (Nat.lt_succ_self _)).trans ((Blk.new w 42 #[.int .i64 12, .string n.name, .slice A2 n.al.length c2, .slice A3 n.fs.length c3, .slice A4 n.sy.length c4, .bool n.has, .string n.df, .int .i64 n.size, .int .i64 n.items, .slice A9 n.br.length c9]).cell 0); simp at k0)
 go_ret
 exact kids_ret o3 (Nat.le_succ _) rfl rfl (by simp) (W1.trans (b3.mono (Nat.le_succ _)))
theorem rKids_13 (n : Nd) (hk : n.k = 13) (hs : n.br.length ≤ 100000000) (w : World) (A2 A3 A4 A9 : Option Addr) (c2 c3 c4 c9 : Nat)
 (h : Lies w (· < w.heap.size) n.enc [.int .i64 n.k, .string n.name, .slice A2 n.al.length c2, .slice A3 n.fs.length c3, .slice A4 n.sy.length c4, .bool n.has, .string n.df, .int .i64 n.size, .int .i64 n.items, .slice A9 n.br.length c9]) :
 Calls Tryz.prog 75 #[.agg #[.int .i64 n.k, .string n.name, .slice A2 n.al.length c2, .slice A3 n.fs.length c3, .slice A4 n.sy.length c4, .bool n.has, .string n.df, .int .i64 n.size, .int .i64 n.items, .slice A9 n.br.length c9]] w (KidsA n.kids w) := by
 have CS := cell_set
 have ek : n.kids = n.br := by unfold Nd.kids; rw [if_neg (by omega), if_neg (by omega), if_pos hk]
 obtain ⟨_, _, _, _, _, _, _, _, e, _, _, len3, row3, _, _, len9, row9⟩ := Nd.out.1 h
 simp only [List.cons.injEq, Value.slice.injEq, true_and, and_true] at e
 obtain ⟨⟨rfl, rfl⟩, ⟨rfl, rfl⟩, ⟨rfl, rfl⟩, rfl, rfl⟩ := e
 rw [ek, hk]
 have FL := Lib.hid (fls_fl (B := w.heap.size) (ints_fl row9) (fun _ h => h))
 have W1 : Below w.heap.size w (w.alloc (.cells #[.int .i64 13, .string n.name, .slice A2 n.al.length c2, .slice A3 n.fs.length c3, .slice A4 n.sy.length c4, .bool n.has, .string n.df, .int .i64 n.size, .int .i64 n.items, .slice A9 n.br.length c9] 42)) := (Below.refl _ _).alloc (Nat.le_refl _) _
 have gz : (w.alloc (.cells #[.int .i64 13, .string n.name, .slice A2 n.al.length c2, .slice A3 n.fs.length c3, .slice A4 n.sy.length c4, .bool n.has, .string n.df, .int .i64 n.size, .int .i64 n.items, .slice A9 n.br.length c9] 42)).heap.size = w.heap.size + 1 := by simp
 have o0 := OwnR.none_ (w.alloc (.cells #[.int .i64 13, .string n.name, .slice A2 n.al.length c2, .slice A3 n.fs.length c3, .slice A4 n.sy.length c4, .bool n.has, .string n.df, .int .i64 n.size, .int .i64 n.items, .slice A9 n.br.length c9] 42)) (w.heap.size + 1) 3 1
 have GZ := Lib.hid gz
 have O0 := Lib.hid o0
 have FW := Lib.hid (Fl.below FL.out W1)
 clear h row3 row9 ek len3 len9 gz o0 FL
 go_enter Tryz.func75, Tryz.ntmps75
 go_wp2_with (at_builtin; refine wpList_appRs _ intT rfl (.tmp 40) (.tmp 42) rfl (w.heap.size + 1) _ 0 _ rfl O0.out w.heap.size A9 n.br.length c9 (n.br.map (Value.int .i64)) rfl (by simp) FW.out (by intro u hu; obtain ⟨x, _, rfl⟩ := List.mem_map.1 hu; rfl) (by omega) (by rw [GZ.out]; exact Nat.le_refl _) ?_; intro v3 w3 o3 b3)
 have z3 := b3.size
 rw [GZ.out] at z3
 go_wp2_with fail
 go_ret
 exact kids_ret o3 (Nat.le_succ _) rfl (by omega) (by omega) (W1.trans (b3.mono (Nat.le_succ _)))
theorem rKids_0 (n : Nd) (h9 : n.k ≠ 9) (h11 : n.k ≠ 11) (h12 : n.k ≠ 12) (h13 : n.k ≠ 13) (w : World) (A2 A3 A4 A9 : Option Addr) (c2 c3 c4 c9 : Nat)
 (h : Lies w (· < w.heap.size) n.enc [.int .i64 n.k, .string n.name, .slice A2 n.al.length c2, .slice A3 n.fs.length c3, .slice A4 n.sy.length c4, .bool n.has, .string n.df, .int .i64 n.size, .int .i64 n.items, .slice A9 n.br.length c9]) :
 Calls Tryz.prog 75 #[.agg #[.int .i64 n.k, .string n.name, .slice A2 n.al.length c2, .slice A3 n.fs.length c3, .slice A4 n.sy.length c4, .bool n.has, .string n.df, .int .i64 n.size, .int .i64 n.items, .slice A9 n.br.length c9]] w (KidsA n.kids w) := by
 have CS := cell_set
 have ek : n.kids = [] := by unfold Nd.kids; rw [if_neg h9, if_neg (by omega), if_neg h13]
 obtain ⟨_, _, _, _, _, _, _, _, e, _, _, len3, row3, _, _, len9, row9⟩ := Nd.out.1 h
 simp only [List.cons.injEq, Value.slice.injEq, true_and, and_true] at e
 obtain ⟨⟨rfl, rfl⟩, ⟨rfl, rfl⟩, ⟨rfl, rfl⟩, rfl, rfl⟩ := e
 rw [ek]
 obtain ⟨k, hk⟩ : ∃ k, k = n.k := ⟨_, rfl⟩
 rw [← hk] at h9 h11 h12 h13 ⊢
 have q9 : ((k : Int) == 9) = false := by rw [beq_eq_false_iff_ne]; exact h9
 have q11 : ((k : Int) == 11) = false := by rw [beq_eq_false_iff_ne]; exact h11
 have q12 : ((k : Int) == 12) = false := by rw [beq_eq_false_iff_ne]; exact h12
 have q13 : ((k : Int) == 13) = false := by rw [beq_eq_false_iff_ne]; exact h13
 have W1 : Below w.heap.size w (w.alloc (.cells #[.int .i64 k, .string n.name, .slice A2 n.al.length c2, .slice A3 n.fs.length c3, .slice A4 n.sy.length c4, .bool n.has, .string n.df, .int .i64 n.size, .int .i64 n.items, .slice A9 n.br.length c9] 42)) := (Below.refl _ _).alloc (Nat.le_refl _) _
 clear h row3 row9 ek len3 len9 hk h9 h11 h12 h13
 go_enter Tryz.func75, Tryz.ntmps75
 go_wp2_with fail
 go_ret
 exact kids_ret (OwnR.none_ _ w.heap.size 3 1) (Nat.le_refl _) rfl rfl (by decide) W1
theorem rKids_any (n : Nd) (h3 : n.fs.length ≤ 100000000) (h9 : n.br.length ≤ 100000000) (w : World) (A2 A3 A4 A9 : Option Addr) (c2 c3 c4 c9 : Nat)
 (h : Lies w (· < w.heap.size) n.enc [.int .i64 n.k, .string n.name, .slice A2 n.al.length c2, .slice A3 n.fs.length c3, .slice A4 n.sy.length c4, .bool n.has, .string n.df, .int .i64 n.size, .int .i64 n.items, .slice A9 n.br.length c9]) :
 Calls Tryz.prog 75 #[.agg #[.int .i64 n.k, .string n.name, .slice A2 n.al.length c2, .slice A3 n.fs.length c3, .slice A4 n.sy.length c4, .bool n.has, .string n.df, .int .i64 n.size, .int .i64 n.items, .slice A9 n.br.length c9]] w (KidsA n.kids w) := by
 by_cases k9 : n.k = 9
 · exact rKids_9 n k9 h3 w A2 A3 A4 A9 c2 c3 c4 c9 h
 · by_cases k11 : n.k = 11
   · exact rKids_11 n k11 w A2 A3 A4 A9 c2 c3 c4 c9 h
   · by_cases k12 : n.k = 12
     · exact rKids_12 n k12 w A2 A3 A4 A9 c2 c3 c4 c9 h
     · by_cases k13 : n.k = 13
       · exact rKids_13 n k13 h9 w A2 A3 A4 A9 c2 c3 c4 c9 h
       · exact rKids_0 n k9 k11 k12 k13 w A2 A3 A4 A9 c2 c3 c4 c9 h
theorem rTexts_any (A B : Option Addr) (c d : Nat) (l m : List ByteArray) (w : World) (hA : FlS w (· < w.heap.size) A (l.map Value.string)) (hB : FlS w (· < w.heap.size) B (m.map Value.string)) (hl : l.length ≤ maxLen) (_hm : m.length ≤ maxLen) :
 Calls Tryz.prog 95 #[.slice A l.length c, .slice B m.length d] w (Told (decide (l = m)) w) := by
 obtain ⟨R, hR⟩ : ∃ R, R = decide (l = m) := ⟨_, rfl⟩
 rw [← hR]
 have YES : Hid (l = m → R = true) := fun e => by rw [hR]; simpa using e
 have NO : Hid (l ≠ m → R = false) := fun e => by rw [hR]; simpa using e
 have F := Lib.hid hA
 have G := Lib.hid hB
 unfold maxLen at hl
 by_cases hlen : l.length = m.length
 · obtain ⟨n, hn⟩ : ∃ n, n = l.length := ⟨_, rfl⟩
   have HL := Lib.hid hn
   have HM : Hid (n = m.length) := hn.trans hlen
   rw [← HM.out, ← hn]
   rw [← hn] at hl
   clear hn hlen hA hB hR
   go_enter Tryz.func95, Tryz.ntmps95
   go_wp2_with fail
   go_loopw [5] (fun t wr => ∃ j : Nat, j ≤ n ∧ t = .int .i64 (j : Int) ∧ Hid (∀ i (h : i < l.length) (g : i < m.length), i < j → l[i]'h = m[i]'g) ∧ Drewn7 w wr) (fun t _ => n - (intOf t).toNat)
   case atStart => exact ⟨0, Nat.zero_le _, rfl, fun _ _ _ h => absurd h (Nat.not_lt_zero _), ⟨0, rfl⟩⟩
   case round =>
    obtain ⟨j, hj, rfl, NE, ⟨nd, rfl⟩⟩ := hrel
    by_cases hjn : j < n
    · have q : (j : Int) < (n : Int) := by omega
      have h1 : j < l.length := by rw [← HL.out]; exact hjn
      have h2 : j < m.length := by rw [← HM.out]; exact hjn
      obtain ⟨b8, o8, e8, hb8, z0⟩ := fl_str F.out h1
      obtain ⟨b9, o9, e9, hb9, z1⟩ := fl_str G.out h2
      have ne := NE.out
      by_cases hx : l[j]'h1 = m[j]'h2
      · have NE2 : Hid (∀ i (h : i < l.length) (g : i < m.length), i < j + 1 → l[i]'h = m[i]'g) := fun i h g hi => by
         rcases Nat.lt_or_ge i j with k | k
         · exact ne i h g k
         · obtain rfl : i = j := by omega
           exact hx
        rw [← hx] at z1
        generalize l[j]'h1 = Y at *
        have sx : (Y.toList != Y.toList) = false := by rw [str_bne]; simp
        subst e8 e9
        clear ne hx h1 h2
        go_wp2_with fail
        go_quiet (fail)
        go_wp2_with fail
        go_roundw
        case rel => exact ⟨j + 1, by omega, by go_num, NE2, ⟨_, rfl⟩⟩
        case measure => simp [intOf]; omega
      · have Z := Lib.hid (NO.out (fun e => hx (by subst e; rfl)))
        have sx : ((l[j]'h1).toList != (m[j]'h2).toList) = true := by rw [str_bne]; simpa using hx
        have sx2 : ((l[j]'h1).toList == (m[j]'h2).toList) = false := by rw [str_beq]; simpa using hx
        generalize l[j]'h1 = Y at *
        generalize m[j]'h2 = X at *
        subst e8 e9
        clear ne hx h1 h2
        go_wp2_with fail
        go_quiet (fail)
        go_wp2_with fail
        go_ret
        exact told_ret Z.out bqq
    · obtain rfl : j = n := by omega
      have q : ¬ (j : Int) < (j : Int) := by omega
      have Z := Lib.hid (YES.out (List.ext_getElem (by rw [← HL.out, ← HM.out]) fun i h g => NE.out i h g (by rw [HL.out]; exact h)))
      clear NE hjn
      go_wp2_with fail
      go_ret
      exact told_ret Z.out bqq
 · have q : ((l.length : Int) != (m.length : Int)) = true := by rw [bne_iff_ne]; omega
   have Z := Lib.hid (NO.out (fun e => hlen (by rw [e])))
   clear hA hB hR YES NO
   go_enter Tryz.func95, Tryz.ntmps95
   go_wp2_with fail
   go_ret
   exact told_ret Z.out bqq
theorem rsimple_any (A : Option Addr) (c : Nat) (l : List ByteArray) (w : World) (hA : FlS w (· < w.heap.size) A (l.map Value.string)) (hl : l.length ≤ maxLen) (hs : ∀ t ∈ l, t.size ≤ 1000000000) :
 Calls Tryz.prog 55 #[.slice A l.length c] w (Pure (.bool (decide (l.length ≤ 40) && l.all fun t => Nm.simple t.data.toList)) w) := by
 obtain ⟨R, hR⟩ : ∃ R, R = (decide (l.length ≤ 40) && l.all fun t => Nm.simple t.data.toList) := ⟨_, rfl⟩
 rw [← hR]
 have NO : Hid (∀ i (h : i < l.length), Nm.simple (l[i]'h).data.toList = false → R = false) := fun i h e => by
  rw [hR, Bool.and_eq_false_iff]; right; rw [List.all_eq_false]; exact ⟨_, List.getElem_mem h, by rw [e]; decide⟩
 have YES : Hid ((∀ i (h : i < l.length), Nm.simple (l[i]'h).data.toList = true) → R = decide (l.length ≤ 40)) := fun e => by
  rw [hR, show (l.all fun t => Nm.simple t.data.toList) = true from List.all_eq_true.2 fun x hx => by obtain ⟨i, hi, rfl⟩ := List.getElem_of_mem hx; exact e i hi, Bool.and_true]
 have F := Lib.hid hA
 have SM := Lib.hid (fun (t : ByteArray) (ht : t ∈ l) W => rSimple_any t (by have := hs t ht; omega) W)
 unfold maxLen at hl
 obtain ⟨n, hn⟩ : ∃ n, n = l.length := ⟨_, rfl⟩
 have HL := Lib.hid hn
 rw [← hn] at hl ⊢
 clear hn hA hR hs
 go_enter Tryz.func55, Tryz.ntmps55
 go_wp2_with fail
 go_loopw [3] (fun t wr => ∃ j : Nat, j ≤ n ∧ t = .int .i64 (j : Int) ∧ Hid (∀ i (h : i < l.length), i < j → Nm.simple (l[i]'h).data.toList = true) ∧ wr = w) (fun t _ => n - (intOf t).toNat)
 case atStart => exact ⟨0, Nat.zero_le _, rfl, fun _ _ h => absurd h (Nat.not_lt_zero _), rfl⟩
 case round =>
  obtain ⟨j, hj, rfl, NE, rfl⟩ := hrel
  by_cases hjn : j < n
  · have q : (j : Int) < (n : Int) := by omega
    have h1 : j < l.length := by rw [← HL.out]; exact hjn
    obtain ⟨b8, o8, e8, hb8, z0⟩ := fl_str F.out h1
    have S1 := Lib.hid (SM.out (l[j]'h1) (List.getElem_mem h1))
    have N1 := Lib.hid (NO.out j h1)
    have NX : Hid (Nm.simple (l[j]'h1).data.toList = true → ∀ i (h : i < l.length), i < j + 1 → Nm.simple (l[i]'h).data.toList = true) := fun e i h hi => by
     rcases Nat.lt_or_ge i j with k | k
     · exact NE.out i h k
     · obtain rfl : i = j := by omega
       exact e
    generalize l[j]'h1 = Y at *
    obtain ⟨b, hb⟩ : ∃ b, b = Nm.simple Y.data.toList := ⟨_, rfl⟩
    rw [← hb] at S1 N1 NX
    subst e8
    clear hb h1
    go_wp2_with fail
    with_reducible refine (S1.out _).mono ?_
    rintro e w1 ⟨rfl, rfl⟩
    cases b with
    | true =>
     have NX2 := Lib.hid (NX.out rfl)
     go_wp2_with fail
     go_roundw
     case rel => exact ⟨j + 1, by omega, by go_num, NX2, by first | rfl | trivial⟩
     case measure => simp [intOf]; omega
    | false =>
     have Z := Lib.hid (N1.out rfl)
     go_wp2_with fail
     go_ret
     exact pure_ret (by first | (rw [Z.out]; done) | (rw [Z.out]; rfl))
  · obtain rfl : j = n := by omega
    have q : ¬ (j : Int) < (j : Int) := by omega
    have Z := Lib.hid (YES.out fun i h => NE.out i h (by rw [HL.out]; exact h))
    clear NE hjn
    by_cases h40 : j ≤ 40
    · have q2 : (j : Int) ≤ 40 := by omega
      have Z2 : Hid (R = true) := Z.out.trans (decide_eq_true (by rw [← HL.out]; exact h40))
      clear Z
      go_wp2_with fail
      go_ret
      exact pure_ret (by first | (rw [Z2.out]; done) | (rw [Z2.out]; rfl) | (rw [Z2.out]; simp [q2]))
    · have q2 : ¬ (j : Int) ≤ 40 := by omega
      have Z2 : Hid (R = false) := Z.out.trans (decide_eq_false (by rw [← HL.out]; exact h40))
      clear Z
      go_wp2_with fail
      go_ret
      exact pure_ret (by first | (rw [Z2.out]; done) | (rw [Z2.out]; rfl) | (rw [Z2.out]; simp [q2]))
theorem rOnce_any (A : Option Addr) (c : Nat) (l : List ByteArray) (w : World) (hA : FlS w (· < w.heap.size) A (l.map Value.string)) (hl : l.length ≤ maxLen) :
 Calls Tryz.prog 35 #[.slice A l.length c] w (Told (decide l.Nodup) w) := by
 obtain ⟨R, hR⟩ : ∃ R, R = decide l.Nodup := ⟨_, rfl⟩
 rw [← hR]
 have NO : Hid (∀ i k (h : i < l.length) (g : k < i), l[k]'(Nat.lt_trans g h) = l[i]'h → R = false) := fun i k h g e => by
  rw [hR, decide_eq_false_iff_not]
  intro nd
  rw [List.nodup_iff_pairwise_ne, List.pairwise_iff_getElem] at nd
  exact nd k i (Nat.lt_trans g h) h g e
 have YES : Hid ((∀ i k (h : i < l.length) (g : k < i), l[k]'(Nat.lt_trans g h) ≠ l[i]'h) → R = true) := fun e => by
  rw [hR, decide_eq_true_eq, List.nodup_iff_pairwise_ne, List.pairwise_iff_getElem]
  intro i j hi hj hij
  exact e j i hj hij
 have F := Lib.hid hA
 unfold maxLen at hl
 obtain ⟨n, hn⟩ : ∃ n, n = l.length := ⟨_, rfl⟩
 have HL := Lib.hid hn
 rw [← hn] at hl ⊢
 clear hn hA hR
 go_enter Tryz.func35, Tryz.ntmps35
 go_wp2_with fail
 go_loopw [3] (fun t wr => ∃ j : Nat, j ≤ n ∧ t = .int .i64 (j : Int) ∧ Hid (∀ i k (h : i < l.length) (g : k < i), i < j → l[k]'(Nat.lt_trans g h) ≠ l[i]'h) ∧ Drewn7 w wr) (fun t _ => n - (intOf t).toNat)
 case atStart => exact ⟨0, Nat.zero_le _, rfl, fun _ _ _ _ h => absurd h (Nat.not_lt_zero _), ⟨0, rfl⟩⟩
 case round =>
  obtain ⟨j, hj, rfl, NE, ⟨nd, rfl⟩⟩ := hrel
  by_cases hjn : j < n
  · have q : (j : Int) < (n : Int) := by omega
    have h1 : j < l.length := by rw [← HL.out]; exact hjn
    obtain ⟨b8, o8, e8, hb8, z0⟩ := fl_str F.out h1
    subst e8
    go_wp2_with fail
    go_loopw [4] (fun t wq => ∃ k : Nat, k ≤ j ∧ t = .int .i64 (k : Int) ∧ Hid (∀ i (g : i < j), i < k → l[i]'(Nat.lt_trans g h1) ≠ l[j]'h1) ∧ Drewn7 w wq) (fun t _ => j - (intOf t).toNat)
    case atStart => exact ⟨0, Nat.zero_le _, rfl, fun _ _ h => absurd h (Nat.not_lt_zero _), ⟨_, rfl⟩⟩
    case round =>
     obtain ⟨k, hk, rfl, NK, ⟨nq, rfl⟩⟩ := hrel
     by_cases hkj : k < j
     · have qk : (k : Int) < (j : Int) := by omega
       have qn : (k : Int) < (n : Int) := by omega
       obtain ⟨b9, o9, e9, hb9, z1⟩ := fl_str F.out (Nat.lt_trans hkj h1)
       simp only [Option.some.injEq, Addr.mk.injEq, and_true] at e9
       obtain ⟨rfl, rfl⟩ := e9
       by_cases hx : l[k]'(Nat.lt_trans hkj h1) = l[j]'h1
       · have Z := Lib.hid (NO.out j k h1 hkj hx)
         rw [hx] at z1
         generalize l[j]'h1 = Y at *
         have sx : (Y.toList == Y.toList) = true := by simp
         clear hx NE NK
         go_wp2_with fail
         go_quiet (fail)
         go_wp2_with fail
         go_ret
         exact told_ret Z.out bqq
       · have NK2 : Hid (∀ i (g : i < j), i < k + 1 → l[i]'(Nat.lt_trans g h1) ≠ l[j]'h1) := fun i g hi => by
          rcases Nat.lt_or_ge i k with x | x
          · exact NK.out i g x
          · obtain rfl : i = k := by omega
            exact hx
         have sx : ((l[k]'(Nat.lt_trans hkj h1)).toList == (l[j]'h1).toList) = false := by rw [str_beq]; simpa using hx
         have sx2 : ((l[k]'(Nat.lt_trans hkj h1)).toList != (l[j]'h1).toList) = true := by rw [str_bne]; simpa using hx
         generalize l[k]'(Nat.lt_trans hkj h1) = X at *
         obtain ⟨Y, hY⟩ : ∃ Y, Y = l[j]'h1 := ⟨_, rfl⟩
         rw [← hY] at sx sx2 z0
         clear hx hY
         go_wp2_with fail
         go_quiet (fail)
         go_wp2_with fail
         go_roundw
         case rel => exact ⟨k + 1, by omega, by go_num, NK2, ⟨_, rfl⟩⟩
         case measure => simp [intOf]; omega
     · obtain rfl : k = j := by omega
       have qk : ¬ (k : Int) < (k : Int) := by omega
       have NX : Hid (∀ i m (h : i < l.length) (g : m < i), i < k + 1 → l[m]'(Nat.lt_trans g h) ≠ l[i]'h) := fun i m h g hi => by
        rcases Nat.lt_or_ge i k with x | x
        · exact NE.out i m h g x
        · obtain rfl : i = k := by omega
          exact NK.out m g g
       go_wp2_with fail
       go_roundw
       case rel => exact ⟨k + 1, by omega, by go_num, NX, ⟨_, rfl⟩⟩
       case measure => simp [intOf]; omega
  · obtain rfl : j = n := by omega
    have q : ¬ (j : Int) < (j : Int) := by omega
    have Z := Lib.hid (YES.out fun i k h g => NE.out i k h g (by rw [HL.out]; exact h))
    clear NE hjn
    go_wp2_with fail
    go_ret
    exact told_ret Z.out bqq
noncomputable def V.same (a b : V) : Bool := @decide (a = b) (Classical.propDecidable _)
theorem V.same_yes {a b : V} (h : a = b) : V.same a b = true := by unfold V.same; simpa using h
theorem V.same_no {a b : V} (h : a ≠ b) : V.same a b = false := by unfold V.same; simpa using h
theorem V.same_iff {a b : V} : V.same a b = true ↔ a = b := by unfold V.same; simp
theorem bytes_inj {a b : List UInt8} (h : (⟨a.toArray⟩ : ByteArray) = ⟨b.toArray⟩) : a = b := by
 have := ByteArray.mk.inj h
 simpa using congrArg Array.toList this
def place7 (ks : List ByteArray) (k : ByteArray) : Option Nat := ks.findIdx? fun x => decide (x = k)
theorem place7_at {ks : List ByteArray} {k : ByteArray} {i : Nat} (hi : i < ks.length) (h : ks[i]'hi = k) (hn : ∀ m (g : m < ks.length), m < i → ks[m]'g ≠ k) : place7 ks k = some i := by
 unfold place7
 rw [List.findIdx?_eq_some_iff_getElem]
 exact ⟨hi, by simpa using h, fun j hj => by simpa using hn j (by omega) hj⟩
theorem place7_no {ks : List ByteArray} {k : ByteArray} (hn : ∀ m (g : m < ks.length), ks[m]'g ≠ k) : place7 ks k = none := by
 unfold place7
 rw [List.findIdx?_eq_none_iff]
 intro x hx
 obtain ⟨m, hm, rfl⟩ := List.getElem_of_mem hx
 simpa using hn m hm
theorem place7_any {ks : List ByteArray} {k : ByteArray} : (ks.any fun x => decide (x = k)) = (place7 ks k).isSome := by
 unfold place7
 simp [List.findIdx?_isSome]
def num7 (o : Option Nat) : Int := match o with | none => -1 | some i => (i : Int)
def Idx (ks : List ByteArray) (k : ByteArray) (w : World) (e : Ending) (w' : World) : Prop := e = .returned (.int .i64 (num7 (place7 ks k))) ∧ w' = w
theorem idx_ret {ks : List ByteArray} {k : ByteArray} {o : Option Nat} {w w' : World} {z : Int} (h : place7 ks k = o) (hz : z = num7 o) (hw : w' = w) : Idx ks k w (.returned (.int .i64 z)) w' := by
 subst hz; subst h; exact ⟨rfl, hw⟩
theorem index_any (S : Nat → Prop) (A : Option Addr) (c : Nat) (ks : List ByteArray) (k : ByteArray) (w : World) (h : FlS w S A (ks.map Value.string)) (hl : ks.length ≤ maxLen) :
 Calls Tryz.prog 89 #[.slice A ks.length c, .string k] w (Idx ks k w) := by
 have F := Lib.hid h
 obtain ⟨nk, hnk⟩ : ∃ m, m = ks.length := ⟨_, rfl⟩
 have HNK := Lib.hid hnk
 rw [← hnk] at hl ⊢
 have hb : nk ≤ 9223372036854775807 := by unfold maxLen at hl; exact hl
 clear hnk h hl
 go_enter Tryz.func89, Tryz.ntmps89
 go_wp2_with fail
 go_loopw [8] (fun t wq => ∃ j : Nat, j ≤ nk ∧ t = .int .i64 (j : Int) ∧ Hid (∀ m (h : m < ks.length), m < j → ks[m]'h ≠ k) ∧ wq = w) (fun t _ => nk - (intOf t).toNat)
 case atStart => exact ⟨0, Nat.zero_le _, rfl, fun _ _ h => absurd h (Nat.not_lt_zero _), rfl⟩
 case round =>
  obtain ⟨m, hm, rfl, NE, rfl⟩ := hrel
  by_cases hmk : m < nk
  · have h1 : m < ks.length := by rw [← HNK.out]; exact hmk
    obtain ⟨b8, o8, e8, hb8, z0⟩ := fl_str F.out h1
    have ne := NE.out
    by_cases hx : ks[m]'h1 = k
    · have Z := Lib.hid (place7_at h1 hx (fun q g hq => ne q g hq))
      rw [hx] at z0
      have sx : (k.toList == k.toList) = true := by simp
      subst e8
      clear ne hx h1
      go_wp2_with fail
      go_ret
      exact idx_ret Z.out rfl rfl
    · have NE2 : Hid (∀ q (h : q < ks.length), q < m + 1 → ks[q]'h ≠ k) := fun q h hq => by
       rcases Nat.lt_or_ge q m with g | g
       · exact ne q h g
       · obtain rfl : q = m := by omega
         exact hx
      have sx : (k.toList == (ks[m]'h1).toList) = false := by rw [str_beq]; simpa using fun e => hx e.symm
      generalize ks[m]'h1 = Y at *
      subst e8
      clear ne hx h1
      go_wp2_with fail
      go_roundw
      case rel => exact ⟨m + 1, by omega, by go_num, NE2, by first | rfl | trivial⟩
      case measure => simp [intOf]; omega
  · obtain rfl : m = nk := by omega
    have Z := Lib.hid (place7_no (ks := ks) (k := k) (fun q g => NE.out q g (by rw [HNK.out]; exact g)))
    clear NE hmk
    go_wp2_with fail
    go_ret
    exact idx_ret Z.out rfl rfl
theorem contains_any (S : Nat → Prop) (A : Option Addr) (c : Nat) (ks : List ByteArray) (k : ByteArray) (w : World) (h : FlS w S A (ks.map Value.string)) (hl : ks.length ≤ maxLen) :
 Calls Tryz.prog 70 #[.slice A ks.length c, .string k] w (fun e w' => e = .returned (.bool (place7 ks k).isSome) ∧ w' = w) := by
 have IX := Lib.hid (index_any S A c ks k w h hl)
 obtain ⟨o, ho⟩ : ∃ o, o = place7 ks k := ⟨_, rfl⟩
 obtain ⟨nk, hnk⟩ : ∃ m, m = ks.length := ⟨_, rfl⟩
 have ix := IX.out
 unfold Idx at ix
 rw [← ho, ← hnk] at ix
 rw [← ho, ← hnk]
 have IX2 := Lib.hid ix
 clear ix IX ho hnk h hl
 cases o with
 | none =>
  go_enter Tryz.func70, Tryz.ntmps70
  go_wp2_with fail
  with_reducible refine IX2.out.mono ?_
  rintro e w1 ⟨rfl, rfl⟩
  have q2 : ¬ (0 : Int) ≤ num7 none := by decide
  go_wp2_with fail
  go_ret
  exact ⟨by simp [num7], rfl⟩
 | some i =>
  go_enter Tryz.func70, Tryz.ntmps70
  go_wp2_with fail
  with_reducible refine IX2.out.mono ?_
  rintro e w1 ⟨rfl, rfl⟩
  have q2 : (0 : Int) ≤ num7 (some i) := by show (0 : Int) ≤ (i : Int); omega
  go_wp2_with fail
  go_ret
  exact ⟨by simp, rfl⟩
def eqs (a b : List ByteArray) : Bool := decide (a = b)
theorem Drewn7.next {w a : World} (h : Drewn7 w a) (n : Nat) : Drewn7 w (a.drewN n) := by obtain ⟨k, rfl⟩ := h; exact ⟨k + n, by simp⟩
def Eqd (r : Bool) (w : World) (e : Ending) (w' : World) : Prop := e = .returned (.bool r) ∧ Drewn7 w w'
theorem eqd_ret {r c : Bool} {w w' : World} (h : r = c) (hw : Drewn7 w w') : Eqd r w (.returned (.bool c)) w' := by subst h; exact ⟨rfl, hw⟩
theorem equal_any (S : Nat → Prop) (A D : Option Addr) (c d : Nat) (ks ls : List ByteArray) (w : World) (h : FlS w S A (ks.map Value.string)) (h' : FlS w S D (ls.map Value.string)) (hl : ks.length ≤ maxLen) (_hl' : ls.length ≤ maxLen) :
 Calls Tryz.prog 38 #[.slice A ks.length c, .slice D ls.length d] w (Eqd (eqs ks ls) w) := by
 have F := Lib.hid h
 have G := Lib.hid h'
 obtain ⟨R, hR⟩ : ∃ R, R = eqs ks ls := ⟨_, rfl⟩
 rw [← hR]
 unfold eqs at hR
 by_cases hlen : ks.length = ls.length
 · obtain ⟨nk, hnk⟩ : ∃ m, m = ks.length := ⟨_, rfl⟩
   have HNK := Lib.hid hnk
   have HNL : Hid (nk = ls.length) := hnk.trans hlen
   rw [← HNL.out, ← hnk]
   have hb : nk ≤ 9223372036854775807 := by unfold maxLen at hl; omega
   have YES : Hid (ks = ls → R = true) := fun e => by rw [hR]; simpa using e
   have NO : Hid (ks ≠ ls → R = false) := fun e => by rw [hR]; simpa using e
   clear hnk h h' hl hlen hR
   go_enter Tryz.func38, Tryz.ntmps38
   go_wp2_with fail
   go_loopw [13] (fun t wq => ∃ j : Nat, j ≤ nk ∧ t = .int .i64 (j : Int) ∧ Hid (∀ m (h : m < ks.length) (g : m < ls.length), m < j → ks[m]'h = ls[m]'g) ∧ Drewn7 w wq) (fun t _ => nk - (intOf t).toNat)
   case atStart => exact ⟨0, Nat.zero_le _, rfl, fun _ _ _ h => absurd h (Nat.not_lt_zero _), ⟨0, rfl⟩⟩
   case round =>
    obtain ⟨m, hm, rfl, NE, ⟨nd, rfl⟩⟩ := hrel
    by_cases hmk : m < nk
    · have h1 : m < ks.length := by rw [← HNK.out]; exact hmk
      have h2 : m < ls.length := by rw [← HNL.out]; exact hmk
      obtain ⟨b8, o8, e8, hb8, z0⟩ := fl_str F.out h1
      obtain ⟨b9, o9, e9, hb9, z1⟩ := fl_str G.out h2
      have ne := NE.out
      by_cases hx : ks[m]'h1 = ls[m]'h2
      · have NE2 : Hid (∀ q (h : q < ks.length) (g : q < ls.length), q < m + 1 → ks[q]'h = ls[q]'g) := fun q h g hq => by
         rcases Nat.lt_or_ge q m with k | k
         · exact ne q h g k
         · obtain rfl : q = m := by omega
           exact hx
        rw [← hx] at z1
        generalize ks[m]'h1 = Y at *
        have sx : (Y.toList != Y.toList) = false := by rw [str_bne]; simp
        subst e8 e9
        clear ne hx h1 h2
        go_wp2_with fail
        go_quiet (fail)
        go_wp2_with fail
        go_roundw
        case rel => exact ⟨m + 1, by omega, by go_num, NE2, ⟨_, rfl⟩⟩
        case measure => simp [intOf]; omega
      · have Z := Lib.hid (NO.out (fun e => hx (by subst e; rfl)))
        have sx : ((ks[m]'h1).toList != (ls[m]'h2).toList) = true := by rw [str_bne]; simpa using hx
        have sx2 : ((ks[m]'h1).toList == (ls[m]'h2).toList) = false := by rw [str_beq]; simpa using hx
        generalize ks[m]'h1 = Y at *
        generalize ls[m]'h2 = X at *
        subst e8 e9
        clear ne hx h1 h2
        go_wp2_with fail
        go_quiet (fail)
        go_wp2_with fail
        go_ret
        exact eqd_ret Z.out (Drewn7.next ⟨_, rfl⟩ _)
    · obtain rfl : m = nk := by omega
      have Z := Lib.hid (YES.out (List.ext_getElem (by rw [← HNK.out, HNL.out]) fun j g1 g2 => NE.out j g1 g2 (by rw [HNK.out]; exact g1)))
      clear NE hmk
      go_wp2_with fail
      go_ret
      exact eqd_ret Z.out ⟨_, rfl⟩
 · have Z : Hid (R = false) := by show _ = _; rw [hR]; simp only [decide_eq_false_iff_not]; intro e; exact hlen (by rw [e])
   have q : ((ks.length : Int) != (ls.length : Int)) = true := by rw [bne_iff_ne]; omega
   clear hlen hR h h'
   go_enter Tryz.func38, Tryz.ntmps38
   go_wp2_with fail
   go_ret
   exact eqd_ret Z.out ⟨0, rfl⟩
theorem bequal_any (A D : Option Addr) (c d : Nat) (l m : List UInt8) (w : World) (hl : Bys w w.heap.size A l) (hm : Bys w w.heap.size D m) :
 Calls Tryz.prog 37 #[.slice A l.length c, .slice D m.length d] w (fun e w' => e = .returned (.bool (decide (l = m))) ∧ w' = w) := by
 have c1 := hl.str (P := Tryz.prog) byteT strT c
 have c2 := hm.str (P := Tryz.prog) byteT strT d
 have q : ((⟨l.toArray⟩ : ByteArray).toList == (⟨m.toArray⟩ : ByteArray).toList) = decide (l = m) := by
  rw [str_beq]
  by_cases h : l = m
  · subst h; simp
  · have : ¬ (⟨l.toArray⟩ : ByteArray) = ⟨m.toArray⟩ := fun e => h (bytes_inj e)
    simp [h, this]
 have Q := Lib.hid q
 clear q
 generalize (⟨l.toArray⟩ : ByteArray) = S1 at *
 generalize (⟨m.toArray⟩ : ByteArray) = S2 at *
 generalize decide (l = m) = R at *
 generalize l.length = n1 at *
 generalize m.length = n2 at *
 have q := Q.out
 clear hl hm Q
 cases R
 all_goals
  go_enter Tryz.func37, Tryz.ntmps37
  go_wp2_with fail
  go_ret
  exact ⟨rfl, rfl⟩
noncomputable def vsames (a b : List V) : Bool := @decide (a = b) (Classical.propDecidable _)
theorem vsames_yes {a b : List V} (h : a = b) : vsames a b = true := by unfold vsames; simpa using h
theorem vsames_no {a b : List V} (h : a ≠ b) : vsames a b = false := by unfold vsames; simpa using h
def VSameC (t : V) : Prop := ∀ (u : V) (w : World) (A3 A4 A5 D3 D4 D5 : Option Addr) (c3 c4 c5 d3 d4 d5 : Nat),
 Lies w (· < w.heap.size) t.enc [.int .i64 t.k, .int .i64 t.n, .int .u64 t.bt, .slice A3 t.bs.length c3, .slice A4 t.its.length c4, .slice A5 t.ks.length c5] → Lies w (· < w.heap.size) u.enc [.int .i64 u.k, .int .i64 u.n, .int .u64 u.bt, .slice D3 u.bs.length d3, .slice D4 u.its.length d4, .slice D5 u.ks.length d5] →
 Calls Tryz.prog 16 #[.agg #[.int .i64 t.k, .int .i64 t.n, .int .u64 t.bt, .slice A3 t.bs.length c3, .slice A4 t.its.length c4, .slice A5 t.ks.length c5], .agg #[.int .i64 u.k, .int .i64 u.n, .int .u64 u.bt, .slice D3 u.bs.length d3, .slice D4 u.its.length d4, .slice D5 u.ks.length d5]] w (Told (V.same t u) w)
theorem vEqF_any (its its' : List V) (IHs : ∀ i (h : i < its.length), VSameC (its[i]'h)) (w : World) (A3 D3 : Option Addr) (c3 d3 : Nat) (rt : RowD w (· < w.heap.size) 6 (its.map V.enc) A3) (ru : RowD w (· < w.heap.size) 6 (its'.map V.enc) D3) (hl : its.length ≤ maxLen) (_hl' : its'.length ≤ maxLen) :
 Calls Tryz.prog 39 #[.slice A3 its.length c3, .slice D3 its'.length d3, .func (.func 16) #[] #[]] w (Told (vsames its its') w) := by
 have CS := cell_set
 obtain ⟨R, hR⟩ : ∃ R, R = vsames its its' := ⟨_, rfl⟩
 have HR := Lib.hid hR
 rw [← hR]
 by_cases hlen : its.length = its'.length
 · have RT := Lib.hid rt; have RU := Lib.hid ru
   obtain ⟨ni, hni⟩ : ∃ m, m = its.length := ⟨_, rfl⟩
   have HNI := Lib.hid hni
   have HLI : Hid (its'.length = ni) := hlen.symm.trans hni.symm
   have ni0 : ni ≤ 9223372036854775807 := by unfold maxLen at hl; omega
   have IH := Lib.hid IHs
   rw [HLI.out, ← HNI.out]
   clear hni hlen rt ru hl hR IHs
   go_enter Tryz.func39, Tryz.ntmps39
   go_wp2_with fail
   go_loopw [17] (fun t wr => ∃ p : Nat, p ≤ ni ∧ t = .int .i64 (p : Int) ∧ Hid (∀ j (h1 : j < its.length) (h2 : j < its'.length), j < p → its[j]'h1 = its'[j]'h2) ∧ Below w.heap.size w wr) (fun t _ => ni - (intOf t).toNat)
   case atStart => exact ⟨0, by omega, rfl, fun _ _ _ h => absurd h (Nat.not_lt_zero _), Below.refl _ _⟩
   case round =>
    obtain ⟨p, hp, rfl, HE, bl⟩ := hrel
    have gsz := bl.size
    by_cases hpn : p < ni
    · have h1 : p < its.length := by rw [← HNI.out]; exact hpn
      have h2 : p < its'.length := by rw [HLI.out]; exact hpn
      obtain ⟨b1, o1, X3, x3, X4, x4, X5, x5, e1, hb1, ⟨y0, y1, y2, y3, y4, y5⟩, ty⟩ := values_at (RT.out.below bl) h1
      obtain ⟨b2, o2, Z3, z3, Z4, z4, Z5, z5, e2, hb2, ⟨v0, v1, v2, v3, v4, v5⟩, tv⟩ := values_at (RU.out.below bl) h2
      have lb1 : b1 < wr.heap.size := by omega
      have lb2 : b2 < wr.heap.size := by omega
      have nb2 : b2 ≠ wr.heap.size := by omega
      have IHp := Lib.hid (IH.out p h1)
      have he := HE.out
      have I2 := Lib.hid (fun W a b => IHp.out (its'[p]'h2) W X3 X4 X5 Z3 Z4 Z5 x3 x4 x5 z3 z4 z5 a b)
      have NO : Hid (V.same (its[p]'h1) (its'[p]'h2) = false → R = false) := fun e => HR.out.trans (vsames_no fun g => by subst g; rw [V.same_yes rfl] at e; exact absurd e (by simp))
      have HE2 : Hid (V.same (its[p]'h1) (its'[p]'h2) = true → ∀ j (h1 : j < its.length) (h2 : j < its'.length), j < p + 1 → its[j]'h1 = its'[j]'h2) := fun e j g1 g2 hj => by
       rcases Nat.lt_or_ge j p with g | g
       · exact he j g1 g2 g
       · obtain rfl : j = p := by omega
         exact V.same_iff.1 e
      obtain ⟨SB, hSB⟩ : ∃ b, b = V.same (its[p]'h1) (its'[p]'h2) := ⟨_, rfl⟩
      rw [← hSB] at I2 NO HE2
      generalize its[p]'h1 = T at *
      generalize its'[p]'h2 = U at *
      subst e1 e2
      have TY := Lib.hid (ty.more gsz); have TV := Lib.hid (tv.more gsz)
      clear he h1 h2 ty tv IHp hSB HE
      cases SB with
      | true =>
       have HE3 := Lib.hid (HE2.out rfl)
       clear HE2 NO
       go_wp2_with fail
       with_reducible refine (I2.out _ (TY.out.on bqq) (TV.out.on bqq)).mono ?_
       rintro e w3 ⟨rfl, b3⟩
       have bl3 : Below w.heap.size w w3 := bqq
       go_wp2_with fail
       go_roundw
       case rel => exact ⟨p + 1, by omega, by go_num, HE3, bl3⟩
       case measure => simp [intOf]; omega
      | false =>
       have Z : Hid (R = false) := NO.out rfl
       clear HE2 NO
       go_wp2_with fail
       with_reducible refine (I2.out _ (TY.out.on bqq) (TV.out.on bqq)).mono ?_
       rintro e w3 ⟨rfl, b3⟩
       have bl3 : Below w.heap.size w w3 := bqq
       go_wp2_with fail
       go_ret
       exact told_ret Z.out bqq
    · obtain rfl : p = ni := by omega
      have Z : Hid (R = true) := HR.out.trans (vsames_yes (List.ext_getElem (by rw [← HNI.out, HLI.out]) fun j g1 g2 => HE.out j g1 g2 (by rw [HNI.out]; exact g1)))
      clear HE hpn
      go_wp2_with fail
      go_ret
      exact told_ret Z.out bqq
 · have Z : Hid (R = false) := hR.trans (vsames_no fun e => hlen (by rw [e]))
   have q : ((its.length : Int) != (its'.length : Int)) = true := by rw [bne_iff_ne]; omega
   clear hlen rt ru hR IHs
   go_enter Tryz.func39, Tryz.ntmps39
   go_wp2_with fail
   go_ret
   exact told_ret Z.out bqq
theorem vSame_step (k n bt : Int) (bs : List UInt8) (its : List V) (ks : List ByteArray) (IHs : ∀ i (h : i < its.length), VSameC (its[i]'h)) : VSameC (.mk k n bt bs its ks) := by
 intro u w A3 A4 A5 D3 D4 D5 c3 c4 c5 d3 d4 d5 ht hu
 cases u with
 | mk k' n' bt' bs' its' ks' =>
  have CS := cell_set
  obtain ⟨_, _, _, _, _, _, e, l3, r3, l4, r4, l5, f5⟩ := V.out.1 ht
  simp only [V.k, V.n, V.bt, V.bs, V.its, V.ks, List.cons.injEq, Value.slice.injEq, true_and, and_true] at e l3 r3 l4 r4 l5 f5
  obtain ⟨⟨rfl, rfl⟩, ⟨rfl, rfl⟩, rfl, rfl⟩ := e
  obtain ⟨_, _, _, _, _, _, e, m3, s3, m4, s4, m5, g5⟩ := V.out.1 hu
  simp only [V.k, V.n, V.bt, V.bs, V.its, V.ks, List.cons.injEq, Value.slice.injEq, true_and, and_true] at e m3 s3 m4 s4 m5 g5
  obtain ⟨⟨rfl, rfl⟩, ⟨rfl, rfl⟩, rfl, rfl⟩ := e
  simp only [V.k, V.n, V.bt, V.bs, V.its, V.ks]
  obtain ⟨RR, hRR⟩ : ∃ R, R = V.same (.mk k n bt bs its ks) (.mk k' n' bt' bs' its' ks') := ⟨_, rfl⟩
  have HR := Lib.hid hRR
  rw [← hRR]
  have Y3 := Lib.hid (row_bys r3); have Y3' := Lib.hid (row_bys s3)
  have BE := Lib.hid (fun W (b : Below w.heap.size w W) => bequal_any A3 D3 c3 d3 bs bs' W ((Y3.out.below b).more b.size) ((Y3'.out.below b).more b.size))
  have EQ := Lib.hid (fun W (b : Below w.heap.size w W) => equal_any (· < W.heap.size) A5 D5 c5 d5 ks ks' W (FlS.keep (Below.keeps b) (fun _ h => Nat.lt_of_lt_of_le h b.size) f5) (FlS.keep (Below.keeps b) (fun _ h => Nat.lt_of_lt_of_le h b.size) g5) l5.2 m5.2)
  obtain ⟨R, hR⟩ : ∃ R, R = vsames its its' := ⟨_, rfl⟩
  have EFD : Hid (∀ W, Below w.heap.size w W → Calls Tryz.prog 39 #[.slice A4 its.length c4, .slice D4 its'.length d4, .func (.func 16) #[] #[]] W (Told R W)) := fun W b => by
   rw [hR]
   exact vEqF_any its its' IHs W A4 D4 c4 d4 ((r4.below b).more b.size) ((s4.below b).more b.size) l4.2 m4.2
  by_cases hk : k = k'
  rotate_left
  · have Z := Lib.hid (HR.out.trans (V.same_no fun e => hk (by injection e)))
    have q : (k == k') = false := by simpa using hk
    clear hk hRR ht hu r3 r4 f5 s3 s4 g5 IHs BE EQ EFD hR HR
    go_enter Tryz.func16, Tryz.ntmps16
    go_wp2_with fail
    go_ret
    exact told_ret Z.out bqq
  subst hk
  by_cases hn : n = n'
  rotate_left
  · have Z := Lib.hid (HR.out.trans (V.same_no fun e => hn (by injection e)))
    have q : (n == n') = false := by simpa using hn
    clear hn hRR ht hu r3 r4 f5 s3 s4 g5 IHs BE EQ EFD hR HR
    go_enter Tryz.func16, Tryz.ntmps16
    go_wp2_with fail
    go_ret
    exact told_ret Z.out bqq
  subst hn
  by_cases hb : bt = bt'
  rotate_left
  · have Z := Lib.hid (HR.out.trans (V.same_no fun e => hb (by injection e)))
    have q : (bt == bt') = false := by simpa using hb
    clear hb hRR ht hu r3 r4 f5 s3 s4 g5 IHs BE EQ EFD hR HR
    go_enter Tryz.func16, Tryz.ntmps16
    go_wp2_with fail
    go_ret
    exact told_ret Z.out bqq
  subst hb
  by_cases hs : bs = bs'
  rotate_left
  · have Z := Lib.hid (HR.out.trans (V.same_no fun e => hs (by injection e)))
    rw [show decide (bs = bs') = false by simpa using hs] at BE
    clear hs hRR ht hu r3 r4 f5 s3 s4 g5 IHs EQ EFD hR HR
    generalize bs.length = nb at *
    generalize bs'.length = nb' at *
    go_enter Tryz.func16, Tryz.ntmps16
    go_wp2_with fail
    with_reducible refine (BE.out _ bqq).mono ?_
    rintro e w3 ⟨rfl, rfl⟩
    go_wp2_with fail
    go_ret
    exact told_ret Z.out bqq
  subst hs
  rw [show decide (bs = bs) = true by simp] at BE
  by_cases hks : ks = ks'
  rotate_left
  · have Z := Lib.hid (HR.out.trans (V.same_no fun e => hks (by injection e)))
    rw [show eqs ks ks' = false by unfold eqs; simpa using hks] at EQ
    clear hks hRR ht hu r3 r4 f5 s3 s4 g5 IHs EFD hR HR
    go_enter Tryz.func16, Tryz.ntmps16
    go_wp2_with fail
    with_reducible refine (BE.out _ bqq).mono ?_
    rintro e w3 ⟨rfl, rfl⟩
    go_wp2_with fail
    with_reducible refine (EQ.out _ bqq).mono ?_
    rintro e w3 ⟨rfl, nd, rfl⟩
    go_wp2_with fail
    go_ret
    exact told_ret Z.out bqq
  subst hks
  rw [show eqs ks ks = true by unfold eqs; simp] at EQ
  have Z : Hid (RR = R) := by
   show _ = _
   rw [HR.out, hR]
   by_cases hi : its = its'
   · subst hi; rw [V.same_yes rfl, vsames_yes rfl]
   · rw [V.same_no (fun e => hi (by injection e)), vsames_no hi]
  clear hRR ht hu r3 r4 f5 s3 s4 g5 IHs hR HR
  go_enter Tryz.func16, Tryz.ntmps16
  go_wp2_with fail
  with_reducible refine (BE.out _ bqq).mono ?_
  rintro e w3 ⟨rfl, rfl⟩
  go_wp2_with fail
  with_reducible refine (EQ.out _ bqq).mono ?_
  rintro e w3 ⟨rfl, nd, rfl⟩
  go_wp2_with fail
  with_reducible refine (EFD.out _ bqq).mono ?_
  rintro e w4 ⟨rfl, b4⟩
  have bw : Below w.heap.size w w4 := bqq
  go_wp2_with fail
  go_ret
  exact told_ret Z.out bw
theorem vSame_at : ∀ (N : Nat) (t : V), SizeOf.sizeOf t ≤ N → VSameC t
 | 0, t, h => by cases t; simp at h
 | N + 1, .mk k n bt bs its ks, hN => vSame_step k n bt bs its ks fun i h => vSame_at N (its[i]'h) (by have := V.lt_its (v := .mk k n bt bs its ks) (i := i) h; simp only [V.its] at this; omega)
theorem vSame_any (t : V) : VSameC t := vSame_at _ t (Nat.le_refl _)
theorem vdeep_at : ∀ (N : Nat) (v : V), SizeOf.sizeOf v ≤ N → v.deep ≤ 1000000 → ∀ (w : World) (A3 A4 A5 : Option Addr) (c3 c4 c5 : Nat),
 Lies w (· < w.heap.size) v.enc [.int .i64 v.k, .int .i64 v.n, .int .u64 v.bt, .slice A3 v.bs.length c3, .slice A4 v.its.length c4, .slice A5 v.ks.length c5] →
 Calls Tryz.prog 18 #[.agg #[.int .i64 v.k, .int .i64 v.n, .int .u64 v.bt, .slice A3 v.bs.length c3, .slice A4 v.its.length c4, .slice A5 v.ks.length c5]] w (Num_ v.deep w)
 | 0, v, h => by cases v; simp at h
 | N + 1, .mk k n bt bs its ks, hN => by
  intro hD w A3 A4 A5 c3 c4 c5 ht
  have CS := cell_set
  obtain ⟨_, _, _, _, _, _, e, l3, r3, l4, r4, l5, f5⟩ := V.out.1 ht
  simp only [V.k, V.n, V.bt, V.bs, V.its, V.ks, List.cons.injEq, Value.slice.injEq, true_and, and_true] at e l3 r3 l4 r4 l5 f5
  obtain ⟨⟨rfl, rfl⟩, ⟨rfl, rfl⟩, rfl, rfl⟩ := e
  have din := V.deep_in (v := .mk k n bt bs its ks); have dout := V.deep_out (v := .mk k n bt bs its ks)
  simp only [V.k, V.n, V.bt, V.bs, V.its, V.ks] at din dout ⊢
  by_cases hk : deepK k
  · have d1 := din hk
    rw [d1] at hD ⊢
    have RT := Lib.hid r4
    obtain ⟨ni, hni⟩ : ∃ m, m = its.length := ⟨_, rfl⟩
    have HNI := Lib.hid hni
    have ni0 : ni ≤ 9223372036854775807 := by have := l4.2; unfold maxLen at this; omega
    have IH : Hid (∀ (i : Nat) (h1 : i < its.length) (W : World) (A3 A4 A5 : Option Addr) (c3 c4 c5 : Nat),
     Lies W (· < W.heap.size) (its[i]'h1).enc [.int .i64 (its[i]'h1).k, .int .i64 (its[i]'h1).n, .int .u64 (its[i]'h1).bt, .slice A3 (its[i]'h1).bs.length c3, .slice A4 (its[i]'h1).its.length c4, .slice A5 (its[i]'h1).ks.length c5] →
     Calls Tryz.prog 18 #[.agg #[.int .i64 (its[i]'h1).k, .int .i64 (its[i]'h1).n, .int .u64 (its[i]'h1).bt, .slice A3 (its[i]'h1).bs.length c3, .slice A4 (its[i]'h1).its.length c4, .slice A5 (its[i]'h1).ks.length c5]] W (Num_ (its[i]'h1).deep W)) := fun i h1 W A3 A4 A5 c3 c4 c5 a =>
     vdeep_at N (its[i]'h1) (by have := V.lt_its (v := .mk k n bt bs its ks) (i := i) h1; simp only [V.its] at this; omega) (by have := V.deeps_at h1; omega) W A3 A4 A5 c3 c4 c5 a
    obtain ⟨DI, hDI⟩ : ∃ d, d = V.deeps its := ⟨_, rfl⟩
    obtain ⟨F, hF⟩ : ∃ F : Nat → Nat, F = fun i => V.deeps (its.take i) := ⟨_, rfl⟩
    have F0 : Hid (F 0 = 0) := by show _ = _; rw [hF]; rfl
    have FS : Hid (∀ i (h : i < its.length), F (i + 1) = max (F i) (its[i]'h).deep) := fun i h => by rw [hF]; exact V.deeps_take h
    have FL : Hid (∀ i, F i ≤ DI) := fun i => by rw [hF, hDI]; exact V.deeps_le its i
    have FA : Hid (F ni = DI) := by show _ = _; rw [hF, hDI, hni]; show V.deeps (its.take its.length) = _; rw [List.take_length]
    rw [← hDI] at hD ⊢
    rw [← HNI.out]
    clear hF hDI hni ht r3 r4 f5 hN d1 din dout l3 l4 l5
    have G0 : Below w.heap.size w (w.alloc (.cells #[.int .i64 k, .int .i64 n, .int .u64 bt, .slice A3 bs.length c3, .slice A4 ni c4, .slice A5 ks.length c5] 30)) := (Below.refl _ _).alloc (Nat.le_refl _) _
    have gz0 : (w.alloc (.cells #[.int .i64 k, .int .i64 n, .int .u64 bt, .slice A3 bs.length c3, .slice A4 ni c4, .slice A5 ks.length c5] 30)).heap.size = w.heap.size + 1 := by simp
    have GZ0 := Lib.hid gz0
    have GG := Lib.hid G0
    have H0 := Lib.hid (B6.newat (w := w) (t := 30) (x0 := .int .i64 k) (x1 := .int .i64 n) (x2 := .int .u64 bt) (x3 := .slice A3 bs.length c3) (x4 := .slice A4 ni c4) (x5 := .slice A5 ks.length c5) rfl)
    clear gz0 G0
    generalize bs.length = nb at *
    generalize ks.length = nk at *
    rcases hk with rfl | rfl | rfl | rfl
    all_goals
     go_enter Tryz.func18, Tryz.ntmps18
     go_wp2_with fail
     go_loopw [3, 16] (fun m t wr => ∃ p : Nat, p ≤ ni ∧ t = .int .i64 (p : Int) ∧ m = .int .i64 (F p : Int) ∧ Below (w.heap.size + 1) (w.alloc (.cells #[.int .i64 _, .int .i64 n, .int .u64 bt, .slice A3 nb c3, .slice A4 ni c4, .slice A5 nk c5] 30)) wr) (fun _ t _ => ni - (intOf t).toNat)
     case atStart => exact ⟨0, by omega, rfl, by rw [F0.out]; rfl, Below.refl _ _⟩
     case round =>
      obtain ⟨p, hp, rfl, rfl, bl⟩ := hrel
      have gsz := bl.size
      rw [GZ0.out] at gsz
      have gsz2 : w.heap.size ≤ wr.heap.size := by omega
      have blw := GG.out.trans (bl.mono (by omega))
      obtain ⟨_, _, _, _, _, _, _, _, _, _, _, _⟩ := B6.facts (B6.below H0.out bl (Nat.lt_succ_self _))
      by_cases hpn : p < ni
      · have h1 : p < its.length := by rw [← HNI.out]; exact hpn
        obtain ⟨b1, o1, X3, x3, X4, x4, X5, x5, e1, hb1, ⟨y0, y1, y2, y3, y4, y5⟩, ty⟩ := values_at (RT.out.below blw) h1
        have I2 := Lib.hid (fun W a => IH.out p h1 W X3 X4 X5 x3 x4 x5 a)
        have fs := FS.out p h1
        have fl := FL.out (p + 1)
        generalize its[p]'h1 = T at *
        subst e1
        have TY := Lib.hid ty
        obtain ⟨dT, hdT⟩ : ∃ d, d = T.deep := ⟨_, rfl⟩
        rw [← hdT] at fs I2
        clear ty h1 hdT
        by_cases hm : F p < dT
        · have FS1 : Hid (F (p + 1) = dT) := by show _ = _; omega
          have qm : (dT : Int) > (F p : Int) := by omega
          clear fs fl hm
          go_wp2_with fail
          with_reducible refine (I2.out _ ((TY.out.more gsz2).on bqq)).mono ?_
          rintro e w3 ⟨rfl, b3'⟩
          have b3 : Below wr.heap.size wr w3 := bqq
          obtain ⟨_, _, _, _, _, _, _, _, _, _, _, _⟩ := B6.facts (B6.below (B6.below H0.out bl (Nat.lt_succ_self _)) b3 (by omega))
          go_wp2_with fail
          go_roundw
          case rel => exact ⟨p + 1, by omega, by go_num, by rw [FS1.out], bl.trans (b3.mono gsz)⟩
          case measure => simp [intOf]; omega
        · have FS1 : Hid (F (p + 1) = F p) := by show _ = _; omega
          have qm : ¬ (dT : Int) > (F p : Int) := by omega
          clear fs fl hm
          go_wp2_with fail
          with_reducible refine (I2.out _ ((TY.out.more gsz2).on bqq)).mono ?_
          rintro e w3 ⟨rfl, b3'⟩
          have b3 : Below wr.heap.size wr w3 := bqq
          obtain ⟨_, _, _, _, _, _, _, _, _, _, _, _⟩ := B6.facts (B6.below (B6.below H0.out bl (Nat.lt_succ_self _)) b3 (by omega))
          go_wp2_with fail
          go_roundw
          case rel => exact ⟨p + 1, by omega, by go_num, by rw [FS1.out], bl.trans (b3.mono gsz)⟩
          case measure => simp [intOf]; omega
      · obtain rfl : p = ni := by omega
        have Z := Lib.hid FA.out
        clear hpn
        go_wp2_with fail
        go_ret
        exact num_ret (by rw [Z.out]; push_cast; first | rfl | exact IntWalk.wrap64_in _ (by omega)) blw
  · have d0 := dout hk
    unfold deepK at hk
    have q9 : (k == 9) = false := by rw [beq_eq_false_iff_ne]; omega
    have q11 : (k == 11) = false := by rw [beq_eq_false_iff_ne]; omega
    have q12 : (k == 12) = false := by rw [beq_eq_false_iff_ne]; omega
    have q13 : (k == 13) = false := by rw [beq_eq_false_iff_ne]; omega
    have Z := Lib.hid d0
    clear ht r3 r4 f5 din dout hk d0 hD
    generalize V.deep (.mk k n bt bs its ks) = DD at *
    go_enter Tryz.func18, Tryz.ntmps18
    go_wp2_with fail
    go_ret
    exact num_ret (by rw [Z.out]; rfl) bqq
end Go.Proofs.YtpmgjpchpmkklaaGreatDoor
