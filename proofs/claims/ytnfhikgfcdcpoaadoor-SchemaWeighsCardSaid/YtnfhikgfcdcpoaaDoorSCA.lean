/- Layer 10, the code's own calls: kinds that have names, and kids. -/
import Derived.Test.YtnfhikgfcdcpoaaDoorRow
import Derived.Test.YtnfhikgfcdcpoaaDoorSMath
import Derived.Test.YtnfhikgfcdcpoaaDoorJTSame
import Derived.Deep.LoopGhost
import Derived.BigQuiet
import Derived.Lib.SliceRun
namespace Go.Proofs.YtnfhikgfcdcpoaaDoor
open Go.ChangeShapes Go.WideShapes Go.ChangeAt Go.RowKit Mem

/-- A call that answers a value, and leaves the world. -/
def Sole (v : Value) (w : World) (e : Ending) (w' : World) : Prop := e = .returned v ∧ w' = w
theorem sNamed_pure (k : Int) (w : World) : Calls Tryd.prog 11 #[.int .i64 k] w (Sole (.bool (named k)) w) := by
  obtain ⟨b, hb⟩ : ∃ b, b = named k := ⟨_, rfl⟩
  rw [← hb]
  unfold named at hb
  by_cases h9 : k = 9
  · subst h9
    obtain rfl : b = true := by rw [hb]; decide
    clear hb
    go_enter Tryd.func11, Tryd.ntmps11
    go_wp2_with fail
    go_ret
    exact ⟨rfl, rfl⟩
  · have q9 : ((k : Int) == 9) = false := by rw [beq_eq_false_iff_ne]; exact h9
    by_cases h10 : k = 10
    · subst h10
      obtain rfl : b = true := by rw [hb]; decide
      clear hb q9
      go_enter Tryd.func11, Tryd.ntmps11
      go_wp2_with fail
      go_ret
      exact ⟨rfl, rfl⟩
    · have q10 : ((k : Int) == 10) = false := by rw [beq_eq_false_iff_ne]; exact h10
      by_cases h14 : k = 14
      · subst h14
        obtain rfl : b = true := by rw [hb]; decide
        clear hb q9 q10
        go_enter Tryd.func11, Tryd.ntmps11
        go_wp2_with fail
        go_ret
        exact ⟨rfl, rfl⟩
      · have q14 : ((k : Int) == 14) = false := by rw [beq_eq_false_iff_ne]; exact h14
        obtain rfl : b = false := by rw [hb, decide_eq_false_iff_not]; omega
        clear hb
        go_enter Tryd.func11, Tryd.ntmps11
        go_wp2_with fail
        go_ret
        exact ⟨rfl, rfl⟩
theorem sNamed_any (k : Int) (w : World) : Calls Tryd.prog 11 #[.int .i64 k] w (Told (named k) w) :=
  (sNamed_pure k w).mono fun _ _ ⟨h1, h2⟩ => ⟨h1, by rw [h2]; exact Below.refl _ _⟩

set_option maxRecDepth 100000 in
set_option maxHeartbeats 4000000 in
theorem sClone_any (l : List Int) (hs : l.length ≤ 100000000) (w : World) (A : Option Addr) (c : Nat) (h : RowD w (· < w.heap.size) 1 (l.map (D.i .i64)) A) :
    Calls Tryd.prog 26 #[.slice A l.length c] w (KidsA l w) := by
  have FL := Lib.hid (fls_fl (B := w.heap.size) (ints_fl h) (fun _ h => h))
  have nq := fun (A : Option Addr) (n c : Nat) (W : World) => Lib.run_eql_slice_nil (P := Tryd.prog) W 31 3 A n c 0 0 intT.sl
  cases A with
  | none =>
    obtain rfl : l = [] := by
      rcases l with _ | ⟨x, r⟩
      · rfl
      · obtain ⟨_, _, e, _⟩ := ints_at h (i := 0) (by simp)
        cases e
    clear h FL
    go_enter Tryd.func26, Tryd.ntmps26
    go_wp2_with fail
    go_ret
    exact kids_ret (OwnR.none_ _ w.heap.size 3 1) (Nat.le_refl _) rfl rfl (by decide) (Below.refl _ _)
  | some ad =>
    have W1 : Below w.heap.size w (w.alloc (.cells #[] 3)) := (Below.refl _ _).alloc (Nat.le_refl _) _
    have FW := Lib.hid (Fl.below FL.out W1)
    have O0 := Lib.hid (own_litR w 3 1 (Nat.le_refl w.heap.size))
    obtain ⟨n, hn⟩ : ∃ n, n = l.length := ⟨_, rfl⟩
    have HN := Lib.hid hn
    rw [← hn] at hs ⊢
    clear h FL hn
    go_enter Tryd.func26, Tryd.ntmps26
    go_wp2_with (at_builtin; refine wpList_appRs _ intT rfl (.tmp 5) (.tmp 6) rfl w.heap.size _ 0 _ rfl O0.out w.heap.size (some ad) n c (l.map (Value.int .i64)) rfl (by rw [List.length_map, HN.out]; omega) FW.out (by intro u hu; obtain ⟨x, _, rfl⟩ := List.mem_map.1 hu; rfl) (by omega) (by simp) ?_; intro v3 w3 o3 b3)
    go_ret
    exact kids_ret o3 (Nat.le_refl _) rfl (by rw [HN.out]; omega) (by rw [← HN.out]; omega) (W1.trans b3)
set_option maxRecDepth 100000 in
set_option maxHeartbeats 4000000 in
theorem sKids_9 (n : Nd) (hk : n.k = 9) (hs : n.fs.length ≤ 100000000) (w : World) (A2 A3 A4 A9 : Option Addr) (c2 c3 c4 c9 : Nat)
    (h : Lies w (· < w.heap.size) n.enc [.int .i64 n.k, .string n.name, .slice A2 n.al.length c2, .slice A3 n.fs.length c3, .slice A4 n.sy.length c4, .bool n.has, .string n.df, .int .i64 n.size, .int .i64 n.items, .slice A9 n.br.length c9]) :
    Calls Tryd.prog 13 #[.agg #[.int .i64 n.k, .string n.name, .slice A2 n.al.length c2, .slice A3 n.fs.length c3, .slice A4 n.sy.length c4, .bool n.has, .string n.df, .int .i64 n.size, .int .i64 n.items, .slice A9 n.br.length c9]] w (KidsA n.kids w) := by
  have CS := cell_set
  have ek : n.kids = n.fs.map Fd.ty := by unfold Nd.kids; rw [if_pos hk]
  obtain ⟨_, _, _, _, _, _, _, _, e, _, _, len3, row3, _, _, len9, row9⟩ := Nd.out.1 h
  simp only [List.cons.injEq, Value.slice.injEq, true_and, and_true] at e
  obtain ⟨⟨rfl, rfl⟩, ⟨rfl, rfl⟩, ⟨rfl, rfl⟩, rfl, rfl⟩ := e
  rw [ek, hk]
  have RW := Lib.hid row3
  obtain ⟨fs, hfs⟩ : ∃ fs, fs = n.fs := ⟨_, rfl⟩
  rw [← hfs] at hs RW ⊢
  obtain ⟨m, hm⟩ : ∃ m, m = fs.length := ⟨_, rfl⟩
  have HM := Lib.hid hm
  rw [← hm] at hs ⊢
  have W1 : Below w.heap.size w (w.alloc (.cells #[.int .i64 9, .string n.name, .slice A2 n.al.length c2, .slice A3 m c3, .slice A4 n.sy.length c4, .bool n.has, .string n.df, .int .i64 n.size, .int .i64 n.items, .slice A9 n.br.length c9] 33)) := (Below.refl _ _).alloc (Nat.le_refl _) _
  have gz : (w.alloc (.cells #[.int .i64 9, .string n.name, .slice A2 n.al.length c2, .slice A3 m c3, .slice A4 n.sy.length c4, .bool n.has, .string n.df, .int .i64 n.size, .int .i64 n.items, .slice A9 n.br.length c9] 33)).heap.size = w.heap.size + 1 := by simp
  have GZ := Lib.hid gz
  clear h row3 row9 hm hfs ek len3 len9 gz
  generalize n.al.length = e2 at *
  generalize n.sy.length = e4 at *
  generalize n.br.length = e9 at *
  have SZ : Hid (∀ (W : World) (o : Obj), (W.alloc o).heap.size = W.heap.size + 1) := fun W o => by simp
  have BK := Lib.hid (Blk.new w 33 #[.int .i64 9, .string n.name, .slice A2 e2 c2, .slice A3 m c3, .slice A4 e4 c4, .bool n.has, .string n.df, .int .i64 n.size, .int .i64 n.items, .slice A9 e9 c9])
  go_enter Tryd.func13, Tryd.ntmps13
  go_wp2_with (at_make; refine wpList_mkR0 _ intT rfl (.const (.int .i64 0)) (.tmp 12) rfl (w.heap.size + 1) _ m rfl rfl rfl (by omega) (by rw [GZ.out]; exact Nat.le_refl _) ?_; intro v0 w0 o0 b0; have z0 := b0.size; rw [GZ.out] at z0; have k3 := (b0.cell (p := ⟨w.heap.size, 3, none⟩) (Nat.lt_succ_self _)).trans ((BK.out).cell 3); simp at k3)
  go_loopw [17, 3] (fun t v wr => ∃ j : Nat, j ≤ m ∧ t = .int .i64 (j : Int) ∧ OwnR wr (w.heap.size + 1) 3 1 v j (((fs.take j).map Fd.ty).map (Value.int .i64)) ∧ Hid (Below (w.heap.size + 1) (w.alloc (.cells #[.int .i64 9, .string n.name, .slice A2 e2 c2, .slice A3 m c3, .slice A4 e4 c4, .bool n.has, .string n.df, .int .i64 n.size, .int .i64 n.items, .slice A9 e9 c9] 33)) wr)) (fun t _ _ => m - (intOf t).toNat)
  case atStart => exact ⟨0, Nat.zero_le _, rfl, o0, b0⟩
  case round =>
    obtain ⟨j, hj, rfl, ow, bl⟩ := hrel
    have bl2 := bl.out
    have z := bl2.size
    rw [GZ.out] at z
    have k3 := (bl2.cell (p := ⟨w.heap.size, 3, none⟩) (Nat.lt_succ_self _)).trans ((BK.out).cell 3)
    simp at k3
    by_cases hjm : j < m
    · have q : (j : Int) < (m : Int) := by omega
      obtain ⟨g, off, A1, c1, B3, d3, B4, d4, e, hg, ⟨f0, f1, f2, f3, f4, f5, f6, f7, f8⟩, _⟩ := fields_at RW.out (i := j) (by rw [← HM.out]; exact hjm)
      obtain rfl := e
      have hgw : g < w.heap.size := hg
      have y0 := (bl2.cell (p := ⟨g, off + j * 9, none⟩) (Nat.lt_succ_of_lt hgw)).trans ((W1.cell (p := ⟨g, off + j * 9, none⟩) hgw).trans f0)
      have y1 := (bl2.cell (p := ⟨g, off + j * 9 + 1, none⟩) (Nat.lt_succ_of_lt hgw)).trans ((W1.cell (p := ⟨g, off + j * 9 + 1, none⟩) hgw).trans f1)
      have y2 := (bl2.cell (p := ⟨g, off + j * 9 + 2, none⟩) (Nat.lt_succ_of_lt hgw)).trans ((W1.cell (p := ⟨g, off + j * 9 + 2, none⟩) hgw).trans f2)
      have y3 := (bl2.cell (p := ⟨g, off + j * 9 + 3, none⟩) (Nat.lt_succ_of_lt hgw)).trans ((W1.cell (p := ⟨g, off + j * 9 + 3, none⟩) hgw).trans f3)
      have y4 := (bl2.cell (p := ⟨g, off + j * 9 + 4, none⟩) (Nat.lt_succ_of_lt hgw)).trans ((W1.cell (p := ⟨g, off + j * 9 + 4, none⟩) hgw).trans f4)
      have y5 := (bl2.cell (p := ⟨g, off + j * 9 + 5, none⟩) (Nat.lt_succ_of_lt hgw)).trans ((W1.cell (p := ⟨g, off + j * 9 + 5, none⟩) hgw).trans f5)
      have y6 := (bl2.cell (p := ⟨g, off + j * 9 + 6, none⟩) (Nat.lt_succ_of_lt hgw)).trans ((W1.cell (p := ⟨g, off + j * 9 + 6, none⟩) hgw).trans f6)
      have y7 := (bl2.cell (p := ⟨g, off + j * 9 + 7, none⟩) (Nat.lt_succ_of_lt hgw)).trans ((W1.cell (p := ⟨g, off + j * 9 + 7, none⟩) hgw).trans f7)
      have y8 := (bl2.cell (p := ⟨g, off + j * 9 + 8, none⟩) (Nat.lt_succ_of_lt hgw)).trans ((W1.cell (p := ⟨g, off + j * 9 + 8, none⟩) hgw).trans f8)
      have TK : Hid ((fs.take (j + 1)).map Fd.ty = (fs.take j).map Fd.ty ++ [(fs[j]'(by rw [← HM.out]; exact hjm)).ty]) := by
        show _ = _
        rw [List.take_succ_eq_append_getElem (by rw [← HM.out]; exact hjm), List.map_append]; rfl
      generalize fs[j]'(by rw [← HM.out]; exact hjm) = F at *
      generalize F.al.length = l1 at *
      generalize F.df.its.length = l3 at *
      generalize F.df.ks.length = l4 at *
      clear f0 f1 f2 f3 f4 f5 f6 f7 f8
      have ow2 := ow.alloc (.cells #[.string F.name, .slice A1 l1 c1, .int .i64 F.ty, .bool F.has, .int .i64 F.df.k, .int .i64 F.df.n, .string F.df.t, .slice B3 l3 d3, .slice B4 l4 d4] 38)
      go_wp2_with (at_builtin; refine wpList_appR1 _ intT rfl (.tmp 21) (.tmp 24) rfl (w.heap.size + 1) _ j _ rfl ow2 1 #[.int .i64 F.ty] (by rw [SZ.out]; rfl) rfl (by simp [Value.oneCell']) (by omega) (by simp; omega) ?_; intro v3 w3 o3 b3 _)
      go_roundw
      case rel => exact ⟨j + 1, by omega, by go_num, by rw [TK.out, List.map_append]; exact o3, (bl2.alloc (by omega) _).trans b3⟩
      case measure => simp [intOf]; omega
    · obtain rfl : j = m := by omega
      have q : ¬ (j : Int) < (j : Int) := by omega
      have TK : fs.take j = fs := by rw [HM.out, List.take_length]
      rw [TK] at ow
      have OW := Lib.hid ow
      clear ow
      go_wp2_with fail
      go_ret
      exact kids_ret OW.out (Nat.le_succ _) rfl (by rw [List.length_map]; exact HM.out) (by rw [List.length_map, ← HM.out]; omega) (W1.trans (bl2.mono (Nat.le_succ _)))
set_option maxRecDepth 100000 in
set_option maxHeartbeats 4000000 in
theorem sKids_11 (n : Nd) (hk : n.k = 11) (w : World) (A2 A3 A4 A9 : Option Addr) (c2 c3 c4 c9 : Nat)
    (h : Lies w (· < w.heap.size) n.enc [.int .i64 n.k, .string n.name, .slice A2 n.al.length c2, .slice A3 n.fs.length c3, .slice A4 n.sy.length c4, .bool n.has, .string n.df, .int .i64 n.size, .int .i64 n.items, .slice A9 n.br.length c9]) :
    Calls Tryd.prog 13 #[.agg #[.int .i64 n.k, .string n.name, .slice A2 n.al.length c2, .slice A3 n.fs.length c3, .slice A4 n.sy.length c4, .bool n.has, .string n.df, .int .i64 n.size, .int .i64 n.items, .slice A9 n.br.length c9]] w (KidsA n.kids w) := by
  have CS := cell_set
  have ek : n.kids = [n.items] := by unfold Nd.kids; rw [if_neg (by omega), if_pos (by omega)]
  obtain ⟨_, _, _, _, _, _, _, _, e, _, _, len3, row3, _, _, len9, row9⟩ := Nd.out.1 h
  simp only [List.cons.injEq, Value.slice.injEq, true_and, and_true] at e
  obtain ⟨⟨rfl, rfl⟩, ⟨rfl, rfl⟩, ⟨rfl, rfl⟩, rfl, rfl⟩ := e
  rw [ek, hk]
  clear h row3 row9 ek len3 len9
  have W1 : Below w.heap.size w (w.alloc (.cells #[.int .i64 11, .string n.name, .slice A2 n.al.length c2, .slice A3 n.fs.length c3, .slice A4 n.sy.length c4, .bool n.has, .string n.df, .int .i64 n.size, .int .i64 n.items, .slice A9 n.br.length c9] 33)) := (Below.refl _ _).alloc (Nat.le_refl _) _
  have W2 : Below w.heap.size w ((w.alloc (.cells #[.int .i64 11, .string n.name, .slice A2 n.al.length c2, .slice A3 n.fs.length c3, .slice A4 n.sy.length c4, .bool n.has, .string n.df, .int .i64 n.size, .int .i64 n.items, .slice A9 n.br.length c9] 33)).alloc (.cells #[.int .i64 n.items] 3)) := W1.alloc (by simp) _
  have BK := Lib.hid (Blk.new (w.alloc (.cells #[.int .i64 11, .string n.name, .slice A2 n.al.length c2, .slice A3 n.fs.length c3, .slice A4 n.sy.length c4, .bool n.has, .string n.df, .int .i64 n.size, .int .i64 n.items, .slice A9 n.br.length c9] 33)) 3 #[.int .i64 n.items])
  go_enter Tryd.func13, Tryd.ntmps13
  go_wp2_with fail
  go_ret
  refine ⟨_, _, rfl, ⟨Nat.le_refl _, by unfold maxLen; simp⟩, row_ints (.inr ⟨_, 0, rfl, ⟨by simp, by simp⟩, fun k hk => ?_⟩), W2⟩
  have hk0 : k = 0 := by simpa using hk
  subst hk0
  have z := (BK.out).cell 0
  simp at z ⊢
  try exact z
set_option maxRecDepth 100000 in
set_option maxHeartbeats 4000000 in
theorem sKids_12 (n : Nd) (hk : n.k = 12) (w : World) (A2 A3 A4 A9 : Option Addr) (c2 c3 c4 c9 : Nat)
    (h : Lies w (· < w.heap.size) n.enc [.int .i64 n.k, .string n.name, .slice A2 n.al.length c2, .slice A3 n.fs.length c3, .slice A4 n.sy.length c4, .bool n.has, .string n.df, .int .i64 n.size, .int .i64 n.items, .slice A9 n.br.length c9]) :
    Calls Tryd.prog 13 #[.agg #[.int .i64 n.k, .string n.name, .slice A2 n.al.length c2, .slice A3 n.fs.length c3, .slice A4 n.sy.length c4, .bool n.has, .string n.df, .int .i64 n.size, .int .i64 n.items, .slice A9 n.br.length c9]] w (KidsA n.kids w) := by
  have CS := cell_set
  have ek : n.kids = [n.items] := by unfold Nd.kids; rw [if_neg (by omega), if_pos (by omega)]
  obtain ⟨_, _, _, _, _, _, _, _, e, _, _, len3, row3, _, _, len9, row9⟩ := Nd.out.1 h
  simp only [List.cons.injEq, Value.slice.injEq, true_and, and_true] at e
  obtain ⟨⟨rfl, rfl⟩, ⟨rfl, rfl⟩, ⟨rfl, rfl⟩, rfl, rfl⟩ := e
  rw [ek, hk]
  clear h row3 row9 ek len3 len9
  have W1 : Below w.heap.size w (w.alloc (.cells #[.int .i64 12, .string n.name, .slice A2 n.al.length c2, .slice A3 n.fs.length c3, .slice A4 n.sy.length c4, .bool n.has, .string n.df, .int .i64 n.size, .int .i64 n.items, .slice A9 n.br.length c9] 33)) := (Below.refl _ _).alloc (Nat.le_refl _) _
  have W2 : Below w.heap.size w ((w.alloc (.cells #[.int .i64 12, .string n.name, .slice A2 n.al.length c2, .slice A3 n.fs.length c3, .slice A4 n.sy.length c4, .bool n.has, .string n.df, .int .i64 n.size, .int .i64 n.items, .slice A9 n.br.length c9] 33)).alloc (.cells #[.int .i64 n.items] 3)) := W1.alloc (by simp) _
  have BK := Lib.hid (Blk.new (w.alloc (.cells #[.int .i64 12, .string n.name, .slice A2 n.al.length c2, .slice A3 n.fs.length c3, .slice A4 n.sy.length c4, .bool n.has, .string n.df, .int .i64 n.size, .int .i64 n.items, .slice A9 n.br.length c9] 33)) 3 #[.int .i64 n.items])
  go_enter Tryd.func13, Tryd.ntmps13
  go_wp2_with fail
  go_ret
  refine ⟨_, _, rfl, ⟨Nat.le_refl _, by unfold maxLen; simp⟩, row_ints (.inr ⟨_, 0, rfl, ⟨by simp, by simp⟩, fun k hk => ?_⟩), W2⟩
  have hk0 : k = 0 := by simpa using hk
  subst hk0
  have z := (BK.out).cell 0
  simp at z ⊢
  try exact z
set_option maxRecDepth 100000 in
set_option maxHeartbeats 4000000 in
theorem sKids_13 (n : Nd) (hk : n.k = 13) (hs : n.br.length ≤ 100000000) (w : World) (A2 A3 A4 A9 : Option Addr) (c2 c3 c4 c9 : Nat)
    (h : Lies w (· < w.heap.size) n.enc [.int .i64 n.k, .string n.name, .slice A2 n.al.length c2, .slice A3 n.fs.length c3, .slice A4 n.sy.length c4, .bool n.has, .string n.df, .int .i64 n.size, .int .i64 n.items, .slice A9 n.br.length c9]) :
    Calls Tryd.prog 13 #[.agg #[.int .i64 n.k, .string n.name, .slice A2 n.al.length c2, .slice A3 n.fs.length c3, .slice A4 n.sy.length c4, .bool n.has, .string n.df, .int .i64 n.size, .int .i64 n.items, .slice A9 n.br.length c9]] w (KidsA n.kids w) := by
  have CS := cell_set
  have ek : n.kids = n.br := by unfold Nd.kids; rw [if_neg (by omega), if_neg (by omega), if_pos hk]
  obtain ⟨_, _, _, _, _, _, _, _, e, _, _, len3, row3, _, _, len9, row9⟩ := Nd.out.1 h
  simp only [List.cons.injEq, Value.slice.injEq, true_and, and_true] at e
  obtain ⟨⟨rfl, rfl⟩, ⟨rfl, rfl⟩, ⟨rfl, rfl⟩, rfl, rfl⟩ := e
  rw [ek, hk]
  have W1 : Below w.heap.size w (w.alloc (.cells #[.int .i64 13, .string n.name, .slice A2 n.al.length c2, .slice A3 n.fs.length c3, .slice A4 n.sy.length c4, .bool n.has, .string n.df, .int .i64 n.size, .int .i64 n.items, .slice A9 n.br.length c9] 33)) := (Below.refl _ _).alloc (Nat.le_refl _) _
  have CL := Lib.hid (sClone_any n.br hs (w.alloc (.cells #[.int .i64 13, .string n.name, .slice A2 n.al.length c2, .slice A3 n.fs.length c3, .slice A4 n.sy.length c4, .bool n.has, .string n.df, .int .i64 n.size, .int .i64 n.items, .slice A9 n.br.length c9] 33)) A9 c9 (row9.on W1))
  clear h row3 row9 ek len3 len9
  go_enter Tryd.func13, Tryd.ntmps13
  go_wp2_with fail
  with_reducible refine CL.out.mono ?_
  rintro e w3 ⟨A, c, rfl, hl, hr, b3⟩
  have HR := Lib.hid hr
  clear hr
  go_wp2_with fail
  go_ret
  refine ⟨A, c, rfl, hl, (HR.out).keep (fun _ _ => rfl) fun g hg => ⟨by have := hg.1; simp at this; omega, hg.2⟩, W1.trans (b3.mono (by simp))⟩
set_option maxRecDepth 100000 in
set_option maxHeartbeats 4000000 in
theorem sKids_0 (n : Nd) (h9 : n.k ≠ 9) (h11 : n.k ≠ 11) (h12 : n.k ≠ 12) (h13 : n.k ≠ 13) (w : World) (A2 A3 A4 A9 : Option Addr) (c2 c3 c4 c9 : Nat)
    (h : Lies w (· < w.heap.size) n.enc [.int .i64 n.k, .string n.name, .slice A2 n.al.length c2, .slice A3 n.fs.length c3, .slice A4 n.sy.length c4, .bool n.has, .string n.df, .int .i64 n.size, .int .i64 n.items, .slice A9 n.br.length c9]) :
    Calls Tryd.prog 13 #[.agg #[.int .i64 n.k, .string n.name, .slice A2 n.al.length c2, .slice A3 n.fs.length c3, .slice A4 n.sy.length c4, .bool n.has, .string n.df, .int .i64 n.size, .int .i64 n.items, .slice A9 n.br.length c9]] w (KidsA n.kids w) := by
  have CS := cell_set
  have ek : n.kids = [] := by unfold Nd.kids; rw [if_neg h9, if_neg (by omega), if_neg h13]
  obtain ⟨_, _, _, _, _, _, _, _, e, _, _, len3, row3, _, _, len9, row9⟩ := Nd.out.1 h
  simp only [List.cons.injEq, Value.slice.injEq, true_and, and_true] at e
  obtain ⟨⟨rfl, rfl⟩, ⟨rfl, rfl⟩, ⟨rfl, rfl⟩, rfl, rfl⟩ := e
  rw [ek]
  obtain ⟨k, hk⟩ : ∃ k, k = n.k := ⟨_, rfl⟩
  rw [← hk] at h9 h11 h12 h13 ⊢
  have q9 : ((k : Int) == 9) = false := by rw [beq_eq_false_iff_ne]; exact h9
  have q11 : ((k : Int) == 11) = false := by rw [beq_eq_false_iff_ne]; exact h11
  have q12 : ((k : Int) == 12) = false := by rw [beq_eq_false_iff_ne]; exact h12
  have q13 : ((k : Int) == 13) = false := by rw [beq_eq_false_iff_ne]; exact h13
  have W1 : Below w.heap.size w (w.alloc (.cells #[.int .i64 k, .string n.name, .slice A2 n.al.length c2, .slice A3 n.fs.length c3, .slice A4 n.sy.length c4, .bool n.has, .string n.df, .int .i64 n.size, .int .i64 n.items, .slice A9 n.br.length c9] 33)) := (Below.refl _ _).alloc (Nat.le_refl _) _
  clear h row3 row9 ek len3 len9 hk h9 h11 h12 h13
  go_enter Tryd.func13, Tryd.ntmps13
  go_wp2_with fail
  go_ret
  exact kids_ret (OwnR.none_ _ w.heap.size 3 1) (Nat.le_refl _) rfl rfl (by decide) W1
theorem sKids_any (n : Nd) (h3 : n.fs.length ≤ 100000000) (h9 : n.br.length ≤ 100000000) (w : World) (A2 A3 A4 A9 : Option Addr) (c2 c3 c4 c9 : Nat)
    (h : Lies w (· < w.heap.size) n.enc [.int .i64 n.k, .string n.name, .slice A2 n.al.length c2, .slice A3 n.fs.length c3, .slice A4 n.sy.length c4, .bool n.has, .string n.df, .int .i64 n.size, .int .i64 n.items, .slice A9 n.br.length c9]) :
    Calls Tryd.prog 13 #[.agg #[.int .i64 n.k, .string n.name, .slice A2 n.al.length c2, .slice A3 n.fs.length c3, .slice A4 n.sy.length c4, .bool n.has, .string n.df, .int .i64 n.size, .int .i64 n.items, .slice A9 n.br.length c9]] w (KidsA n.kids w) := by
  by_cases k9 : n.k = 9
  · exact sKids_9 n k9 h3 w A2 A3 A4 A9 c2 c3 c4 c9 h
  · by_cases k11 : n.k = 11
    · exact sKids_11 n k11 w A2 A3 A4 A9 c2 c3 c4 c9 h
    · by_cases k12 : n.k = 12
      · exact sKids_12 n k12 w A2 A3 A4 A9 c2 c3 c4 c9 h
      · by_cases k13 : n.k = 13
        · exact sKids_13 n k13 h9 w A2 A3 A4 A9 c2 c3 c4 c9 h
        · exact sKids_0 n k9 k11 k12 k13 w A2 A3 A4 A9 c2 c3 c4 c9 h
end Go.Proofs.YtnfhikgfcdcpoaaDoor
/- Layer 10, the code's own calls: Find. -/
namespace Go.Proofs.YtnfhikgfcdcpoaaDoor
open Go.ChangeShapes Go.WideShapes Go.ChangeAt Go.RowKit Mem

theorem ba_eq {a b : ByteArray} : (a == b) = true ↔ a = b := by
  obtain ⟨a⟩ := a
  obtain ⟨b⟩ := b
  constructor
  · intro h
    have : (a == b) = true := h
    rw [eq_of_beq this]
  · intro h
    obtain rfl := ByteArray.mk.inj h
    show (a == a) = true
    simp
/-- Has a node that name? -/
def isN (t : ByteArray) (n : Nd) : Bool := named n.k && n.name == t
/-- A place, or -1. -/
def plc : Option Nat → Int
  | some i => i
  | none => -1
theorem plc_at {l : List Nd} {t : ByteArray} {i : Nat} (hi : i < l.length) (h : isN t (l[i]'hi) = true) (hn : ∀ m (g : m < l.length), m < i → isN t (l[m]'g) = false) : plc (l.findIdx? (isN t)) = (i : Int) := by
  have : l.findIdx? (isN t) = some i := by
    rw [List.findIdx?_eq_some_iff_getElem]
    exact ⟨hi, h, fun j hj => by rw [hn j (by omega) hj]; simp⟩
  rw [this]; rfl
theorem plc_no {l : List Nd} {t : ByteArray} (hn : ∀ m (g : m < l.length), isN t (l[m]'g) = false) : plc (l.findIdx? (isN t)) = -1 := by
  have : l.findIdx? (isN t) = none := by
    rw [List.findIdx?_eq_none_iff]
    intro x hx
    obtain ⟨m, hm, rfl⟩ := List.getElem_of_mem hx
    exact hn m hm
  rw [this]; rfl
set_option maxRecDepth 100000 in
set_option maxHeartbeats 4000000 in
theorem find1_0 (n : Nd) (t : ByteArray) (hk : named n.k = false) (w : World) (g : Nat) (_hg : w.cell? ⟨g, 0, none⟩ = some (.string t)) (hl : g < w.heap.size) (A2 A3 A4 A9 : Option Addr) (a2 a3 a4 a9 : Nat) :
    Calls Tryd.prog 25 #[.agg #[.int .i64 n.k, .string n.name, .slice A2 n.al.length a2, .slice A3 n.fs.length a3, .slice A4 n.sy.length a4, .bool n.has, .string n.df, .int .i64 n.size, .int .i64 n.items, .slice A9 n.br.length a9], .pointer (some ⟨g, 0, none⟩)] w (Told false w) := by
  have CS := cell_set
  have NM := Lib.hid (fun W => sNamed_pure n.k W)
  rw [hk] at NM
  have ng : g ≠ w.heap.size := by omega
  clear hk
  go_enter Tryd.func25, Tryd.ntmps25
  go_wp2_with fail
  with_reducible refine (NM.out _).mono ?_
  rintro e w1 ⟨rfl, rfl⟩
  go_wp2_with fail
  go_ret
  exact told_ret rfl (by (repeat' (first | with_reducible assumption | with_reducible exact Below.refl _ _ | (with_reducible refine Below.alloc ?_ ?_ _; rotate_left; focus ((first | exact Nat.le_refl _ | (simp; done) | (simp; omega) | omega | fail))) | (with_reducible refine Below.setCell ?_ ?_ _; rotate_left; focus ((first | exact Nat.le_refl _ | (simp; done) | (simp; omega) | omega | fail))) | with_reducible refine Mem.bel_drewN ?_ _ | with_reducible refine Below.drew ?_ | (with_reducible refine Mem.bel_call (by with_reducible assumption) ?_ ?_; focus ((first | exact Nat.le_refl _ | (simp; done) | (simp; omega) | omega | fail))) | fail)))
set_option maxRecDepth 100000 in
set_option maxHeartbeats 4000000 in
theorem find1_1 (n : Nd) (t : ByteArray) (hk : named n.k = true) (hn : n.name = t) (w : World) (g : Nat) (hg : w.cell? ⟨g, 0, none⟩ = some (.string t)) (hl : g < w.heap.size) (A2 A3 A4 A9 : Option Addr) (a2 a3 a4 a9 : Nat) :
    Calls Tryd.prog 25 #[.agg #[.int .i64 n.k, .string n.name, .slice A2 n.al.length a2, .slice A3 n.fs.length a3, .slice A4 n.sy.length a4, .bool n.has, .string n.df, .int .i64 n.size, .int .i64 n.items, .slice A9 n.br.length a9], .pointer (some ⟨g, 0, none⟩)] w (Told true w) := by
  have CS := cell_set
  have NM := Lib.hid (fun W => sNamed_pure n.k W)
  rw [hk] at NM
  have ng : g ≠ w.heap.size := by omega
  have sx : (n.name.toList == t.toList) = true := by rw [str_beq]; simpa using hn
  clear hk hn
  go_enter Tryd.func25, Tryd.ntmps25
  go_wp2_with fail
  with_reducible refine (NM.out _).mono ?_
  rintro e w1 ⟨rfl, rfl⟩
  go_wp2_with fail
  go_ret
  exact told_ret rfl (by (repeat' (first | with_reducible assumption | with_reducible exact Below.refl _ _ | (with_reducible refine Below.alloc ?_ ?_ _; rotate_left; focus ((first | exact Nat.le_refl _ | (simp; done) | (simp; omega) | omega | fail))) | (with_reducible refine Below.setCell ?_ ?_ _; rotate_left; focus ((first | exact Nat.le_refl _ | (simp; done) | (simp; omega) | omega | fail))) | with_reducible refine Mem.bel_drewN ?_ _ | with_reducible refine Below.drew ?_ | (with_reducible refine Mem.bel_call (by with_reducible assumption) ?_ ?_; focus ((first | exact Nat.le_refl _ | (simp; done) | (simp; omega) | omega | fail))) | fail)))
set_option maxRecDepth 100000 in
set_option maxHeartbeats 4000000 in
theorem find1_2 (n : Nd) (t : ByteArray) (hk : named n.k = true) (hn : n.name ≠ t) (w : World) (g : Nat) (hg : w.cell? ⟨g, 0, none⟩ = some (.string t)) (hl : g < w.heap.size) (A2 A3 A4 A9 : Option Addr) (a2 a3 a4 a9 : Nat) :
    Calls Tryd.prog 25 #[.agg #[.int .i64 n.k, .string n.name, .slice A2 n.al.length a2, .slice A3 n.fs.length a3, .slice A4 n.sy.length a4, .bool n.has, .string n.df, .int .i64 n.size, .int .i64 n.items, .slice A9 n.br.length a9], .pointer (some ⟨g, 0, none⟩)] w (Told false w) := by
  have CS := cell_set
  have NM := Lib.hid (fun W => sNamed_pure n.k W)
  rw [hk] at NM
  have ng : g ≠ w.heap.size := by omega
  have sx : (n.name.toList == t.toList) = false := by rw [str_beq]; simpa using hn
  clear hk hn
  go_enter Tryd.func25, Tryd.ntmps25
  go_wp2_with fail
  with_reducible refine (NM.out _).mono ?_
  rintro e w1 ⟨rfl, rfl⟩
  go_wp2_with fail
  go_ret
  exact told_ret rfl (by (repeat' (first | with_reducible assumption | with_reducible exact Below.refl _ _ | (with_reducible refine Below.alloc ?_ ?_ _; rotate_left; focus ((first | exact Nat.le_refl _ | (simp; done) | (simp; omega) | omega | fail))) | (with_reducible refine Below.setCell ?_ ?_ _; rotate_left; focus ((first | exact Nat.le_refl _ | (simp; done) | (simp; omega) | omega | fail))) | with_reducible refine Mem.bel_drewN ?_ _ | with_reducible refine Below.drew ?_ | (with_reducible refine Mem.bel_call (by with_reducible assumption) ?_ ?_; focus ((first | exact Nat.le_refl _ | (simp; done) | (simp; omega) | omega | fail))) | fail)))
theorem find1_any (n : Nd) (t : ByteArray) (w : World) (g : Nat) (hg : w.cell? ⟨g, 0, none⟩ = some (.string t)) (hl : g < w.heap.size) (A2 A3 A4 A9 : Option Addr) (a2 a3 a4 a9 : Nat) :
    Calls Tryd.prog 25 #[.agg #[.int .i64 n.k, .string n.name, .slice A2 n.al.length a2, .slice A3 n.fs.length a3, .slice A4 n.sy.length a4, .bool n.has, .string n.df, .int .i64 n.size, .int .i64 n.items, .slice A9 n.br.length a9], .pointer (some ⟨g, 0, none⟩)] w (Told (isN t n) w) := by
  unfold isN
  cases hk : named n.k with
  | false => exact find1_0 n t hk w g hg hl A2 A3 A4 A9 a2 a3 a4 a9
  | true =>
    rw [Bool.true_and]
    by_cases hn : n.name = t
    · rw [show (n.name == t) = true from ba_eq.2 hn]; exact find1_1 n t hk hn w g hg hl A2 A3 A4 A9 a2 a3 a4 a9
    · rw [show (n.name == t) = false by rw [← Bool.not_eq_true]; exact fun e => hn (ba_eq.1 e)]; exact find1_2 n t hk hn w g hg hl A2 A3 A4 A9 a2 a3 a4 a9
set_option maxRecDepth 100000 in
set_option maxHeartbeats 4000000 in
theorem idxF_any (l : List Nd) (t : ByteArray) (w : World) (g : Nat) (hg : w.cell? ⟨g, 0, none⟩ = some (.string t)) (hgl : g < w.heap.size) (A : Option Addr) (c : Nat) (rt : RowD w (· < w.heap.size) 10 (l.map Nd.enc) A) (hl : l.length ≤ maxLen) :
    Calls Tryd.prog 24 #[.slice A l.length c, .func (.func 25) #[] #[.pointer (some ⟨g, 0, none⟩)]] w (fun e w' => e = .returned (.int .i64 (plc (l.findIdx? (isN t)))) ∧ Below w.heap.size w w') := by
  have CS := cell_set
  obtain ⟨R, hR⟩ : ∃ R, R = plc (l.findIdx? (isN t)) := ⟨_, rfl⟩
  rw [← hR]
  have YES : Hid (∀ i (hi : i < l.length), isN t (l[i]'hi) = true → (∀ m (g : m < l.length), m < i → isN t (l[m]'g) = false) → R = (i : Int)) := fun i hi h1 h2 => hR.trans (plc_at hi h1 h2)
  have NO : Hid ((∀ m (g : m < l.length), isN t (l[m]'g) = false) → R = -1) := fun h => hR.trans (plc_no h)
  have RT := Lib.hid rt
  obtain ⟨ni, hni⟩ : ∃ m, m = l.length := ⟨_, rfl⟩
  have HNI := Lib.hid hni
  have ni0 : ni ≤ 9223372036854775807 := by unfold maxLen at hl; omega
  rw [← HNI.out]
  clear hni rt hl hR
  go_enter Tryd.func24, Tryd.ntmps24
  go_wp2_with fail
  go_loopw [8] (fun t' wr => ∃ p : Nat, p ≤ ni ∧ t' = .int .i64 (p : Int) ∧ Hid (∀ m (h1 : m < l.length), m < p → isN t (l[m]'h1) = false) ∧ Below w.heap.size w wr) (fun t' _ => ni - (intOf t').toNat)
  case atStart => exact ⟨0, by omega, rfl, fun _ _ h => absurd h (Nat.not_lt_zero _), Below.refl _ _⟩
  case round =>
    obtain ⟨p, hp, rfl, HE, bl⟩ := hrel
    have gsz := bl.size
    by_cases hpn : p < ni
    · have h1 : p < l.length := by rw [← HNI.out]; exact hpn
      obtain ⟨b1, o1, X2, x2, X3, x3, X4, x4, X9, x9, e1, hb1, ⟨y0, y1, y2, y3, y4, y5, y6, y7, y8, y9⟩, lx⟩ := nodes_at (RT.out.below bl) h1
      have lb1 : b1 < wr.heap.size := by omega
      have hg2 := (bl.cell (p := ⟨g, 0, none⟩) hgl).trans hg
      have he := HE.out
      have ST : Hid (isN t (l[p]'h1) = false → ∀ m (h1 : m < l.length), m < p + 1 → isN t (l[m]'h1) = false) := fun hx j g1 hj => by
        rcases Nat.lt_or_ge j p with g | g
        · exact he j g1 g
        · obtain rfl : j = p := by omega
          exact hx
      have YP : Hid (isN t (l[p]'h1) = true → R = (p : Int)) := fun hx => YES.out p h1 hx he
      generalize l[p]'h1 = T at *
      subst e1
      have I2 : Hid (∀ W, Below wr.heap.size wr W → Calls Tryd.prog 25 #[.agg #[.int .i64 T.k, .string T.name, .slice X2 T.al.length x2, .slice X3 T.fs.length x3, .slice X4 T.sy.length x4, .bool T.has, .string T.df, .int .i64 T.size, .int .i64 T.items, .slice X9 T.br.length x9], .pointer (some ⟨g, 0, none⟩)] W (Told (isN t T) W)) := fun W b =>
        find1_any T t W g ((b.cell (p := ⟨g, 0, none⟩) (by show g < _; omega)).trans hg2) (by have := b.size; omega) X2 X3 X4 X9 x2 x3 x4 x9
      obtain ⟨RR, hRR⟩ : ∃ RR, RR = isN t T := ⟨_, rfl⟩
      have HRR := Lib.hid hRR
      rw [← hRR] at I2
      clear he h1 lx hRR hg2
      cases RR with
      | true =>
        have Z := Lib.hid (YP.out HRR.out.symm)
        go_wp2_with fail
        with_reducible refine (I2.out _ (by (repeat' (first | with_reducible assumption | with_reducible exact Below.refl _ _ | (with_reducible refine Below.alloc ?_ ?_ _; rotate_left; focus ((first | exact Nat.le_refl _ | (simp; done) | (simp; omega) | omega | fail))) | (with_reducible refine Below.setCell ?_ ?_ _; rotate_left; focus ((first | exact Nat.le_refl _ | (simp; done) | (simp; omega) | omega | fail))) | with_reducible refine Mem.bel_drewN ?_ _ | with_reducible refine Below.drew ?_ | (with_reducible refine Mem.bel_call (by with_reducible assumption) ?_ ?_; focus ((first | exact Nat.le_refl _ | (simp; done) | (simp; omega) | omega | fail))) | fail)))).mono ?_
        rintro e w3 ⟨rfl, b3⟩
        have bl3 : Below w.heap.size w w3 := by (repeat' (first | with_reducible assumption | with_reducible exact Below.refl _ _ | (with_reducible refine Below.alloc ?_ ?_ _; rotate_left; focus ((first | exact Nat.le_refl _ | (simp; done) | (simp; omega) | omega | fail))) | (with_reducible refine Below.setCell ?_ ?_ _; rotate_left; focus ((first | exact Nat.le_refl _ | (simp; done) | (simp; omega) | omega | fail))) | with_reducible refine Mem.bel_drewN ?_ _ | with_reducible refine Below.drew ?_ | (with_reducible refine Mem.bel_call (by with_reducible assumption) ?_ ?_; focus ((first | exact Nat.le_refl _ | (simp; done) | (simp; omega) | omega | fail))) | fail))
        go_wp2_with fail
        go_ret
        exact ⟨by rw [Z.out]; rfl, bl3⟩
      | false =>
        have HE2 := Lib.hid (ST.out HRR.out.symm)
        go_wp2_with fail
        with_reducible refine (I2.out _ (by (repeat' (first | with_reducible assumption | with_reducible exact Below.refl _ _ | (with_reducible refine Below.alloc ?_ ?_ _; rotate_left; focus ((first | exact Nat.le_refl _ | (simp; done) | (simp; omega) | omega | fail))) | (with_reducible refine Below.setCell ?_ ?_ _; rotate_left; focus ((first | exact Nat.le_refl _ | (simp; done) | (simp; omega) | omega | fail))) | with_reducible refine Mem.bel_drewN ?_ _ | with_reducible refine Below.drew ?_ | (with_reducible refine Mem.bel_call (by with_reducible assumption) ?_ ?_; focus ((first | exact Nat.le_refl _ | (simp; done) | (simp; omega) | omega | fail))) | fail)))).mono ?_
        rintro e w3 ⟨rfl, b3⟩
        have bl3 : Below w.heap.size w w3 := by (repeat' (first | with_reducible assumption | with_reducible exact Below.refl _ _ | (with_reducible refine Below.alloc ?_ ?_ _; rotate_left; focus ((first | exact Nat.le_refl _ | (simp; done) | (simp; omega) | omega | fail))) | (with_reducible refine Below.setCell ?_ ?_ _; rotate_left; focus ((first | exact Nat.le_refl _ | (simp; done) | (simp; omega) | omega | fail))) | with_reducible refine Mem.bel_drewN ?_ _ | with_reducible refine Below.drew ?_ | (with_reducible refine Mem.bel_call (by with_reducible assumption) ?_ ?_; focus ((first | exact Nat.le_refl _ | (simp; done) | (simp; omega) | omega | fail))) | fail))
        go_wp2_with fail
        go_roundw
        case rel => exact ⟨p + 1, by omega, by go_num, HE2, bl3⟩
        case measure => simp [intOf]; omega
    · obtain rfl : p = ni := by omega
      have Z := Lib.hid (NO.out fun m g => HE.out m g (by rw [HNI.out]; exact g))
      clear HE hpn
      go_wp2_with fail
      go_ret
      exact ⟨by rw [Z.out]; rfl, by (repeat' (first | with_reducible assumption | with_reducible exact Below.refl _ _ | (with_reducible refine Below.alloc ?_ ?_ _; rotate_left; focus ((first | exact Nat.le_refl _ | (simp; done) | (simp; omega) | omega | fail))) | (with_reducible refine Below.setCell ?_ ?_ _; rotate_left; focus ((first | exact Nat.le_refl _ | (simp; done) | (simp; omega) | omega | fail))) | with_reducible refine Mem.bel_drewN ?_ _ | with_reducible refine Below.drew ?_ | (with_reducible refine Mem.bel_call (by with_reducible assumption) ?_ ?_; focus ((first | exact Nat.le_refl _ | (simp; done) | (simp; omega) | omega | fail))) | fail))⟩
set_option maxRecDepth 100000 in
set_option maxHeartbeats 4000000 in
theorem sFindX_any (sc : Sc) (t : ByteArray) (w : World) (A : Option Addr) (c : Nat) (h : Lies w (· < w.heap.size) sc.enc [.slice A sc.nodes.length c, .int .i64 sc.root]) :
    Calls Tryd.prog 12 #[.agg #[.slice A sc.nodes.length c, .int .i64 sc.root], .string t] w (fun e w' => e = .returned (.int .i64 (plc (sc.find t))) ∧ Below w.heap.size w w') := by
  have CS := cell_set
  obtain ⟨_, _, e, la, ra⟩ := Sc.out.1 h
  simp only [List.cons.injEq, Value.slice.injEq, true_and, and_true] at e
  obtain ⟨rfl, rfl⟩ := e
  have IX : Hid (∀ W g, Below w.heap.size w W → W.cell? ⟨g, 0, none⟩ = some (.string t) → g < W.heap.size → Calls Tryd.prog 24 #[.slice A sc.nodes.length c, .func (.func 25) #[] #[.pointer (some ⟨g, 0, none⟩)]] W (fun e w' => e = .returned (.int .i64 (plc (sc.find t))) ∧ Below W.heap.size W w')) := fun W g b h1 h2 =>
    idxF_any sc.nodes t W g h1 h2 A c ((ra.below b).more b.size) la.2
  clear h la ra
  go_enter Tryd.func12, Tryd.ntmps12
  go_wp2_with fail
  with_reducible refine (IX.out _ _ (by (repeat' (first | with_reducible assumption | with_reducible exact Below.refl _ _ | (with_reducible refine Below.alloc ?_ ?_ _; rotate_left; focus ((first | exact Nat.le_refl _ | (simp; done) | (simp; omega) | omega | fail))) | (with_reducible refine Below.setCell ?_ ?_ _; rotate_left; focus ((first | exact Nat.le_refl _ | (simp; done) | (simp; omega) | omega | fail))) | with_reducible refine Mem.bel_drewN ?_ _ | with_reducible refine Below.drew ?_ | (with_reducible refine Mem.bel_call (by with_reducible assumption) ?_ ?_; focus ((first | exact Nat.le_refl _ | (simp; done) | (simp; omega) | omega | fail))) | fail))) (by simp) (by simp)).mono ?_
  rintro e w3 ⟨rfl, b3⟩
  have bw : Below w.heap.size w w3 := by (repeat' (first | with_reducible assumption | with_reducible exact Below.refl _ _ | (with_reducible refine Below.alloc ?_ ?_ _; rotate_left; focus ((first | exact Nat.le_refl _ | (simp; done) | (simp; omega) | omega | fail))) | (with_reducible refine Below.setCell ?_ ?_ _; rotate_left; focus ((first | exact Nat.le_refl _ | (simp; done) | (simp; omega) | omega | fail))) | with_reducible refine Mem.bel_drewN ?_ _ | with_reducible refine Below.drew ?_ | (with_reducible refine Mem.bel_call (by with_reducible assumption) ?_ ?_; focus ((first | exact Nat.le_refl _ | (simp; done) | (simp; omega) | omega | fail))) | fail))
  go_wp2_with fail
  go_ret
  exact ⟨rfl, bw⟩
end Go.Proofs.YtnfhikgfcdcpoaaDoor
