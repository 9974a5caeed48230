/- Joined by tools/bundle.py: SCN. -/
import Derived.Test.YtlpmcohbbffbfaaDoorQ9
import Derived.Test.YtlpmcohbbffbfaaDoorQ17
namespace Go.Proofs.YtlpmcohbbffbfaaDoor
open Go.ChangeShapes Go.WideShapes Go.ChangeAt Go.RowKit Mem
set_option maxRecDepth 100000 in
set_option maxHeartbeats 8000000 in
theorem may_prim (s : Sc) (n : Nd) (hk : 1 ≤ n.k ∧ n.k ≤ 8) (hs : n.sm) (w : World) (hL0 : LaidN w) (A A2 A3 A4 A9 : Option Addr) (c c2 c3 c4 c9 : Nat) (hN : RowD w (· < w.heap.size) 10 (s.nodes.map Nd.enc) A) (h : Lies w (· < w.heap.size) n.enc [.int .i64 n.k, .string n.name, .slice A2 n.al.length c2, .slice A3 n.fs.length c3, .slice A4 n.sy.length c4, .bool n.has, .string n.df, .int .i64 n.size, .int .i64 n.items, .slice A9 n.br.length c9]) :
    Calls Tryd.prog 28 #[.slice A s.nodes.length c, .agg #[.int .i64 n.k, .string n.name, .slice A2 n.al.length c2, .slice A3 n.fs.length c3, .slice A4 n.sy.length c4, .bool n.has, .string n.df, .int .i64 n.size, .int .i64 n.items, .slice A9 n.br.length c9]] w (Tells (n.ok s) w) := by
  have CS := cell_set
  have _u := And.intro hs.1 (And.intro hL0 hN)
  clear _u
  obtain ⟨_, _, _, _, _, _, _, _, e, l2, f2, l3, r3, l4, f4, l9, r9⟩ := Nd.out.1 h
  simp only [List.cons.injEq, Value.slice.injEq, true_and, and_true] at e
  obtain ⟨⟨rfl, rfl⟩, ⟨rfl, rfl⟩, ⟨rfl, rfl⟩, rfl, rfl⟩ := e
  have OKI := Lib.hid (ok_prim (s := s) hk)
  have SN : Hid (∀ W, Below w.heap.size w W → Calls Tryd.prog 44 #[.agg #[.int .i64 n.k, .string n.name, .slice A2 n.al.length c2, .slice A3 n.fs.length c3, .slice A4 n.sy.length c4, .bool n.has, .string n.df, .int .i64 n.size, .int .i64 n.items, .slice A9 n.br.length c9], .agg #[.int .i64 n.k, .string ⟨#[]⟩, .slice none 0 0, .slice none 0 0, .slice none 0 0, .bool false, .string ⟨#[]⟩, .int .i64 0, .int .i64 0, .slice none 0 0]] W (Tells ((⟨n.k, n.name, n.al, n.fs, n.sy, n.has, n.df, n.size, n.items, n.br⟩ : Nd) = Nd.z n.k) W)) := fun W b =>
    (sameN_any ⟨n.k, n.name, n.al, n.fs, n.sy, n.has, n.df, n.size, n.items, n.br⟩ (Nd.z n.k) W A2 A3 A4 A9 none none none none c2 c3 c4 c9 0 0 0 0 (Nd.out.2 ⟨_, _, _, _, _, _, _, _, rfl, l2, FlS.keep (Below.keeps b) (fun _ h => Nat.lt_of_lt_of_le h b.size) f2, l3, (r3.below b).more b.size, l4, FlS.keep (Below.keeps b) (fun _ h => Nat.lt_of_lt_of_le h b.size) f4, l9, (r9.below b).more b.size⟩) z_lies).mono fun _ _ g => told_tells g eqb_iff
  generalize ((⟨n.k, n.name, n.al, n.fs, n.sy, n.has, n.df, n.size, n.items, n.br⟩ : Nd) = Nd.z n.k) = P3 at *
  generalize n.ok s = Q at *
  clear h l2 f2 l3 r3 l4 f4 l9 r9 hs hN hL0
  generalize s.nodes.length = ns at *
  generalize n.k = k at *
  generalize n.name = nm at *
  generalize n.al.length = e2 at *
  generalize n.fs.length = e3 at *
  generalize n.sy.length = e4 at *
  generalize n.br.length = e9 at *
  generalize n.has = hh at *
  generalize n.df = df at *
  generalize n.size = sz at *
  generalize n.items = im at *
  have NM : Hid (∀ W, Calls Tryd.prog 14 #[.int .i64 k] W (Sole (.bool false) W)) := fun W => by
    have := sNamed_pure k W
    rwa [show named k = false by unfold named; rw [decide_eq_false_iff_not]; omega] at this
  have q11 : (k == 11) = false := by rw [beq_eq_false_iff_ne]; omega
  have q12 : (k == 12) = false := by rw [beq_eq_false_iff_ne]; omega
  have q13 : (k == 13) = false := by rw [beq_eq_false_iff_ne]; omega
  have q9 : (k == 9) = false := by rw [beq_eq_false_iff_ne]; omega
  have q10 : (k == 10) = false := by rw [beq_eq_false_iff_ne]; omega
  have q14 : (k == 14) = false := by rw [beq_eq_false_iff_ne]; omega
  have q1 : (1 : Int) ≤ k := hk.1
  have q8 : k ≤ (8 : Int) := hk.2
  clear hk
  go_enter Tryd.func28, Tryd.ntmps28
  go_wp2_with fail
  with_reducible refine (NM.out _).mono ?_
  rintro e w1 ⟨rfl, rfl⟩
  go_wp2_with fail
  with_reducible refine (SN.out _ (by (repeat' (first | with_reducible assumption | with_reducible exact Below.refl _ _ | (with_reducible refine Below.alloc ?_ ?_ _; rotate_left; focus ((first | exact Nat.le_refl _ | (simp; done) | (simp; omega) | omega | fail))) | (with_reducible refine Below.setCell ?_ ?_ _; rotate_left; focus ((first | exact Nat.le_refl _ | (simp; done) | (simp; omega) | omega | fail))) | with_reducible refine Mem.bel_drewN ?_ _ | with_reducible refine Below.drew ?_ | (with_reducible refine Mem.bel_call (by with_reducible assumption) ?_ ?_; focus ((first | exact Nat.le_refl _ | (simp; done) | (simp; omega) | omega | fail))) | fail)))).mono ?_
  rintro e w9 ⟨b, rfl, hb, b9⟩
  have bw9 : Below w.heap.size w w9 := by (repeat' (first | with_reducible assumption | with_reducible exact Below.refl _ _ | (with_reducible refine Below.alloc ?_ ?_ _; rotate_left; focus ((first | exact Nat.le_refl _ | (simp; done) | (simp; omega) | omega | fail))) | (with_reducible refine Below.setCell ?_ ?_ _; rotate_left; focus ((first | exact Nat.le_refl _ | (simp; done) | (simp; omega) | omega | fail))) | with_reducible refine Mem.bel_drewN ?_ _ | with_reducible refine Below.drew ?_ | (with_reducible refine Mem.bel_call (by with_reducible assumption) ?_ ?_; focus ((first | exact Nat.le_refl _ | (simp; done) | (simp; omega) | omega | fail))) | fail))
  have HB9 := Lib.hid hb
  clear hb
  go_wp2_with fail
  go_ret
  exact ⟨b, rfl, HB9.out.trans OKI.out.symm, bw9⟩
set_option maxRecDepth 100000 in
set_option maxHeartbeats 8000000 in
theorem may_other (s : Sc) (n : Nd) (hk : n.k < 1 ∨ 14 < n.k) (hs : n.sm) (w : World) (hL0 : LaidN w) (A A2 A3 A4 A9 : Option Addr) (c c2 c3 c4 c9 : Nat) (hN : RowD w (· < w.heap.size) 10 (s.nodes.map Nd.enc) A) (h : Lies w (· < w.heap.size) n.enc [.int .i64 n.k, .string n.name, .slice A2 n.al.length c2, .slice A3 n.fs.length c3, .slice A4 n.sy.length c4, .bool n.has, .string n.df, .int .i64 n.size, .int .i64 n.items, .slice A9 n.br.length c9]) :
    Calls Tryd.prog 28 #[.slice A s.nodes.length c, .agg #[.int .i64 n.k, .string n.name, .slice A2 n.al.length c2, .slice A3 n.fs.length c3, .slice A4 n.sy.length c4, .bool n.has, .string n.df, .int .i64 n.size, .int .i64 n.items, .slice A9 n.br.length c9]] w (Tells (n.ok s) w) := by
  have CS := cell_set
  have _u := And.intro hs.1 (And.intro hL0 hN)
  clear _u
  obtain ⟨_, _, _, _, _, _, _, _, e, l2, f2, l3, r3, l4, f4, l9, r9⟩ := Nd.out.1 h
  simp only [List.cons.injEq, Value.slice.injEq, true_and, and_true] at e
  obtain ⟨⟨rfl, rfl⟩, ⟨rfl, rfl⟩, ⟨rfl, rfl⟩, rfl, rfl⟩ := e
  have NO : Hid (¬ n.ok s) := fun q => by have a := q.1; have b := q.2.1; omega
  generalize n.ok s = Q at *
  clear h l2 f2 l3 r3 l4 f4 l9 r9 hs hN hL0
  generalize s.nodes.length = ns at *
  generalize n.k = k at *
  generalize n.name = nm at *
  generalize n.al.length = e2 at *
  generalize n.fs.length = e3 at *
  generalize n.sy.length = e4 at *
  generalize n.br.length = e9 at *
  generalize n.has = hh at *
  generalize n.df = df at *
  generalize n.size = sz at *
  generalize n.items = im at *
  have NM : Hid (∀ W, Calls Tryd.prog 14 #[.int .i64 k] W (Sole (.bool false) W)) := fun W => by
    have := sNamed_pure k W
    rwa [show named k = false by unfold named; rw [decide_eq_false_iff_not]; omega] at this
  have q11 : (k == 11) = false := by rw [beq_eq_false_iff_ne]; omega
  have q12 : (k == 12) = false := by rw [beq_eq_false_iff_ne]; omega
  have q13 : (k == 13) = false := by rw [beq_eq_false_iff_ne]; omega
  have q9 : (k == 9) = false := by rw [beq_eq_false_iff_ne]; omega
  have q10 : (k == 10) = false := by rw [beq_eq_false_iff_ne]; omega
  have q14 : (k == 14) = false := by rw [beq_eq_false_iff_ne]; omega
  rcases hk with hk | hk
  · have q1 : ¬ (1 : Int) ≤ k := by omega
    clear hk
    go_enter Tryd.func28, Tryd.ntmps28
    go_wp2_with fail
    with_reducible refine (NM.out _).mono ?_
    rintro e w1 ⟨rfl, rfl⟩
    go_wp2_with fail
    go_ret
    exact tells_no rfl NO.out (by (repeat' (first | with_reducible assumption | with_reducible exact Below.refl _ _ | (with_reducible refine Below.alloc ?_ ?_ _; rotate_left; focus ((first | exact Nat.le_refl _ | (simp; done) | (simp; omega) | omega | fail))) | (with_reducible refine Below.setCell ?_ ?_ _; rotate_left; focus ((first | exact Nat.le_refl _ | (simp; done) | (simp; omega) | omega | fail))) | with_reducible refine Mem.bel_drewN ?_ _ | with_reducible refine Below.drew ?_ | (with_reducible refine Mem.bel_call (by with_reducible assumption) ?_ ?_; focus ((first | exact Nat.le_refl _ | (simp; done) | (simp; omega) | omega | fail))) | fail)))
  · have q1 : (1 : Int) ≤ k := by omega
    have q8 : ¬ k ≤ (8 : Int) := by omega
    clear hk
    go_enter Tryd.func28, Tryd.ntmps28
    go_wp2_with fail
    with_reducible refine (NM.out _).mono ?_
    rintro e w1 ⟨rfl, rfl⟩
    go_wp2_with fail
    go_ret
    exact tells_no rfl NO.out (by (repeat' (first | with_reducible assumption | with_reducible exact Below.refl _ _ | (with_reducible refine Below.alloc ?_ ?_ _; rotate_left; focus ((first | exact Nat.le_refl _ | (simp; done) | (simp; omega) | omega | fail))) | (with_reducible refine Below.setCell ?_ ?_ _; rotate_left; focus ((first | exact Nat.le_refl _ | (simp; done) | (simp; omega) | omega | fail))) | with_reducible refine Mem.bel_drewN ?_ _ | with_reducible refine Below.drew ?_ | (with_reducible refine Mem.bel_call (by with_reducible assumption) ?_ ?_; focus ((first | exact Nat.le_refl _ | (simp; done) | (simp; omega) | omega | fail))) | fail)))
set_option maxRecDepth 100000 in
set_option maxHeartbeats 8000000 in
theorem may_11 (s : Sc) (n : Nd) (hk : n.k = 11) (hs : n.sm) (w : World) (hL0 : LaidN w) (A A2 A3 A4 A9 : Option Addr) (c c2 c3 c4 c9 : Nat) (hN : RowD w (· < w.heap.size) 10 (s.nodes.map Nd.enc) A) (h : Lies w (· < w.heap.size) n.enc [.int .i64 n.k, .string n.name, .slice A2 n.al.length c2, .slice A3 n.fs.length c3, .slice A4 n.sy.length c4, .bool n.has, .string n.df, .int .i64 n.size, .int .i64 n.items, .slice A9 n.br.length c9]) :
    Calls Tryd.prog 28 #[.slice A s.nodes.length c, .agg #[.int .i64 n.k, .string n.name, .slice A2 n.al.length c2, .slice A3 n.fs.length c3, .slice A4 n.sy.length c4, .bool n.has, .string n.df, .int .i64 n.size, .int .i64 n.items, .slice A9 n.br.length c9]] w (Tells (n.ok s) w) := by
  have CS := cell_set
  have _u := And.intro hs.1 (And.intro hL0 hN)
  clear _u
  obtain ⟨_, _, _, _, _, _, _, _, e, l2, f2, l3, r3, l4, f4, l9, r9⟩ := Nd.out.1 h
  simp only [List.cons.injEq, Value.slice.injEq, true_and, and_true] at e
  obtain ⟨⟨rfl, rfl⟩, ⟨rfl, rfl⟩, ⟨rfl, rfl⟩, rfl, rfl⟩ := e
  have OKI := Lib.hid (ok_11 (s := s) hk)
  have SN : Hid (∀ W, Below w.heap.size w W → Calls Tryd.prog 44 #[.agg #[.int .i64 11, .string n.name, .slice A2 n.al.length c2, .slice A3 n.fs.length c3, .slice A4 n.sy.length c4, .bool n.has, .string n.df, .int .i64 n.size, .int .i64 0, .slice A9 n.br.length c9], .agg #[.int .i64 11, .string ⟨#[]⟩, .slice none 0 0, .slice none 0 0, .slice none 0 0, .bool false, .string ⟨#[]⟩, .int .i64 0, .int .i64 0, .slice none 0 0]] W (Tells ((⟨11, n.name, n.al, n.fs, n.sy, n.has, n.df, n.size, 0, n.br⟩ : Nd) = Nd.z 11) W)) := fun W b =>
    (sameN_any ⟨11, n.name, n.al, n.fs, n.sy, n.has, n.df, n.size, 0, n.br⟩ (Nd.z 11) W A2 A3 A4 A9 none none none none c2 c3 c4 c9 0 0 0 0 (Nd.out.2 ⟨_, _, _, _, _, _, _, _, rfl, l2, FlS.keep (Below.keeps b) (fun _ h => Nat.lt_of_lt_of_le h b.size) f2, l3, (r3.below b).more b.size, l4, FlS.keep (Below.keeps b) (fun _ h => Nat.lt_of_lt_of_le h b.size) f4, l9, (r9.below b).more b.size⟩) z_lies).mono fun _ _ g => told_tells g eqb_iff
  rw [hk]
  generalize ((⟨11, n.name, n.al, n.fs, n.sy, n.has, n.df, n.size, 0, n.br⟩ : Nd) = Nd.z 11) = P3 at *
  generalize n.ok s = Q at *
  clear h l2 f2 l3 r3 l4 f4 l9 r9 hs hN hL0 hk
  generalize s.nodes.length = ns at *
  generalize n.name = nm at *
  generalize n.al.length = e2 at *
  generalize n.fs.length = e3 at *
  generalize n.sy.length = e4 at *
  generalize n.br.length = e9 at *
  generalize n.has = hh at *
  generalize n.df = df at *
  generalize n.size = sz at *
  generalize n.items = im at *
  have NM : Hid (∀ W, Calls Tryd.prog 14 #[.int .i64 11] W (Sole (.bool false) W)) := fun W => by
    have := sNamed_pure 11 W
    rwa [show named 11 = false by decide] at this
  go_enter Tryd.func28, Tryd.ntmps28
  go_wp2_with fail
  with_reducible refine (NM.out _).mono ?_
  rintro e w1 ⟨rfl, rfl⟩
  go_wp2_with fail
  with_reducible refine (SN.out _ (by (repeat' (first | with_reducible assumption | with_reducible exact Below.refl _ _ | (with_reducible refine Below.alloc ?_ ?_ _; rotate_left; focus ((first | exact Nat.le_refl _ | (simp; done) | (simp; omega) | omega | fail))) | (with_reducible refine Below.setCell ?_ ?_ _; rotate_left; focus ((first | exact Nat.le_refl _ | (simp; done) | (simp; omega) | omega | fail))) | with_reducible refine Mem.bel_drewN ?_ _ | with_reducible refine Below.drew ?_ | (with_reducible refine Mem.bel_call (by with_reducible assumption) ?_ ?_; focus ((first | exact Nat.le_refl _ | (simp; done) | (simp; omega) | omega | fail))) | fail)))).mono ?_
  rintro e w9 ⟨b, rfl, hb, b9⟩
  have bw9 : Below w.heap.size w w9 := by (repeat' (first | with_reducible assumption | with_reducible exact Below.refl _ _ | (with_reducible refine Below.alloc ?_ ?_ _; rotate_left; focus ((first | exact Nat.le_refl _ | (simp; done) | (simp; omega) | omega | fail))) | (with_reducible refine Below.setCell ?_ ?_ _; rotate_left; focus ((first | exact Nat.le_refl _ | (simp; done) | (simp; omega) | omega | fail))) | with_reducible refine Mem.bel_drewN ?_ _ | with_reducible refine Below.drew ?_ | (with_reducible refine Mem.bel_call (by with_reducible assumption) ?_ ?_; focus ((first | exact Nat.le_refl _ | (simp; done) | (simp; omega) | omega | fail))) | fail))
  have HB9 := Lib.hid hb
  clear hb
  go_wp2_with fail
  go_ret
  exact ⟨b, rfl, HB9.out.trans OKI.out.symm, bw9⟩
set_option maxRecDepth 100000 in
set_option maxHeartbeats 8000000 in
theorem may_12 (s : Sc) (n : Nd) (hk : n.k = 12) (hs : n.sm) (w : World) (hL0 : LaidN w) (A A2 A3 A4 A9 : Option Addr) (c c2 c3 c4 c9 : Nat) (hN : RowD w (· < w.heap.size) 10 (s.nodes.map Nd.enc) A) (h : Lies w (· < w.heap.size) n.enc [.int .i64 n.k, .string n.name, .slice A2 n.al.length c2, .slice A3 n.fs.length c3, .slice A4 n.sy.length c4, .bool n.has, .string n.df, .int .i64 n.size, .int .i64 n.items, .slice A9 n.br.length c9]) :
    Calls Tryd.prog 28 #[.slice A s.nodes.length c, .agg #[.int .i64 n.k, .string n.name, .slice A2 n.al.length c2, .slice A3 n.fs.length c3, .slice A4 n.sy.length c4, .bool n.has, .string n.df, .int .i64 n.size, .int .i64 n.items, .slice A9 n.br.length c9]] w (Tells (n.ok s) w) := by
  have CS := cell_set
  have _u := And.intro hs.1 (And.intro hL0 hN)
  clear _u
  obtain ⟨_, _, _, _, _, _, _, _, e, l2, f2, l3, r3, l4, f4, l9, r9⟩ := Nd.out.1 h
  simp only [List.cons.injEq, Value.slice.injEq, true_and, and_true] at e
  obtain ⟨⟨rfl, rfl⟩, ⟨rfl, rfl⟩, ⟨rfl, rfl⟩, rfl, rfl⟩ := e
  have OKI := Lib.hid (ok_12 (s := s) hk)
  have SN : Hid (∀ W, Below w.heap.size w W → Calls Tryd.prog 44 #[.agg #[.int .i64 12, .string n.name, .slice A2 n.al.length c2, .slice A3 n.fs.length c3, .slice A4 n.sy.length c4, .bool n.has, .string n.df, .int .i64 n.size, .int .i64 0, .slice A9 n.br.length c9], .agg #[.int .i64 12, .string ⟨#[]⟩, .slice none 0 0, .slice none 0 0, .slice none 0 0, .bool false, .string ⟨#[]⟩, .int .i64 0, .int .i64 0, .slice none 0 0]] W (Tells ((⟨12, n.name, n.al, n.fs, n.sy, n.has, n.df, n.size, 0, n.br⟩ : Nd) = Nd.z 12) W)) := fun W b =>
    (sameN_any ⟨12, n.name, n.al, n.fs, n.sy, n.has, n.df, n.size, 0, n.br⟩ (Nd.z 12) W A2 A3 A4 A9 none none none none c2 c3 c4 c9 0 0 0 0 (Nd.out.2 ⟨_, _, _, _, _, _, _, _, rfl, l2, FlS.keep (Below.keeps b) (fun _ h => Nat.lt_of_lt_of_le h b.size) f2, l3, (r3.below b).more b.size, l4, FlS.keep (Below.keeps b) (fun _ h => Nat.lt_of_lt_of_le h b.size) f4, l9, (r9.below b).more b.size⟩) z_lies).mono fun _ _ g => told_tells g eqb_iff
  rw [hk]
  generalize ((⟨12, n.name, n.al, n.fs, n.sy, n.has, n.df, n.size, 0, n.br⟩ : Nd) = Nd.z 12) = P3 at *
  generalize n.ok s = Q at *
  clear h l2 f2 l3 r3 l4 f4 l9 r9 hs hN hL0 hk
  generalize s.nodes.length = ns at *
  generalize n.name = nm at *
  generalize n.al.length = e2 at *
  generalize n.fs.length = e3 at *
  generalize n.sy.length = e4 at *
  generalize n.br.length = e9 at *
  generalize n.has = hh at *
  generalize n.df = df at *
  generalize n.size = sz at *
  generalize n.items = im at *
  have NM : Hid (∀ W, Calls Tryd.prog 14 #[.int .i64 12] W (Sole (.bool false) W)) := fun W => by
    have := sNamed_pure 12 W
    rwa [show named 12 = false by decide] at this
  go_enter Tryd.func28, Tryd.ntmps28
  go_wp2_with fail
  with_reducible refine (NM.out _).mono ?_
  rintro e w1 ⟨rfl, rfl⟩
  go_wp2_with fail
  with_reducible refine (SN.out _ (by (repeat' (first | with_reducible assumption | with_reducible exact Below.refl _ _ | (with_reducible refine Below.alloc ?_ ?_ _; rotate_left; focus ((first | exact Nat.le_refl _ | (simp; done) | (simp; omega) | omega | fail))) | (with_reducible refine Below.setCell ?_ ?_ _; rotate_left; focus ((first | exact Nat.le_refl _ | (simp; done) | (simp; omega) | omega | fail))) | with_reducible refine Mem.bel_drewN ?_ _ | with_reducible refine Below.drew ?_ | (with_reducible refine Mem.bel_call (by with_reducible assumption) ?_ ?_; focus ((first | exact Nat.le_refl _ | (simp; done) | (simp; omega) | omega | fail))) | fail)))).mono ?_
  rintro e w9 ⟨b, rfl, hb, b9⟩
  have bw9 : Below w.heap.size w w9 := by (repeat' (first | with_reducible assumption | with_reducible exact Below.refl _ _ | (with_reducible refine Below.alloc ?_ ?_ _; rotate_left; focus ((first | exact Nat.le_refl _ | (simp; done) | (simp; omega) | omega | fail))) | (with_reducible refine Below.setCell ?_ ?_ _; rotate_left; focus ((first | exact Nat.le_refl _ | (simp; done) | (simp; omega) | omega | fail))) | with_reducible refine Mem.bel_drewN ?_ _ | with_reducible refine Below.drew ?_ | (with_reducible refine Mem.bel_call (by with_reducible assumption) ?_ ?_; focus ((first | exact Nat.le_refl _ | (simp; done) | (simp; omega) | omega | fail))) | fail))
  have HB9 := Lib.hid hb
  clear hb
  go_wp2_with fail
  go_ret
  exact ⟨b, rfl, HB9.out.trans OKI.out.symm, bw9⟩
set_option maxRecDepth 100000 in
set_option maxHeartbeats 8000000 in
theorem may_13 (s : Sc) (n : Nd) (hn : s.nodes.length ≤ 2500) (hkid : ∀ b ∈ n.br, 0 ≤ b ∧ b < (s.nodes.length : Int)) (hk : n.k = 13) (hs : n.sm) (w : World) (hL0 : LaidN w) (A A2 A3 A4 A9 : Option Addr) (c c2 c3 c4 c9 : Nat) (hN : RowD w (· < w.heap.size) 10 (s.nodes.map Nd.enc) A) (h : Lies w (· < w.heap.size) n.enc [.int .i64 n.k, .string n.name, .slice A2 n.al.length c2, .slice A3 n.fs.length c3, .slice A4 n.sy.length c4, .bool n.has, .string n.df, .int .i64 n.size, .int .i64 n.items, .slice A9 n.br.length c9]) :
    Calls Tryd.prog 28 #[.slice A s.nodes.length c, .agg #[.int .i64 n.k, .string n.name, .slice A2 n.al.length c2, .slice A3 n.fs.length c3, .slice A4 n.sy.length c4, .bool n.has, .string n.df, .int .i64 n.size, .int .i64 n.items, .slice A9 n.br.length c9]] w (Tells (n.ok s) w) := by
  have CS := cell_set
  have _u := And.intro hs.1 (And.intro hL0 hN)
  clear _u
  obtain ⟨_, _, _, _, _, _, _, _, e, l2, f2, l3, r3, l4, f4, l9, r9⟩ := Nd.out.1 h
  simp only [List.cons.injEq, Value.slice.injEq, true_and, and_true] at e
  obtain ⟨⟨rfl, rfl⟩, ⟨rfl, rfl⟩, ⟨rfl, rfl⟩, rfl, rfl⟩ := e
  have OKI := Lib.hid (ok_13 (s := s) hk)
  have UC := Lib.hid (fun W (b : Below w.heap.size w W) => union_any s hn n.br hkid W A A9 c c9 ((hN.below b).more b.size) ((r9.below b).more b.size) l9.1 hs.2.2.1)
  have SN : Hid (∀ W, Below w.heap.size w W → Calls Tryd.prog 44 #[.agg #[.int .i64 13, .string n.name, .slice A2 n.al.length c2, .slice A3 n.fs.length c3, .slice A4 n.sy.length c4, .bool n.has, .string n.df, .int .i64 n.size, .int .i64 n.items, .slice none 0 0], .agg #[.int .i64 13, .string ⟨#[]⟩, .slice none 0 0, .slice none 0 0, .slice none 0 0, .bool false, .string ⟨#[]⟩, .int .i64 0, .int .i64 0, .slice none 0 0]] W (Tells ((⟨13, n.name, n.al, n.fs, n.sy, n.has, n.df, n.size, n.items, []⟩ : Nd) = Nd.z 13) W)) := fun W b =>
    (sameN_any ⟨13, n.name, n.al, n.fs, n.sy, n.has, n.df, n.size, n.items, []⟩ (Nd.z 13) W A2 A3 A4 none none none none none c2 c3 c4 0 0 0 0 0 (Nd.out.2 ⟨_, _, _, _, _, _, _, _, rfl, l2, FlS.keep (Below.keeps b) (fun _ h => Nat.lt_of_lt_of_le h b.size) f2, l3, (r3.below b).more b.size, l4, FlS.keep (Below.keeps b) (fun _ h => Nat.lt_of_lt_of_le h b.size) f4, ⟨Nat.le_refl _, Nat.zero_le _⟩, RowD.nil_ _ _ _ _⟩) z_lies).mono fun _ _ g => told_tells g eqb_iff
  rw [hk]
  have H0 := Lib.hid (B10.newat (w := w) (t := 40) (x0 := .int .i64 13) (x1 := .string n.name) (x2 := .slice A2 n.al.length c2) (x3 := .slice A3 n.fs.length c3) (x4 := .slice A4 n.sy.length c4) (x5 := .bool n.has) (x6 := .string n.df) (x7 := .int .i64 n.size) (x8 := .int .i64 n.items) (x9 := .slice A9 n.br.length c9) rfl)
  generalize ((⟨13, n.name, n.al, n.fs, n.sy, n.has, n.df, n.size, n.items, []⟩ : Nd) = Nd.z 13) = P3 at *
  generalize unionOk s n.br = P2 at *
  generalize n.ok s = Q at *
  clear h l2 f2 l3 r3 l4 f4 l9 r9 hs hN hL0 hk hkid hn
  generalize s.nodes.length = ns at *
  generalize n.name = nm at *
  generalize n.al.length = e2 at *
  generalize n.fs.length = e3 at *
  generalize n.sy.length = e4 at *
  generalize n.br.length = e9 at *
  generalize n.has = hh at *
  generalize n.df = df at *
  generalize n.size = sz at *
  generalize n.items = im at *
  have NM : Hid (∀ W, Calls Tryd.prog 14 #[.int .i64 13] W (Sole (.bool false) W)) := fun W => by
    have := sNamed_pure 13 W
    rwa [show named 13 = false by decide] at this
  go_enter Tryd.func28, Tryd.ntmps28
  go_wp2_with fail
  with_reducible refine (NM.out _).mono ?_
  rintro e w1 ⟨rfl, rfl⟩
  go_wp2_with fail
  with_reducible refine (UC.out _ (by (repeat' (first | with_reducible assumption | with_reducible exact Below.refl _ _ | (with_reducible refine Below.alloc ?_ ?_ _; rotate_left; focus ((first | exact Nat.le_refl _ | (simp; done) | (simp; omega) | omega | fail))) | (with_reducible refine Below.setCell ?_ ?_ _; rotate_left; focus ((first | exact Nat.le_refl _ | (simp; done) | (simp; omega) | omega | fail))) | with_reducible refine Mem.bel_drewN ?_ _ | with_reducible refine Below.drew ?_ | (with_reducible refine Mem.bel_call (by with_reducible assumption) ?_ ?_; focus ((first | exact Nat.le_refl _ | (simp; done) | (simp; omega) | omega | fail))) | fail)))).mono ?_
  rintro e w2 ⟨b, rfl, hb, b2⟩
  have h2 := Lib.hid (B10.below H0.out b2 (by simp))
  obtain ⟨_, _, _, _, _, _, _, _, _, _, _, _, _, _, _, _, _, _, _, _⟩ := B10.facts h2.out
  have bw2 : Below w.heap.size w w2 := by (repeat' (first | with_reducible assumption | with_reducible exact Below.refl _ _ | (with_reducible refine Below.alloc ?_ ?_ _; rotate_left; focus ((first | exact Nat.le_refl _ | (simp; done) | (simp; omega) | omega | fail))) | (with_reducible refine Below.setCell ?_ ?_ _; rotate_left; focus ((first | exact Nat.le_refl _ | (simp; done) | (simp; omega) | omega | fail))) | with_reducible refine Mem.bel_drewN ?_ _ | with_reducible refine Below.drew ?_ | (with_reducible refine Mem.bel_call (by with_reducible assumption) ?_ ?_; focus ((first | exact Nat.le_refl _ | (simp; done) | (simp; omega) | omega | fail))) | fail))
  have HB1 := Lib.hid hb
  have zw2 := (h2.out).lt
  clear hb
  cases b with
  | false =>
    have Z : Hid (¬ Q) := fun q => by have := HB1.out.2 (OKI.out.1 q).1; simp at this
    go_wp2_with fail
    go_ret
    exact tells_no rfl Z.out (by (repeat' (first | with_reducible assumption | with_reducible exact Below.refl _ _ | (with_reducible refine Below.alloc ?_ ?_ _; rotate_left; focus ((first | exact Nat.le_refl _ | (simp; done) | (simp; omega) | omega | fail))) | (with_reducible refine Below.setCell ?_ ?_ _; rotate_left; focus ((first | exact Nat.le_refl _ | (simp; done) | (simp; omega) | omega | fail))) | with_reducible refine Mem.bel_drewN ?_ _ | with_reducible refine Below.drew ?_ | (with_reducible refine Mem.bel_call (by with_reducible assumption) ?_ ?_; focus ((first | exact Nat.le_refl _ | (simp; done) | (simp; omega) | omega | fail))) | fail)))
  | true =>
    have Q3 : Hid (Q ↔ P3) := OKI.out.trans ⟨fun q => q.2, fun q => ⟨HB1.out.1 (by first | rfl | trivial), q⟩⟩
    go_wp2_with fail
    with_reducible refine (SN.out _ (by (repeat' (first | with_reducible assumption | with_reducible exact Below.refl _ _ | (with_reducible refine Below.alloc ?_ ?_ _; rotate_left; focus ((first | exact Nat.le_refl _ | (simp; done) | (simp; omega) | omega | fail))) | (with_reducible refine Below.setCell ?_ ?_ _; rotate_left; focus ((first | exact Nat.le_refl _ | (simp; done) | (simp; omega) | omega | fail))) | with_reducible refine Mem.bel_drewN ?_ _ | with_reducible refine Below.drew ?_ | (with_reducible refine Mem.bel_call (by with_reducible assumption) ?_ ?_; focus ((first | exact Nat.le_refl _ | (simp; done) | (simp; omega) | omega | fail))) | fail)))).mono ?_
    rintro e w9 ⟨b, rfl, hb, b9⟩
    have bw9 : Below w.heap.size w w9 := by (repeat' (first | with_reducible assumption | with_reducible exact Below.refl _ _ | (with_reducible refine Below.alloc ?_ ?_ _; rotate_left; focus ((first | exact Nat.le_refl _ | (simp; done) | (simp; omega) | omega | fail))) | (with_reducible refine Below.setCell ?_ ?_ _; rotate_left; focus ((first | exact Nat.le_refl _ | (simp; done) | (simp; omega) | omega | fail))) | with_reducible refine Mem.bel_drewN ?_ _ | with_reducible refine Below.drew ?_ | (with_reducible refine Mem.bel_call (by with_reducible assumption) ?_ ?_; focus ((first | exact Nat.le_refl _ | (simp; done) | (simp; omega) | omega | fail))) | fail))
    have HB9 := Lib.hid hb
    clear hb
    go_wp2_with fail
    go_ret
    exact ⟨b, rfl, HB9.out.trans Q3.out.symm, bw9⟩
set_option maxRecDepth 100000 in
set_option maxHeartbeats 8000000 in
theorem may_9 (s : Sc) (n : Nd) (hk : n.k = 9) (hs : n.sm) (w : World) (hL0 : LaidN w) (A A2 A3 A4 A9 : Option Addr) (c c2 c3 c4 c9 : Nat) (hN : RowD w (· < w.heap.size) 10 (s.nodes.map Nd.enc) A) (h : Lies w (· < w.heap.size) n.enc [.int .i64 n.k, .string n.name, .slice A2 n.al.length c2, .slice A3 n.fs.length c3, .slice A4 n.sy.length c4, .bool n.has, .string n.df, .int .i64 n.size, .int .i64 n.items, .slice A9 n.br.length c9]) :
    Calls Tryd.prog 28 #[.slice A s.nodes.length c, .agg #[.int .i64 n.k, .string n.name, .slice A2 n.al.length c2, .slice A3 n.fs.length c3, .slice A4 n.sy.length c4, .bool n.has, .string n.df, .int .i64 n.size, .int .i64 n.items, .slice A9 n.br.length c9]] w (Tells (n.ok s) w) := by
  have CS := cell_set
  have _u := And.intro hs.1 (And.intro hL0 hN)
  clear _u
  obtain ⟨_, _, _, _, _, _, _, _, e, l2, f2, l3, r3, l4, f4, l9, r9⟩ := Nd.out.1 h
  simp only [List.cons.injEq, Value.slice.injEq, true_and, and_true] at e
  obtain ⟨⟨rfl, rfl⟩, ⟨rfl, rfl⟩, ⟨rfl, rfl⟩, rfl, rfl⟩ := e
  have OKI := Lib.hid (ok_9 (s := s) hk)
  have CC := Lib.hid (fun W (b : Below w.heap.size w W) => called_any n hs W (hL0.below b) A2 A3 A4 A9 c2 c3 c4 c9 ((h.below b).more b.size))
  have RC : Hid (∀ W, Below w.heap.size w W → Calls Tryd.prog 42 #[.slice A3 n.fs.length c3] W (Tells (recOk n) W)) := fun W b => record_any n.fs hs.2.2.2.2.2.2 W (hL0.below b) A3 c3 ((r3.below b).more b.size) hs.2.1
  have SN : Hid (∀ W, Below w.heap.size w W → Calls Tryd.prog 44 #[.agg #[.int .i64 9, .string ⟨#[]⟩, .slice none 0 0, .slice none 0 0, .slice A4 n.sy.length c4, .bool n.has, .string n.df, .int .i64 n.size, .int .i64 n.items, .slice A9 n.br.length c9], .agg #[.int .i64 9, .string ⟨#[]⟩, .slice none 0 0, .slice none 0 0, .slice none 0 0, .bool false, .string ⟨#[]⟩, .int .i64 0, .int .i64 0, .slice none 0 0]] W (Tells ((⟨9, ⟨#[]⟩, [], [], n.sy, n.has, n.df, n.size, n.items, n.br⟩ : Nd) = Nd.z 9) W)) := fun W b =>
    (sameN_any ⟨9, ⟨#[]⟩, [], [], n.sy, n.has, n.df, n.size, n.items, n.br⟩ (Nd.z 9) W none none A4 A9 none none none none 0 0 c4 c9 0 0 0 0 (Nd.out.2 ⟨_, _, _, _, _, _, _, _, rfl, ⟨Nat.le_refl _, Nat.zero_le _⟩, .inl rfl, ⟨Nat.le_refl _, Nat.zero_le _⟩, RowD.nil_ _ _ _ _, l4, FlS.keep (Below.keeps b) (fun _ h => Nat.lt_of_lt_of_le h b.size) f4, l9, (r9.below b).more b.size⟩) z_lies).mono fun _ _ g => told_tells g eqb_iff
  rw [hk] at CC ⊢
  have H0 := Lib.hid (B10.newat (w := w) (t := 40) (x0 := .int .i64 9) (x1 := .string n.name) (x2 := .slice A2 n.al.length c2) (x3 := .slice A3 n.fs.length c3) (x4 := .slice A4 n.sy.length c4) (x5 := .bool n.has) (x6 := .string n.df) (x7 := .int .i64 n.size) (x8 := .int .i64 n.items) (x9 := .slice A9 n.br.length c9) rfl)
  generalize ((⟨9, ⟨#[]⟩, [], [], n.sy, n.has, n.df, n.size, n.items, n.br⟩ : Nd) = Nd.z 9) = P3 at *
  generalize recOk n = P2 at *
  generalize (okName n.name ∧ okFulls n.al) = P1 at *
  generalize n.ok s = Q at *
  clear h l2 f2 l3 r3 l4 f4 l9 r9 hs hN hL0 hk
  generalize s.nodes.length = ns at *
  generalize n.name = nm at *
  generalize n.al.length = e2 at *
  generalize n.fs.length = e3 at *
  generalize n.sy.length = e4 at *
  generalize n.br.length = e9 at *
  generalize n.has = hh at *
  generalize n.df = df at *
  generalize n.size = sz at *
  generalize n.items = im at *
  have NM : Hid (∀ W, Calls Tryd.prog 14 #[.int .i64 9] W (Sole (.bool true) W)) := fun W => by
    have := sNamed_pure 9 W
    rwa [show named 9 = true by decide] at this
  go_enter Tryd.func28, Tryd.ntmps28
  go_wp2_with fail
  with_reducible refine (NM.out _).mono ?_
  rintro e w1 ⟨rfl, rfl⟩
  go_wp2_with fail
  with_reducible refine (CC.out _ (by (repeat' (first | with_reducible assumption | with_reducible exact Below.refl _ _ | (with_reducible refine Below.alloc ?_ ?_ _; rotate_left; focus ((first | exact Nat.le_refl _ | (simp; done) | (simp; omega) | omega | fail))) | (with_reducible refine Below.setCell ?_ ?_ _; rotate_left; focus ((first | exact Nat.le_refl _ | (simp; done) | (simp; omega) | omega | fail))) | with_reducible refine Mem.bel_drewN ?_ _ | with_reducible refine Below.drew ?_ | (with_reducible refine Mem.bel_call (by with_reducible assumption) ?_ ?_; focus ((first | exact Nat.le_refl _ | (simp; done) | (simp; omega) | omega | fail))) | fail)))).mono ?_
  rintro e w2 ⟨b, rfl, hb, b2⟩
  have h2 := Lib.hid (B10.below H0.out b2 (by simp))
  obtain ⟨_, _, _, _, _, _, _, _, _, _, _, _, _, _, _, _, _, _, _, _⟩ := B10.facts h2.out
  have bw2 : Below w.heap.size w w2 := by (repeat' (first | with_reducible assumption | with_reducible exact Below.refl _ _ | (with_reducible refine Below.alloc ?_ ?_ _; rotate_left; focus ((first | exact Nat.le_refl _ | (simp; done) | (simp; omega) | omega | fail))) | (with_reducible refine Below.setCell ?_ ?_ _; rotate_left; focus ((first | exact Nat.le_refl _ | (simp; done) | (simp; omega) | omega | fail))) | with_reducible refine Mem.bel_drewN ?_ _ | with_reducible refine Below.drew ?_ | (with_reducible refine Mem.bel_call (by with_reducible assumption) ?_ ?_; focus ((first | exact Nat.le_refl _ | (simp; done) | (simp; omega) | omega | fail))) | fail))
  have HB1 := Lib.hid hb
  have zw2 := (h2.out).lt
  clear hb
  cases b with
  | false =>
    have Z : Hid (¬ Q) := fun q => by have := HB1.out.2 (OKI.out.1 q).1; simp at this
    go_wp2_with fail
    go_ret
    exact tells_no rfl Z.out (by (repeat' (first | with_reducible assumption | with_reducible exact Below.refl _ _ | (with_reducible refine Below.alloc ?_ ?_ _; rotate_left; focus ((first | exact Nat.le_refl _ | (simp; done) | (simp; omega) | omega | fail))) | (with_reducible refine Below.setCell ?_ ?_ _; rotate_left; focus ((first | exact Nat.le_refl _ | (simp; done) | (simp; omega) | omega | fail))) | with_reducible refine Mem.bel_drewN ?_ _ | with_reducible refine Below.drew ?_ | (with_reducible refine Mem.bel_call (by with_reducible assumption) ?_ ?_; focus ((first | exact Nat.le_refl _ | (simp; done) | (simp; omega) | omega | fail))) | fail)))
  | true =>
    have T1 : Hid P1 := HB1.out.1 (by first | rfl | trivial)
    clear HB1
    go_wp2_with fail
    with_reducible refine (RC.out _ (by (repeat' (first | with_reducible assumption | with_reducible exact Below.refl _ _ | (with_reducible refine Below.alloc ?_ ?_ _; rotate_left; focus ((first | exact Nat.le_refl _ | (simp; done) | (simp; omega) | omega | fail))) | (with_reducible refine Below.setCell ?_ ?_ _; rotate_left; focus ((first | exact Nat.le_refl _ | (simp; done) | (simp; omega) | omega | fail))) | with_reducible refine Mem.bel_drewN ?_ _ | with_reducible refine Below.drew ?_ | (with_reducible refine Mem.bel_call (by with_reducible assumption) ?_ ?_; focus ((first | exact Nat.le_refl _ | (simp; done) | (simp; omega) | omega | fail))) | fail)))).mono ?_
    rintro e w3 ⟨b, rfl, hb, b3⟩
    have h3 := Lib.hid (B10.below (B10.set2 (B10.set1 h2.out (.string ⟨#[]⟩)) (.slice none 0 0)) b3 (by simp [World.setCell]; omega))
    obtain ⟨_, _, _, _, _, _, _, _, _, _, _, _, _, _, _, _, _, _, _, _⟩ := B10.facts h3.out
    have bw3 : Below w.heap.size w w3 := by (repeat' (first | with_reducible assumption | with_reducible exact Below.refl _ _ | (with_reducible refine Below.alloc ?_ ?_ _; rotate_left; focus ((first | exact Nat.le_refl _ | (simp; done) | (simp; omega) | omega | fail))) | (with_reducible refine Below.setCell ?_ ?_ _; rotate_left; focus ((first | exact Nat.le_refl _ | (simp; done) | (simp; omega) | omega | fail))) | with_reducible refine Mem.bel_drewN ?_ _ | with_reducible refine Below.drew ?_ | (with_reducible refine Mem.bel_call (by with_reducible assumption) ?_ ?_; focus ((first | exact Nat.le_refl _ | (simp; done) | (simp; omega) | omega | fail))) | fail))
    have HB2 := Lib.hid hb
    have zw3 := (h3.out).lt
    clear hb
    cases b with
    | false =>
      have Z : Hid (¬ Q) := fun q => by have := HB2.out.2 (OKI.out.1 q).2.1; simp at this
      go_wp2_with fail
      go_ret
      exact tells_no rfl Z.out (by (repeat' (first | with_reducible assumption | with_reducible exact Below.refl _ _ | (with_reducible refine Below.alloc ?_ ?_ _; rotate_left; focus ((first | exact Nat.le_refl _ | (simp; done) | (simp; omega) | omega | fail))) | (with_reducible refine Below.setCell ?_ ?_ _; rotate_left; focus ((first | exact Nat.le_refl _ | (simp; done) | (simp; omega) | omega | fail))) | with_reducible refine Mem.bel_drewN ?_ _ | with_reducible refine Below.drew ?_ | (with_reducible refine Mem.bel_call (by with_reducible assumption) ?_ ?_; focus ((first | exact Nat.le_refl _ | (simp; done) | (simp; omega) | omega | fail))) | fail)))
    | true =>
      have Q3 : Hid (Q ↔ P3) := OKI.out.trans ⟨fun q => q.2.2, fun q => ⟨T1.out, HB2.out.1 (by first | rfl | trivial), q⟩⟩
      go_wp2_with fail
      with_reducible refine (SN.out _ (by (repeat' (first | with_reducible assumption | with_reducible exact Below.refl _ _ | (with_reducible refine Below.alloc ?_ ?_ _; rotate_left; focus ((first | exact Nat.le_refl _ | (simp; done) | (simp; omega) | omega | fail))) | (with_reducible refine Below.setCell ?_ ?_ _; rotate_left; focus ((first | exact Nat.le_refl _ | (simp; done) | (simp; omega) | omega | fail))) | with_reducible refine Mem.bel_drewN ?_ _ | with_reducible refine Below.drew ?_ | (with_reducible refine Mem.bel_call (by with_reducible assumption) ?_ ?_; focus ((first | exact Nat.le_refl _ | (simp; done) | (simp; omega) | omega | fail))) | fail)))).mono ?_
      rintro e w9 ⟨b, rfl, hb, b9⟩
      have bw9 : Below w.heap.size w w9 := by (repeat' (first | with_reducible assumption | with_reducible exact Below.refl _ _ | (with_reducible refine Below.alloc ?_ ?_ _; rotate_left; focus ((first | exact Nat.le_refl _ | (simp; done) | (simp; omega) | omega | fail))) | (with_reducible refine Below.setCell ?_ ?_ _; rotate_left; focus ((first | exact Nat.le_refl _ | (simp; done) | (simp; omega) | omega | fail))) | with_reducible refine Mem.bel_drewN ?_ _ | with_reducible refine Below.drew ?_ | (with_reducible refine Mem.bel_call (by with_reducible assumption) ?_ ?_; focus ((first | exact Nat.le_refl _ | (simp; done) | (simp; omega) | omega | fail))) | fail))
      have HB9 := Lib.hid hb
      clear hb
      go_wp2_with fail
      go_ret
      exact ⟨b, rfl, HB9.out.trans Q3.out.symm, bw9⟩
set_option maxRecDepth 100000 in
set_option maxHeartbeats 8000000 in
theorem may_10 (s : Sc) (n : Nd) (hk : n.k = 10) (hs : n.sm) (w : World) (hL0 : LaidN w) (A A2 A3 A4 A9 : Option Addr) (c c2 c3 c4 c9 : Nat) (hN : RowD w (· < w.heap.size) 10 (s.nodes.map Nd.enc) A) (h : Lies w (· < w.heap.size) n.enc [.int .i64 n.k, .string n.name, .slice A2 n.al.length c2, .slice A3 n.fs.length c3, .slice A4 n.sy.length c4, .bool n.has, .string n.df, .int .i64 n.size, .int .i64 n.items, .slice A9 n.br.length c9]) :
    Calls Tryd.prog 28 #[.slice A s.nodes.length c, .agg #[.int .i64 n.k, .string n.name, .slice A2 n.al.length c2, .slice A3 n.fs.length c3, .slice A4 n.sy.length c4, .bool n.has, .string n.df, .int .i64 n.size, .int .i64 n.items, .slice A9 n.br.length c9]] w (Tells (n.ok s) w) := by
  have CS := cell_set
  have _u := And.intro hs.1 (And.intro hL0 hN)
  clear _u
  obtain ⟨_, _, _, _, _, _, _, _, e, l2, f2, l3, r3, l4, f4, l9, r9⟩ := Nd.out.1 h
  simp only [List.cons.injEq, Value.slice.injEq, true_and, and_true] at e
  obtain ⟨⟨rfl, rfl⟩, ⟨rfl, rfl⟩, ⟨rfl, rfl⟩, rfl, rfl⟩ := e
  have OKI := Lib.hid (ok_10 (s := s) hk)
  have CC := Lib.hid (fun W (b : Below w.heap.size w W) => called_any n hs W (hL0.below b) A2 A3 A4 A9 c2 c3 c4 c9 ((h.below b).more b.size))
  have RC : Hid (∀ W, Below w.heap.size w W → Calls Tryd.prog 43 #[.agg #[.int .i64 10, .string ⟨#[]⟩, .slice none 0 0, .slice A3 n.fs.length c3, .slice A4 n.sy.length c4, .bool n.has, .string n.df, .int .i64 n.size, .int .i64 n.items, .slice A9 n.br.length c9]] W (Tells (enumOk n) W)) := fun W b =>
    enum_any ⟨10, ⟨#[]⟩, [], n.fs, n.sy, n.has, n.df, n.size, n.items, n.br⟩ ⟨Nat.zero_le _, hs.2.1, hs.2.2.1, hs.2.2.2.1, Nat.zero_le _, hs.2.2.2.2.2.1, hs.2.2.2.2.2.2⟩ W (hL0.below b) none A3 A4 A9 0 c3 c4 c9 (Nd.out.2 ⟨_, _, _, _, _, _, _, _, rfl, ⟨Nat.le_refl _, Nat.zero_le _⟩, .inl rfl, l3, (r3.below b).more b.size, l4, FlS.keep (Below.keeps b) (fun _ h => Nat.lt_of_lt_of_le h b.size) f4, l9, (r9.below b).more b.size⟩)
  have SN : Hid (∀ W, Below w.heap.size w W → Calls Tryd.prog 44 #[.agg #[.int .i64 10, .string ⟨#[]⟩, .slice none 0 0, .slice A3 n.fs.length c3, .slice none 0 0, .bool false, .string ⟨#[]⟩, .int .i64 n.size, .int .i64 n.items, .slice A9 n.br.length c9], .agg #[.int .i64 10, .string ⟨#[]⟩, .slice none 0 0, .slice none 0 0, .slice none 0 0, .bool false, .string ⟨#[]⟩, .int .i64 0, .int .i64 0, .slice none 0 0]] W (Tells ((⟨10, ⟨#[]⟩, [], n.fs, [], false, ⟨#[]⟩, n.size, n.items, n.br⟩ : Nd) = Nd.z 10) W)) := fun W b =>
    (sameN_any ⟨10, ⟨#[]⟩, [], n.fs, [], false, ⟨#[]⟩, n.size, n.items, n.br⟩ (Nd.z 10) W none A3 none A9 none none none none 0 c3 0 c9 0 0 0 0 (Nd.out.2 ⟨_, _, _, _, _, _, _, _, rfl, ⟨Nat.le_refl _, Nat.zero_le _⟩, .inl rfl, l3, (r3.below b).more b.size, ⟨Nat.le_refl _, Nat.zero_le _⟩, .inl rfl, l9, (r9.below b).more b.size⟩) z_lies).mono fun _ _ g => told_tells g eqb_iff
  rw [hk] at CC ⊢
  have H0 := Lib.hid (B10.newat (w := w) (t := 40) (x0 := .int .i64 10) (x1 := .string n.name) (x2 := .slice A2 n.al.length c2) (x3 := .slice A3 n.fs.length c3) (x4 := .slice A4 n.sy.length c4) (x5 := .bool n.has) (x6 := .string n.df) (x7 := .int .i64 n.size) (x8 := .int .i64 n.items) (x9 := .slice A9 n.br.length c9) rfl)
  generalize ((⟨10, ⟨#[]⟩, [], n.fs, [], false, ⟨#[]⟩, n.size, n.items, n.br⟩ : Nd) = Nd.z 10) = P3 at *
  generalize enumOk n = P2 at *
  generalize (okName n.name ∧ okFulls n.al) = P1 at *
  generalize n.ok s = Q at *
  clear h l2 f2 l3 r3 l4 f4 l9 r9 hs hN hL0 hk
  generalize s.nodes.length = ns at *
  generalize n.name = nm at *
  generalize n.al.length = e2 at *
  generalize n.fs.length = e3 at *
  generalize n.sy.length = e4 at *
  generalize n.br.length = e9 at *
  generalize n.has = hh at *
  generalize n.df = df at *
  generalize n.size = sz at *
  generalize n.items = im at *
  have NM : Hid (∀ W, Calls Tryd.prog 14 #[.int .i64 10] W (Sole (.bool true) W)) := fun W => by
    have := sNamed_pure 10 W
    rwa [show named 10 = true by decide] at this
  go_enter Tryd.func28, Tryd.ntmps28
  go_wp2_with fail
  with_reducible refine (NM.out _).mono ?_
  rintro e w1 ⟨rfl, rfl⟩
  go_wp2_with fail
  with_reducible refine (CC.out _ (by (repeat' (first | with_reducible assumption | with_reducible exact Below.refl _ _ | (with_reducible refine Below.alloc ?_ ?_ _; rotate_left; focus ((first | exact Nat.le_refl _ | (simp; done) | (simp; omega) | omega | fail))) | (with_reducible refine Below.setCell ?_ ?_ _; rotate_left; focus ((first | exact Nat.le_refl _ | (simp; done) | (simp; omega) | omega | fail))) | with_reducible refine Mem.bel_drewN ?_ _ | with_reducible refine Below.drew ?_ | (with_reducible refine Mem.bel_call (by with_reducible assumption) ?_ ?_; focus ((first | exact Nat.le_refl _ | (simp; done) | (simp; omega) | omega | fail))) | fail)))).mono ?_
  rintro e w2 ⟨b, rfl, hb, b2⟩
  have h2 := Lib.hid (B10.below H0.out b2 (by simp))
  obtain ⟨_, _, _, _, _, _, _, _, _, _, _, _, _, _, _, _, _, _, _, _⟩ := B10.facts h2.out
  have bw2 : Below w.heap.size w w2 := by (repeat' (first | with_reducible assumption | with_reducible exact Below.refl _ _ | (with_reducible refine Below.alloc ?_ ?_ _; rotate_left; focus ((first | exact Nat.le_refl _ | (simp; done) | (simp; omega) | omega | fail))) | (with_reducible refine Below.setCell ?_ ?_ _; rotate_left; focus ((first | exact Nat.le_refl _ | (simp; done) | (simp; omega) | omega | fail))) | with_reducible refine Mem.bel_drewN ?_ _ | with_reducible refine Below.drew ?_ | (with_reducible refine Mem.bel_call (by with_reducible assumption) ?_ ?_; focus ((first | exact Nat.le_refl _ | (simp; done) | (simp; omega) | omega | fail))) | fail))
  have HB1 := Lib.hid hb
  have zw2 := (h2.out).lt
  clear hb
  cases b with
  | false =>
    have Z : Hid (¬ Q) := fun q => by have := HB1.out.2 (OKI.out.1 q).1; simp at this
    go_wp2_with fail
    go_ret
    exact tells_no rfl Z.out (by (repeat' (first | with_reducible assumption | with_reducible exact Below.refl _ _ | (with_reducible refine Below.alloc ?_ ?_ _; rotate_left; focus ((first | exact Nat.le_refl _ | (simp; done) | (simp; omega) | omega | fail))) | (with_reducible refine Below.setCell ?_ ?_ _; rotate_left; focus ((first | exact Nat.le_refl _ | (simp; done) | (simp; omega) | omega | fail))) | with_reducible refine Mem.bel_drewN ?_ _ | with_reducible refine Below.drew ?_ | (with_reducible refine Mem.bel_call (by with_reducible assumption) ?_ ?_; focus ((first | exact Nat.le_refl _ | (simp; done) | (simp; omega) | omega | fail))) | fail)))
  | true =>
    have T1 : Hid P1 := HB1.out.1 (by first | rfl | trivial)
    clear HB1
    go_wp2_with fail
    with_reducible refine (RC.out _ (by (repeat' (first | with_reducible assumption | with_reducible exact Below.refl _ _ | (with_reducible refine Below.alloc ?_ ?_ _; rotate_left; focus ((first | exact Nat.le_refl _ | (simp; done) | (simp; omega) | omega | fail))) | (with_reducible refine Below.setCell ?_ ?_ _; rotate_left; focus ((first | exact Nat.le_refl _ | (simp; done) | (simp; omega) | omega | fail))) | with_reducible refine Mem.bel_drewN ?_ _ | with_reducible refine Below.drew ?_ | (with_reducible refine Mem.bel_call (by with_reducible assumption) ?_ ?_; focus ((first | exact Nat.le_refl _ | (simp; done) | (simp; omega) | omega | fail))) | fail)))).mono ?_
    rintro e w3 ⟨b, rfl, hb, b3⟩
    have h3 := Lib.hid (B10.below (B10.set2 (B10.set1 h2.out (.string ⟨#[]⟩)) (.slice none 0 0)) b3 (by simp [World.setCell]; omega))
    obtain ⟨_, _, _, _, _, _, _, _, _, _, _, _, _, _, _, _, _, _, _, _⟩ := B10.facts h3.out
    have bw3 : Below w.heap.size w w3 := by (repeat' (first | with_reducible assumption | with_reducible exact Below.refl _ _ | (with_reducible refine Below.alloc ?_ ?_ _; rotate_left; focus ((first | exact Nat.le_refl _ | (simp; done) | (simp; omega) | omega | fail))) | (with_reducible refine Below.setCell ?_ ?_ _; rotate_left; focus ((first | exact Nat.le_refl _ | (simp; done) | (simp; omega) | omega | fail))) | with_reducible refine Mem.bel_drewN ?_ _ | with_reducible refine Below.drew ?_ | (with_reducible refine Mem.bel_call (by with_reducible assumption) ?_ ?_; focus ((first | exact Nat.le_refl _ | (simp; done) | (simp; omega) | omega | fail))) | fail))
    have HB2 := Lib.hid hb
    have zw3 := (h3.out).lt
    clear hb
    cases b with
    | false =>
      have Z : Hid (¬ Q) := fun q => by have := HB2.out.2 (OKI.out.1 q).2.1; simp at this
      go_wp2_with fail
      go_ret
      exact tells_no rfl Z.out (by (repeat' (first | with_reducible assumption | with_reducible exact Below.refl _ _ | (with_reducible refine Below.alloc ?_ ?_ _; rotate_left; focus ((first | exact Nat.le_refl _ | (simp; done) | (simp; omega) | omega | fail))) | (with_reducible refine Below.setCell ?_ ?_ _; rotate_left; focus ((first | exact Nat.le_refl _ | (simp; done) | (simp; omega) | omega | fail))) | with_reducible refine Mem.bel_drewN ?_ _ | with_reducible refine Below.drew ?_ | (with_reducible refine Mem.bel_call (by with_reducible assumption) ?_ ?_; focus ((first | exact Nat.le_refl _ | (simp; done) | (simp; omega) | omega | fail))) | fail)))
    | true =>
      have Q3 : Hid (Q ↔ P3) := OKI.out.trans ⟨fun q => q.2.2, fun q => ⟨T1.out, HB2.out.1 (by first | rfl | trivial), q⟩⟩
      go_wp2_with fail
      with_reducible refine (SN.out _ (by (repeat' (first | with_reducible assumption | with_reducible exact Below.refl _ _ | (with_reducible refine Below.alloc ?_ ?_ _; rotate_left; focus ((first | exact Nat.le_refl _ | (simp; done) | (simp; omega) | omega | fail))) | (with_reducible refine Below.setCell ?_ ?_ _; rotate_left; focus ((first | exact Nat.le_refl _ | (simp; done) | (simp; omega) | omega | fail))) | with_reducible refine Mem.bel_drewN ?_ _ | with_reducible refine Below.drew ?_ | (with_reducible refine Mem.bel_call (by with_reducible assumption) ?_ ?_; focus ((first | exact Nat.le_refl _ | (simp; done) | (simp; omega) | omega | fail))) | fail)))).mono ?_
      rintro e w9 ⟨b, rfl, hb, b9⟩
      have bw9 : Below w.heap.size w w9 := by (repeat' (first | with_reducible assumption | with_reducible exact Below.refl _ _ | (with_reducible refine Below.alloc ?_ ?_ _; rotate_left; focus ((first | exact Nat.le_refl _ | (simp; done) | (simp; omega) | omega | fail))) | (with_reducible refine Below.setCell ?_ ?_ _; rotate_left; focus ((first | exact Nat.le_refl _ | (simp; done) | (simp; omega) | omega | fail))) | with_reducible refine Mem.bel_drewN ?_ _ | with_reducible refine Below.drew ?_ | (with_reducible refine Mem.bel_call (by with_reducible assumption) ?_ ?_; focus ((first | exact Nat.le_refl _ | (simp; done) | (simp; omega) | omega | fail))) | fail))
      have HB9 := Lib.hid hb
      clear hb
      go_wp2_with fail
      go_ret
      exact ⟨b, rfl, HB9.out.trans Q3.out.symm, bw9⟩
set_option maxRecDepth 100000 in
set_option maxHeartbeats 8000000 in
theorem may_14 (s : Sc) (n : Nd) (hk : n.k = 14) (hs : n.sm) (w : World) (hL0 : LaidN w) (A A2 A3 A4 A9 : Option Addr) (c c2 c3 c4 c9 : Nat) (hN : RowD w (· < w.heap.size) 10 (s.nodes.map Nd.enc) A) (h : Lies w (· < w.heap.size) n.enc [.int .i64 n.k, .string n.name, .slice A2 n.al.length c2, .slice A3 n.fs.length c3, .slice A4 n.sy.length c4, .bool n.has, .string n.df, .int .i64 n.size, .int .i64 n.items, .slice A9 n.br.length c9]) :
    Calls Tryd.prog 28 #[.slice A s.nodes.length c, .agg #[.int .i64 n.k, .string n.name, .slice A2 n.al.length c2, .slice A3 n.fs.length c3, .slice A4 n.sy.length c4, .bool n.has, .string n.df, .int .i64 n.size, .int .i64 n.items, .slice A9 n.br.length c9]] w (Tells (n.ok s) w) := by
  have CS := cell_set
  have _u := And.intro hs.1 (And.intro hL0 hN)
  clear _u
  obtain ⟨_, _, _, _, _, _, _, _, e, l2, f2, l3, r3, l4, f4, l9, r9⟩ := Nd.out.1 h
  simp only [List.cons.injEq, Value.slice.injEq, true_and, and_true] at e
  obtain ⟨⟨rfl, rfl⟩, ⟨rfl, rfl⟩, ⟨rfl, rfl⟩, rfl, rfl⟩ := e
  have OKI := Lib.hid (ok_14 (s := s) hk)
  have CC := Lib.hid (fun W (b : Below w.heap.size w W) => called_any n hs W (hL0.below b) A2 A3 A4 A9 c2 c3 c4 c9 ((h.below b).more b.size))
  have SN : Hid (∀ W, Below w.heap.size w W → Calls Tryd.prog 44 #[.agg #[.int .i64 14, .string ⟨#[]⟩, .slice none 0 0, .slice A3 n.fs.length c3, .slice A4 n.sy.length c4, .bool n.has, .string n.df, .int .i64 0, .int .i64 n.items, .slice A9 n.br.length c9], .agg #[.int .i64 14, .string ⟨#[]⟩, .slice none 0 0, .slice none 0 0, .slice none 0 0, .bool false, .string ⟨#[]⟩, .int .i64 0, .int .i64 0, .slice none 0 0]] W (Tells ((⟨14, ⟨#[]⟩, [], n.fs, n.sy, n.has, n.df, 0, n.items, n.br⟩ : Nd) = Nd.z 14) W)) := fun W b =>
    (sameN_any ⟨14, ⟨#[]⟩, [], n.fs, n.sy, n.has, n.df, 0, n.items, n.br⟩ (Nd.z 14) W none A3 A4 A9 none none none none 0 c3 c4 c9 0 0 0 0 (Nd.out.2 ⟨_, _, _, _, _, _, _, _, rfl, ⟨Nat.le_refl _, Nat.zero_le _⟩, .inl rfl, l3, (r3.below b).more b.size, l4, FlS.keep (Below.keeps b) (fun _ h => Nat.lt_of_lt_of_le h b.size) f4, l9, (r9.below b).more b.size⟩) z_lies).mono fun _ _ g => told_tells g eqb_iff
  rw [hk] at CC ⊢
  have H0 := Lib.hid (B10.newat (w := w) (t := 40) (x0 := .int .i64 14) (x1 := .string n.name) (x2 := .slice A2 n.al.length c2) (x3 := .slice A3 n.fs.length c3) (x4 := .slice A4 n.sy.length c4) (x5 := .bool n.has) (x6 := .string n.df) (x7 := .int .i64 n.size) (x8 := .int .i64 n.items) (x9 := .slice A9 n.br.length c9) rfl)
  generalize ((⟨14, ⟨#[]⟩, [], n.fs, n.sy, n.has, n.df, 0, n.items, n.br⟩ : Nd) = Nd.z 14) = P3 at *
  generalize (okName n.name ∧ okFulls n.al) = P1 at *
  generalize n.ok s = Q at *
  clear h l2 f2 l3 r3 l4 f4 l9 r9 hs hN hL0 hk
  generalize s.nodes.length = ns at *
  generalize n.name = nm at *
  generalize n.al.length = e2 at *
  generalize n.fs.length = e3 at *
  generalize n.sy.length = e4 at *
  generalize n.br.length = e9 at *
  generalize n.has = hh at *
  generalize n.df = df at *
  generalize n.size = sz at *
  generalize n.items = im at *
  have NM : Hid (∀ W, Calls Tryd.prog 14 #[.int .i64 14] W (Sole (.bool true) W)) := fun W => by
    have := sNamed_pure 14 W
    rwa [show named 14 = true by decide] at this
  go_enter Tryd.func28, Tryd.ntmps28
  go_wp2_with fail
  with_reducible refine (NM.out _).mono ?_
  rintro e w1 ⟨rfl, rfl⟩
  go_wp2_with fail
  with_reducible refine (CC.out _ (by (repeat' (first | with_reducible assumption | with_reducible exact Below.refl _ _ | (with_reducible refine Below.alloc ?_ ?_ _; rotate_left; focus ((first | exact Nat.le_refl _ | (simp; done) | (simp; omega) | omega | fail))) | (with_reducible refine Below.setCell ?_ ?_ _; rotate_left; focus ((first | exact Nat.le_refl _ | (simp; done) | (simp; omega) | omega | fail))) | with_reducible refine Mem.bel_drewN ?_ _ | with_reducible refine Below.drew ?_ | (with_reducible refine Mem.bel_call (by with_reducible assumption) ?_ ?_; focus ((first | exact Nat.le_refl _ | (simp; done) | (simp; omega) | omega | fail))) | fail)))).mono ?_
  rintro e w2 ⟨b, rfl, hb, b2⟩
  have h2 := Lib.hid (B10.below H0.out b2 (by simp))
  obtain ⟨_, _, _, _, _, _, _, _, _, _, _, _, _, _, _, _, _, _, _, _⟩ := B10.facts h2.out
  have bw2 : Below w.heap.size w w2 := by (repeat' (first | with_reducible assumption | with_reducible exact Below.refl _ _ | (with_reducible refine Below.alloc ?_ ?_ _; rotate_left; focus ((first | exact Nat.le_refl _ | (simp; done) | (simp; omega) | omega | fail))) | (with_reducible refine Below.setCell ?_ ?_ _; rotate_left; focus ((first | exact Nat.le_refl _ | (simp; done) | (simp; omega) | omega | fail))) | with_reducible refine Mem.bel_drewN ?_ _ | with_reducible refine Below.drew ?_ | (with_reducible refine Mem.bel_call (by with_reducible assumption) ?_ ?_; focus ((first | exact Nat.le_refl _ | (simp; done) | (simp; omega) | omega | fail))) | fail))
  have HB1 := Lib.hid hb
  have zw2 := (h2.out).lt
  clear hb
  cases b with
  | false =>
    have Z : Hid (¬ Q) := fun q => by have := HB1.out.2 (OKI.out.1 q).1; simp at this
    go_wp2_with fail
    go_ret
    exact tells_no rfl Z.out (by (repeat' (first | with_reducible assumption | with_reducible exact Below.refl _ _ | (with_reducible refine Below.alloc ?_ ?_ _; rotate_left; focus ((first | exact Nat.le_refl _ | (simp; done) | (simp; omega) | omega | fail))) | (with_reducible refine Below.setCell ?_ ?_ _; rotate_left; focus ((first | exact Nat.le_refl _ | (simp; done) | (simp; omega) | omega | fail))) | with_reducible refine Mem.bel_drewN ?_ _ | with_reducible refine Below.drew ?_ | (with_reducible refine Mem.bel_call (by with_reducible assumption) ?_ ?_; focus ((first | exact Nat.le_refl _ | (simp; done) | (simp; omega) | omega | fail))) | fail)))
  | true =>
    have T1 : Hid P1 := HB1.out.1 (by first | rfl | trivial)
    clear HB1
    by_cases s0 : 0 ≤ sz
    · by_cases s1 : sz ≤ 1000
      · have Q3 : Hid (Q ↔ P3) := OKI.out.trans ⟨fun q => q.2.2, fun q => ⟨T1.out, ⟨s0, s1⟩, q⟩⟩
        go_wp2_with fail
        with_reducible refine (SN.out _ (by (repeat' (first | with_reducible assumption | with_reducible exact Below.refl _ _ | (with_reducible refine Below.alloc ?_ ?_ _; rotate_left; focus ((first | exact Nat.le_refl _ | (simp; done) | (simp; omega) | omega | fail))) | (with_reducible refine Below.setCell ?_ ?_ _; rotate_left; focus ((first | exact Nat.le_refl _ | (simp; done) | (simp; omega) | omega | fail))) | with_reducible refine Mem.bel_drewN ?_ _ | with_reducible refine Below.drew ?_ | (with_reducible refine Mem.bel_call (by with_reducible assumption) ?_ ?_; focus ((first | exact Nat.le_refl _ | (simp; done) | (simp; omega) | omega | fail))) | fail)))).mono ?_
        rintro e w9 ⟨b, rfl, hb, b9⟩
        have bw9 : Below w.heap.size w w9 := by (repeat' (first | with_reducible assumption | with_reducible exact Below.refl _ _ | (with_reducible refine Below.alloc ?_ ?_ _; rotate_left; focus ((first | exact Nat.le_refl _ | (simp; done) | (simp; omega) | omega | fail))) | (with_reducible refine Below.setCell ?_ ?_ _; rotate_left; focus ((first | exact Nat.le_refl _ | (simp; done) | (simp; omega) | omega | fail))) | with_reducible refine Mem.bel_drewN ?_ _ | with_reducible refine Below.drew ?_ | (with_reducible refine Mem.bel_call (by with_reducible assumption) ?_ ?_; focus ((first | exact Nat.le_refl _ | (simp; done) | (simp; omega) | omega | fail))) | fail))
        have HB9 := Lib.hid hb
        clear hb
        go_wp2_with fail
        go_ret
        exact ⟨b, rfl, HB9.out.trans Q3.out.symm, bw9⟩
      · have Z : Hid (¬ Q) := fun q => s1 (OKI.out.1 q).2.1.2
        go_wp2_with fail
        go_ret
        exact tells_no rfl Z.out (by (repeat' (first | with_reducible assumption | with_reducible exact Below.refl _ _ | (with_reducible refine Below.alloc ?_ ?_ _; rotate_left; focus ((first | exact Nat.le_refl _ | (simp; done) | (simp; omega) | omega | fail))) | (with_reducible refine Below.setCell ?_ ?_ _; rotate_left; focus ((first | exact Nat.le_refl _ | (simp; done) | (simp; omega) | omega | fail))) | with_reducible refine Mem.bel_drewN ?_ _ | with_reducible refine Below.drew ?_ | (with_reducible refine Mem.bel_call (by with_reducible assumption) ?_ ?_; focus ((first | exact Nat.le_refl _ | (simp; done) | (simp; omega) | omega | fail))) | fail)))
    · have Z : Hid (¬ Q) := fun q => s0 (OKI.out.1 q).2.1.1
      go_wp2_with fail
      go_ret
      exact tells_no rfl Z.out (by (repeat' (first | with_reducible assumption | with_reducible exact Below.refl _ _ | (with_reducible refine Below.alloc ?_ ?_ _; rotate_left; focus ((first | exact Nat.le_refl _ | (simp; done) | (simp; omega) | omega | fail))) | (with_reducible refine Below.setCell ?_ ?_ _; rotate_left; focus ((first | exact Nat.le_refl _ | (simp; done) | (simp; omega) | omega | fail))) | with_reducible refine Mem.bel_drewN ?_ _ | with_reducible refine Below.drew ?_ | (with_reducible refine Mem.bel_call (by with_reducible assumption) ?_ ?_; focus ((first | exact Nat.le_refl _ | (simp; done) | (simp; omega) | omega | fail))) | fail)))
theorem may_any (s : Sc) (n : Nd) (hn : s.nodes.length ≤ 2500) (hkid : ∀ b ∈ n.kids, 0 ≤ b ∧ b < (s.nodes.length : Int)) (hs : n.sm) (w : World) (hL0 : LaidN w) (A A2 A3 A4 A9 : Option Addr) (c c2 c3 c4 c9 : Nat) (hN : RowD w (· < w.heap.size) 10 (s.nodes.map Nd.enc) A) (h : Lies w (· < w.heap.size) n.enc [.int .i64 n.k, .string n.name, .slice A2 n.al.length c2, .slice A3 n.fs.length c3, .slice A4 n.sy.length c4, .bool n.has, .string n.df, .int .i64 n.size, .int .i64 n.items, .slice A9 n.br.length c9]) :
    Calls Tryd.prog 28 #[.slice A s.nodes.length c, .agg #[.int .i64 n.k, .string n.name, .slice A2 n.al.length c2, .slice A3 n.fs.length c3, .slice A4 n.sy.length c4, .bool n.has, .string n.df, .int .i64 n.size, .int .i64 n.items, .slice A9 n.br.length c9]] w (Tells (n.ok s) w) := by
  by_cases h1 : 1 ≤ n.k ∧ n.k ≤ 8
  · exact may_prim s n h1 hs w hL0 A A2 A3 A4 A9 c c2 c3 c4 c9 hN h
  · by_cases h2 : n.k < 1 ∨ 14 < n.k
    · exact may_other s n h2 hs w hL0 A A2 A3 A4 A9 c c2 c3 c4 c9 hN h
    · by_cases k9 : n.k = 9
      · exact may_9 s n k9 hs w hL0 A A2 A3 A4 A9 c c2 c3 c4 c9 hN h
      · by_cases k10 : n.k = 10
        · exact may_10 s n k10 hs w hL0 A A2 A3 A4 A9 c c2 c3 c4 c9 hN h
        · by_cases k11 : n.k = 11
          · exact may_11 s n k11 hs w hL0 A A2 A3 A4 A9 c c2 c3 c4 c9 hN h
          · by_cases k12 : n.k = 12
            · exact may_12 s n k12 hs w hL0 A A2 A3 A4 A9 c c2 c3 c4 c9 hN h
            · by_cases k13 : n.k = 13
              · exact may_13 s n hn (by unfold Nd.kids at hkid; rw [if_neg (by omega), if_neg (by omega), if_pos k13] at hkid; exact hkid) k13 hs w hL0 A A2 A3 A4 A9 c c2 c3 c4 c9 hN h
              · exact may_14 s n (by omega) hs w hL0 A A2 A3 A4 A9 c c2 c3 c4 c9 hN h
end Go.Proofs.YtlpmcohbbffbfaaDoor
