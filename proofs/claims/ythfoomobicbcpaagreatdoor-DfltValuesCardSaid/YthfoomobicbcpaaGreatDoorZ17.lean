/- Joined by tools/bundle.py: SCN SCpy SReg SCE SCode. -/
import Derived.Below
import Derived.Deep.RegionHeld
import Derived.Deep.CutRange
import Derived.Deep.RegionHeldLaw
import Derived.Lib.SliceRun
import Derived.Test.YthfoomobicbcpaaGreatDoorZ2
import Derived.Test.YthfoomobicbcpaaGreatDoorZ3
import Derived.Test.YthfoomobicbcpaaGreatDoorZ4
import Derived.Test.YthfoomobicbcpaaGreatDoorZ6
import Derived.Test.YthfoomobicbcpaaGreatDoorZ7
import Derived.Test.YthfoomobicbcpaaGreatDoorZ9
import Derived.Test.YthfoomobicbcpaaGreatDoorZ14
import Derived.Test.YthfoomobicbcpaaGreatDoorZ15
import Derived.Test.YthfoomobicbcpaaGreatDoorZ16
import Derived.Test.YthfoomobicbcpaaGreatDoorZ0
set_option maxRecDepth 100000
set_option maxHeartbeats 16000000
namespace Go.Proofs.YthfoomobicbcpaaGreatDoor
open Go.ChangeShapes Go.WideShapes Go.ChangeAt Go.RowKit Mem
theorem may_prim (s : Sc) (n : Nd) (hk : 1 ≤ n.k ∧ n.k ≤ 8) (hs : n.sm) (w : World) (hL0 : LaidN w) (A A2 A3 A4 A9 : Option Addr) (c c2 c3 c4 c9 : Nat) (hN : RowD w (· < w.heap.size) 10 (s.nodes.map Nd.enc) A) (h : Lies w (· < w.heap.size) n.enc [.int .i64 n.k, .string n.name, .slice A2 n.al.length c2, .slice A3 n.fs.length c3, .slice A4 n.sy.length c4, .bool n.has, .string n.df, .int .i64 n.size, .int .i64 n.items, .slice A9 n.br.length c9]) :
 Calls Tryz.prog 72 #[.slice A s.nodes.length c, .agg #[.int .i64 n.k, .string n.name, .slice A2 n.al.length c2, .slice A3 n.fs.length c3, .slice A4 n.sy.length c4, .bool n.has, .string n.df, .int .i64 n.size, .int .i64 n.items, .slice A9 n.br.length c9]] w (Tells (n.ok s) w) := by
 have CS := cell_set
 have _u := And.intro hs.1 (And.intro hL0 hN)
 clear _u
 obtain ⟨_, _, _, _, _, _, _, _, e, l2, f2, l3, r3, l4, f4, l9, r9⟩ := Nd.out.1 h
 simp only [List.cons.injEq, Value.slice.injEq, true_and, and_true] at e
 obtain ⟨⟨rfl, rfl⟩, ⟨rfl, rfl⟩, ⟨rfl, rfl⟩, rfl, rfl⟩ := e
 have OKI := Lib.hid (ok_prim (s := s) hk)
 have SN : Hid (∀ W, Below w.heap.size w W → Calls Tryz.prog 125 #[.agg #[.int .i64 n.k, .string n.name, .slice A2 n.al.length c2, .slice A3 n.fs.length c3, .slice A4 n.sy.length c4, .bool n.has, .string n.df, .int .i64 n.size, .int .i64 n.items, .slice A9 n.br.length c9], .agg #[.int .i64 n.k, .string ⟨#[]⟩, .slice none 0 0, .slice none 0 0, .slice none 0 0, .bool false, .string ⟨#[]⟩, .int .i64 0, .int .i64 0, .slice none 0 0]] W (Tells ((⟨n.k, n.name, n.al, n.fs, n.sy, n.has, n.df, n.size, n.items, n.br⟩ : Nd) = Nd.z n.k) W)) := fun W b =>
  (sameN_any ⟨n.k, n.name, n.al, n.fs, n.sy, n.has, n.df, n.size, n.items, n.br⟩ (Nd.z n.k) W A2 A3 A4 A9 none none none none c2 c3 c4 c9 0 0 0 0 (Nd.out.2 ⟨_, _, _, _, _, _, _, _, rfl, l2, FlS.keep (Below.keeps b) (fun _ h => Nat.lt_of_lt_of_le h b.size) f2, l3, (r3.below b).more b.size, l4, FlS.keep (Below.keeps b) (fun _ h => Nat.lt_of_lt_of_le h b.size) f4, l9, (r9.below b).more b.size⟩) z_lies).mono fun _ _ g => told_tells g eqb_iff
 generalize ((⟨n.k, n.name, n.al, n.fs, n.sy, n.has, n.df, n.size, n.items, n.br⟩ : Nd) = Nd.z n.k) = P3 at *
 generalize n.ok s = Q at *
 clear h l2 f2 l3 r3 l4 f4 l9 r9 hs hN hL0
 generalize s.nodes.length = ns at *
 generalize n.k = k at *
 generalize n.name = nm at *
 generalize n.al.length = e2 at *
 generalize n.fs.length = e3 at *
 generalize n.sy.length = e4 at *
 generalize n.br.length = e9 at *
 generalize n.has = hh at *
 generalize n.df = df at *
 generalize n.size = sz at *
 generalize n.items = im at *
 have NM : Hid (∀ W, Calls Tryz.prog 73 #[.int .i64 k] W (Sole (.bool false) W)) := fun W => by
  have := sNamed_pure k W
  rwa [show named k = false by unfold named; rw [decide_eq_false_iff_not]; omega] at this
 have q11 : (k == 11) = false := by rw [beq_eq_false_iff_ne]; omega
 have q12 : (k == 12) = false := by rw [beq_eq_false_iff_ne]; omega
 have q13 : (k == 13) = false := by rw [beq_eq_false_iff_ne]; omega
 have q9 : (k == 9) = false := by rw [beq_eq_false_iff_ne]; omega
 have q10 : (k == 10) = false := by rw [beq_eq_false_iff_ne]; omega
 have q14 : (k == 14) = false := by rw [beq_eq_false_iff_ne]; omega
 have q1 : (1 : Int) ≤ k := hk.1
 have q8 : k ≤ (8 : Int) := hk.2
 clear hk
 go_enter Tryz.func72, Tryz.ntmps72
 go_wp2_with fail
 with_reducible refine (NM.out _).mono ?_
 rintro e w1 ⟨rfl, rfl⟩
 go_wp2_with fail
 with_reducible refine (SN.out _ bqq).mono ?_
 rintro e w9 ⟨b, rfl, hb, b9⟩
 have bw9 : Below w.heap.size w w9 := bqq
 have HB9 := Lib.hid hb
 clear hb
 go_wp2_with fail
 go_ret
 exact ⟨b, rfl, HB9.out.trans OKI.out.symm, bw9⟩
theorem may_other (s : Sc) (n : Nd) (hk : n.k < 1 ∨ 14 < n.k) (hs : n.sm) (w : World) (hL0 : LaidN w) (A A2 A3 A4 A9 : Option Addr) (c c2 c3 c4 c9 : Nat) (hN : RowD w (· < w.heap.size) 10 (s.nodes.map Nd.enc) A) (h : Lies w (· < w.heap.size) n.enc [.int .i64 n.k, .string n.name, .slice A2 n.al.length c2, .slice A3 n.fs.length c3, .slice A4 n.sy.length c4, .bool n.has, .string n.df, .int .i64 n.size, .int .i64 n.items, .slice A9 n.br.length c9]) :
 Calls Tryz.prog 72 #[.slice A s.nodes.length c, .agg #[.int .i64 n.k, .string n.name, .slice A2 n.al.length c2, .slice A3 n.fs.length c3, .slice A4 n.sy.length c4, .bool n.has, .string n.df, .int .i64 n.size, .int .i64 n.items, .slice A9 n.br.length c9]] w (Tells (n.ok s) w) := by
 have CS := cell_set
 have _u := And.intro hs.1 (And.intro hL0 hN)
 clear _u
 obtain ⟨_, _, _, _, _, _, _, _, e, l2, f2, l3, r3, l4, f4, l9, r9⟩ := Nd.out.1 h
 simp only [List.cons.injEq, Value.slice.injEq, true_and, and_true] at e
 obtain ⟨⟨rfl, rfl⟩, ⟨rfl, rfl⟩, ⟨rfl, rfl⟩, rfl, rfl⟩ := e
 have NO : Hid (¬ n.ok s) := fun q => by have a := q.1; have b := q.2.1; omega
 generalize n.ok s = Q at *
 clear h l2 f2 l3 r3 l4 f4 l9 r9 hs hN hL0
 generalize s.nodes.length = ns at *
 generalize n.k = k at *
 generalize n.name = nm at *
 generalize n.al.length = e2 at *
 generalize n.fs.length = e3 at *
 generalize n.sy.length = e4 at *
 generalize n.br.length = e9 at *
 generalize n.has = hh at *
 generalize n.df = df at *
 generalize n.size = sz at *
 generalize n.items = im at *
 have NM : Hid (∀ W, Calls Tryz.prog 73 #[.int .i64 k] W (Sole (.bool false) W)) := fun W => by
  have := sNamed_pure k W
  rwa [show named k = false by unfold named; rw [decide_eq_false_iff_not]; omega] at this
 have q11 : (k == 11) = false := by rw [beq_eq_false_iff_ne]; omega
 have q12 : (k == 12) = false := by rw [beq_eq_false_iff_ne]; omega
 have q13 : (k == 13) = false := by rw [beq_eq_false_iff_ne]; omega
 have q9 : (k == 9) = false := by rw [beq_eq_false_iff_ne]; omega
 have q10 : (k == 10) = false := by rw [beq_eq_false_iff_ne]; omega
 have q14 : (k == 14) = false := by rw [beq_eq_false_iff_ne]; omega
 rcases hk with hk | hk
 · have q1 : ¬ (1 : Int) ≤ k := by omega
   clear hk
   go_enter Tryz.func72, Tryz.ntmps72
   go_wp2_with fail
   with_reducible refine (NM.out _).mono ?_
   rintro e w1 ⟨rfl, rfl⟩
   go_wp2_with fail
   go_ret
   exact tells_no rfl NO.out bqq
 · have q1 : (1 : Int) ≤ k := by omega
   have q8 : ¬ k ≤ (8 : Int) := by omega
   clear hk
   go_enter Tryz.func72, Tryz.ntmps72
   go_wp2_with fail
   with_reducible refine (NM.out _).mono ?_
   rintro e w1 ⟨rfl, rfl⟩
   go_wp2_with fail
   go_ret
   exact tells_no rfl NO.out bqq
theorem may_11 (s : Sc) (n : Nd) (hk : n.k = 11) (hs : n.sm) (w : World) (hL0 : LaidN w) (A A2 A3 A4 A9 : Option Addr) (c c2 c3 c4 c9 : Nat) (hN : RowD w (· < w.heap.size) 10 (s.nodes.map Nd.enc) A) (h : Lies w (· < w.heap.size) n.enc [.int .i64 n.k, .string n.name, .slice A2 n.al.length c2, .slice A3 n.fs.length c3, .slice A4 n.sy.length c4, .bool n.has, .string n.df, .int .i64 n.size, .int .i64 n.items, .slice A9 n.br.length c9]) :
 Calls Tryz.prog 72 #[.slice A s.nodes.length c, .agg #[.int .i64 n.k, .string n.name, .slice A2 n.al.length c2, .slice A3 n.fs.length c3, .slice A4 n.sy.length c4, .bool n.has, .string n.df, .int .i64 n.size, .int .i64 n.items, .slice A9 n.br.length c9]] w (Tells (n.ok s) w) := by
 have CS := cell_set
 have _u := And.intro hs.1 (And.intro hL0 hN)
 clear _u
 obtain ⟨_, _, _, _, _, _, _, _, e, l2, f2, l3, r3, l4, f4, l9, r9⟩ := Nd.out.1 h
 simp only [List.cons.injEq, Value.slice.injEq, true_and, and_true] at e
 obtain ⟨⟨rfl, rfl⟩, ⟨rfl, rfl⟩, ⟨rfl, rfl⟩, rfl, rfl⟩ := e
 have OKI := Lib.hid (ok_11 (s := s) hk)
 have SN : Hid (∀ W, Below w.heap.size w W → Calls Tryz.prog 125 #[.agg #[.int .i64 11, .string n.name, .slice A2 n.al.length c2, .slice A3 n.fs.length c3, .slice A4 n.sy.length c4, .bool n.has, .string n.df, .int .i64 n.size, .int .i64 0, .slice A9 n.br.length c9], .agg #[.int .i64 11, .string ⟨#[]⟩, .slice none 0 0, .slice none 0 0, .slice none 0 0, .bool false, .string ⟨#[]⟩, .int .i64 0, .int .i64 0, .slice none 0 0]] W (Tells ((⟨11, n.name, n.al, n.fs, n.sy, n.has, n.df, n.size, 0, n.br⟩ : Nd) = Nd.z 11) W)) := fun W b =>
  (sameN_any ⟨11, n.name, n.al, n.fs, n.sy, n.has, n.df, n.size, 0, n.br⟩ (Nd.z 11) W A2 A3 A4 A9 none none none none c2 c3 c4 c9 0 0 0 0 (Nd.out.2 ⟨_, _, _, _, _, _, _, _, rfl, l2, FlS.keep (Below.keeps b) (fun _ h => Nat.lt_of_lt_of_le h b.size) f2, l3, (r3.below b).more b.size, l4, FlS.keep (Below.keeps b) (fun _ h => Nat.lt_of_lt_of_le h b.size) f4, l9, (r9.below b).more b.size⟩) z_lies).mono fun _ _ g => told_tells g eqb_iff
 rw [hk]
 generalize ((⟨11, n.name, n.al, n.fs, n.sy, n.has, n.df, n.size, 0, n.br⟩ : Nd) = Nd.z 11) = P3 at *
 generalize n.ok s = Q at *
 clear h l2 f2 l3 r3 l4 f4 l9 r9 hs hN hL0 hk
 generalize s.nodes.length = ns at *
 generalize n.name = nm at *
 generalize n.al.length = e2 at *
 generalize n.fs.length = e3 at *
 generalize n.sy.length = e4 at *
 generalize n.br.length = e9 at *
 generalize n.has = hh at *
 generalize n.df = df at *
 generalize n.size = sz at *
 generalize n.items = im at *
 have NM : Hid (∀ W, Calls Tryz.prog 73 #[.int .i64 11] W (Sole (.bool false) W)) := fun W => by
  have := sNamed_pure 11 W
  rwa [show named 11 = false by decide] at this
 go_enter Tryz.func72, Tryz.ntmps72
 go_wp2_with fail
 with_reducible refine (NM.out _).mono ?_
 rintro e w1 ⟨rfl, rfl⟩
 go_wp2_with fail
 with_reducible refine (SN.out _ bqq).mono ?_
 rintro e w9 ⟨b, rfl, hb, b9⟩
 have bw9 : Below w.heap.size w w9 := bqq
 have HB9 := Lib.hid hb
 clear hb
 go_wp2_with fail
 go_ret
 exact ⟨b, rfl, HB9.out.trans OKI.out.symm, bw9⟩
theorem may_12 (s : Sc) (n : Nd) (hk : n.k = 12) (hs : n.sm) (w : World) (hL0 : LaidN w) (A A2 A3 A4 A9 : Option Addr) (c c2 c3 c4 c9 : Nat) (hN : RowD w (· < w.heap.size) 10 (s.nodes.map Nd.enc) A) (h : Lies w (· < w.heap.size) n.enc [.int .i64 n.k, .string n.name, .slice A2 n.al.length c2, .slice A3 n.fs.length c3, .slice A4 n.sy.length c4, .bool n.has, .string n.df, .int .i64 n.size, .int .i64 n.items, .slice A9 n.br.length c9]) :
 Calls Tryz.prog 72 #[.slice A s.nodes.length c, .agg #[.int .i64 n.k, .string n.name, .slice A2 n.al.length c2, .slice A3 n.fs.length c3, .slice A4 n.sy.length c4, .bool n.has, .string n.df, .int .i64 n.size, .int .i64 n.items, .slice A9 n.br.length c9]] w (Tells (n.ok s) w) := by
 have CS := cell_set
 have _u := And.intro hs.1 (And.intro hL0 hN)
 clear _u
 obtain ⟨_, _, _, _, _, _, _, _, e, l2, f2, l3, r3, l4, f4, l9, r9⟩ := Nd.out.1 h
 simp only [List.cons.injEq, Value.slice.injEq, true_and, and_true] at e
 obtain ⟨⟨rfl, rfl⟩, ⟨rfl, rfl⟩, ⟨rfl, rfl⟩, rfl, rfl⟩ := e
 have OKI := Lib.hid (ok_12 (s := s) hk)
 have SN : Hid (∀ W, Below w.heap.size w W → Calls Tryz.prog 125 #[.agg #[.int .i64 12, .string n.name, .slice A2 n.al.length c2, .slice A3 n.fs.length c3, .slice A4 n.sy.length c4, .bool n.has, .string n.df, .int .i64 n.size, .int .i64 0, .slice A9 n.br.length c9], .agg #[.int .i64 12, .string ⟨#[]⟩, .slice none 0 0, .slice none 0 0, .slice none 0 0, .bool false, .string ⟨#[]⟩, .int .i64 0, .int .i64 0, .slice none 0 0]] W (Tells ((⟨12, n.name, n.al, n.fs, n.sy, n.has, n.df, n.size, 0, n.br⟩ : Nd) = Nd.z 12) W)) := fun W b =>
  (sameN_any ⟨12, n.name, n.al, n.fs, n.sy, n.has, n.df, n.size, 0, n.br⟩ (Nd.z 12) W A2 A3 A4 A9 none none none none c2 c3 c4 c9 0 0 0 0 (Nd.out.2 ⟨_, _, _, _, _, _, _, _, rfl, l2, FlS.keep (Below.keeps b) (fun _ h => Nat.lt_of_lt_of_le h b.size) f2, l3, (r3.below b).more b.size, l4, FlS.keep (Below.keeps b) (fun _ h => Nat.lt_of_lt_of_le h b.size) f4, l9, (r9.below b).more b.size⟩) z_lies).mono fun _ _ g => told_tells g eqb_iff
 rw [hk]
 generalize ((⟨12, n.name, n.al, n.fs, n.sy, n.has, n.df, n.size, 0, n.br⟩ : Nd) = Nd.z 12) = P3 at *
 generalize n.ok s = Q at *
 clear h l2 f2 l3 r3 l4 f4 l9 r9 hs hN hL0 hk
 generalize s.nodes.length = ns at *
 generalize n.name = nm at *
 generalize n.al.length = e2 at *
 generalize n.fs.length = e3 at *
 generalize n.sy.length = e4 at *
 generalize n.br.length = e9 at *
 generalize n.has = hh at *
 generalize n.df = df at *
 generalize n.size = sz at *
 generalize n.items = im at *
 have NM : Hid (∀ W, Calls Tryz.prog 73 #[.int .i64 12] W (Sole (.bool false) W)) := fun W => by
  have := sNamed_pure 12 W
  rwa [show named 12 = false by decide] at this
 go_enter Tryz.func72, Tryz.ntmps72
 go_wp2_with fail
 with_reducible refine (NM.out _).mono ?_
 rintro e w1 ⟨rfl, rfl⟩
 go_wp2_with fail
 with_reducible refine (SN.out _ bqq).mono ?_
 rintro e w9 ⟨b, rfl, hb, b9⟩
 have bw9 : Below w.heap.size w w9 := bqq
 have HB9 := Lib.hid hb
 clear hb
 go_wp2_with fail
 go_ret
 exact ⟨b, rfl, HB9.out.trans OKI.out.symm, bw9⟩
theorem may_13 (s : Sc) (n : Nd) (hn : s.nodes.length ≤ 2500) (hkid : ∀ b ∈ n.br, 0 ≤ b ∧ b < (s.nodes.length : Int)) (hk : n.k = 13) (hs : n.sm) (w : World) (hL0 : LaidN w) (A A2 A3 A4 A9 : Option Addr) (c c2 c3 c4 c9 : Nat) (hN : RowD w (· < w.heap.size) 10 (s.nodes.map Nd.enc) A) (h : Lies w (· < w.heap.size) n.enc [.int .i64 n.k, .string n.name, .slice A2 n.al.length c2, .slice A3 n.fs.length c3, .slice A4 n.sy.length c4, .bool n.has, .string n.df, .int .i64 n.size, .int .i64 n.items, .slice A9 n.br.length c9]) :
 Calls Tryz.prog 72 #[.slice A s.nodes.length c, .agg #[.int .i64 n.k, .string n.name, .slice A2 n.al.length c2, .slice A3 n.fs.length c3, .slice A4 n.sy.length c4, .bool n.has, .string n.df, .int .i64 n.size, .int .i64 n.items, .slice A9 n.br.length c9]] w (Tells (n.ok s) w) := by
 have CS := cell_set
 have _u := And.intro hs.1 (And.intro hL0 hN)
 clear _u
 obtain ⟨_, _, _, _, _, _, _, _, e, l2, f2, l3, r3, l4, f4, l9, r9⟩ := Nd.out.1 h
 simp only [List.cons.injEq, Value.slice.injEq, true_and, and_true] at e
 obtain ⟨⟨rfl, rfl⟩, ⟨rfl, rfl⟩, ⟨rfl, rfl⟩, rfl, rfl⟩ := e
 have OKI := Lib.hid (ok_13 (s := s) hk)
 have UC := Lib.hid (fun W (b : Below w.heap.size w W) => union_any s hn n.br hkid W A A9 c c9 ((hN.below b).more b.size) ((r9.below b).more b.size) l9.1 hs.2.2.1)
 have SN : Hid (∀ W, Below w.heap.size w W → Calls Tryz.prog 125 #[.agg #[.int .i64 13, .string n.name, .slice A2 n.al.length c2, .slice A3 n.fs.length c3, .slice A4 n.sy.length c4, .bool n.has, .string n.df, .int .i64 n.size, .int .i64 n.items, .slice none 0 0], .agg #[.int .i64 13, .string ⟨#[]⟩, .slice none 0 0, .slice none 0 0, .slice none 0 0, .bool false, .string ⟨#[]⟩, .int .i64 0, .int .i64 0, .slice none 0 0]] W (Tells ((⟨13, n.name, n.al, n.fs, n.sy, n.has, n.df, n.size, n.items, []⟩ : Nd) = Nd.z 13) W)) := fun W b =>
  (sameN_any ⟨13, n.name, n.al, n.fs, n.sy, n.has, n.df, n.size, n.items, []⟩ (Nd.z 13) W A2 A3 A4 none none none none none c2 c3 c4 0 0 0 0 0 (Nd.out.2 ⟨_, _, _, _, _, _, _, _, rfl, l2, FlS.keep (Below.keeps b) (fun _ h => Nat.lt_of_lt_of_le h b.size) f2, l3, (r3.below b).more b.size, l4, FlS.keep (Below.keeps b) (fun _ h => Nat.lt_of_lt_of_le h b.size) f4, ⟨Nat.le_refl _, Nat.zero_le _⟩, RowD.nil_ _ _ _ _⟩) z_lies).mono fun _ _ g => told_tells g eqb_iff
 rw [hk]
 have H0 := Lib.hid (B10.newat (w := w) (t := 59) (x0 := .int .i64 13) (x1 := .string n.name) (x2 := .slice A2 n.al.length c2) (x3 := .slice A3 n.fs.length c3) (x4 := .slice A4 n.sy.length c4) (x5 := .bool n.has) (x6 := .string n.df) (x7 := .int .i64 n.size) (x8 := .int .i64 n.items) (x9 := .slice A9 n.br.length c9) rfl)
 generalize ((⟨13, n.name, n.al, n.fs, n.sy, n.has, n.df, n.size, n.items, []⟩ : Nd) = Nd.z 13) = P3 at *
 generalize unionOk s n.br = P2 at *
 generalize n.ok s = Q at *
 clear h l2 f2 l3 r3 l4 f4 l9 r9 hs hN hL0 hk hkid hn
 generalize s.nodes.length = ns at *
 generalize n.name = nm at *
 generalize n.al.length = e2 at *
 generalize n.fs.length = e3 at *
 generalize n.sy.length = e4 at *
 generalize n.br.length = e9 at *
 generalize n.has = hh at *
 generalize n.df = df at *
 generalize n.size = sz at *
 generalize n.items = im at *
 have NM : Hid (∀ W, Calls Tryz.prog 73 #[.int .i64 13] W (Sole (.bool false) W)) := fun W => by
  have := sNamed_pure 13 W
  rwa [show named 13 = false by decide] at this
 go_enter Tryz.func72, Tryz.ntmps72
 go_wp2_with fail
 with_reducible refine (NM.out _).mono ?_
 rintro e w1 ⟨rfl, rfl⟩
 go_wp2_with fail
 with_reducible refine (UC.out _ bqq).mono ?_
 rintro e w2 ⟨b, rfl, hb, b2⟩
 have h2 := Lib.hid (B10.below H0.out b2 (by simp))
 obtain ⟨_, _, _, _, _, _, _, _, _, _, _, _, _, _, _, _, _, _, _, _⟩ := B10.facts h2.out
 have bw2 : Below w.heap.size w w2 := bqq
 have HB1 := Lib.hid hb
 have zw2 := (h2.out).lt
 clear hb
 cases b with
 | false =>
  have Z : Hid (¬ Q) := fun q => by have := HB1.out.2 (OKI.out.1 q).1; simp at this
  go_wp2_with fail
  go_ret
  exact tells_no rfl Z.out bqq
 | true =>
  have Q3 : Hid (Q ↔ P3) := OKI.out.trans ⟨fun q => q.2, fun q => ⟨HB1.out.1 (by first | rfl | trivial), q⟩⟩
  go_wp2_with fail
  with_reducible refine (SN.out _ bqq).mono ?_
  rintro e w9 ⟨b, rfl, hb, b9⟩
  have bw9 : Below w.heap.size w w9 := bqq
  have HB9 := Lib.hid hb
  clear hb
  go_wp2_with fail
  go_ret
  exact ⟨b, rfl, HB9.out.trans Q3.out.symm, bw9⟩
theorem may_9 (s : Sc) (n : Nd) (hk : n.k = 9) (hs : n.sm) (w : World) (hL0 : LaidN w) (A A2 A3 A4 A9 : Option Addr) (c c2 c3 c4 c9 : Nat) (hN : RowD w (· < w.heap.size) 10 (s.nodes.map Nd.enc) A) (h : Lies w (· < w.heap.size) n.enc [.int .i64 n.k, .string n.name, .slice A2 n.al.length c2, .slice A3 n.fs.length c3, .slice A4 n.sy.length c4, .bool n.has, .string n.df, .int .i64 n.size, .int .i64 n.items, .slice A9 n.br.length c9]) :
 Calls Tryz.prog 72 #[.slice A s.nodes.length c, .agg #[.int .i64 n.k, .string n.name, .slice A2 n.al.length c2, .slice A3 n.fs.length c3, .slice A4 n.sy.length c4, .bool n.has, .string n.df, .int .i64 n.size, .int .i64 n.items, .slice A9 n.br.length c9]] w (Tells (n.ok s) w) := by
 have CS := cell_set
 have _u := And.intro hs.1 (And.intro hL0 hN)
 clear _u
 obtain ⟨_, _, _, _, _, _, _, _, e, l2, f2, l3, r3, l4, f4, l9, r9⟩ := Nd.out.1 h
 simp only [List.cons.injEq, Value.slice.injEq, true_and, and_true] at e
 obtain ⟨⟨rfl, rfl⟩, ⟨rfl, rfl⟩, ⟨rfl, rfl⟩, rfl, rfl⟩ := e
 have OKI := Lib.hid (ok_9 (s := s) hk)
 have CC := Lib.hid (fun W (b : Below w.heap.size w W) => called_any n hs W (hL0.below b) A2 A3 A4 A9 c2 c3 c4 c9 ((h.below b).more b.size))
 have RC : Hid (∀ W, Below w.heap.size w W → Calls Tryz.prog 123 #[.slice A3 n.fs.length c3] W (Tells (recOk n) W)) := fun W b => record_any n.fs hs.2.2.2.2.2.2 W (hL0.below b) A3 c3 ((r3.below b).more b.size) hs.2.1
 have SN : Hid (∀ W, Below w.heap.size w W → Calls Tryz.prog 125 #[.agg #[.int .i64 9, .string ⟨#[]⟩, .slice none 0 0, .slice none 0 0, .slice A4 n.sy.length c4, .bool n.has, .string n.df, .int .i64 n.size, .int .i64 n.items, .slice A9 n.br.length c9], .agg #[.int .i64 9, .string ⟨#[]⟩, .slice none 0 0, .slice none 0 0, .slice none 0 0, .bool false, .string ⟨#[]⟩, .int .i64 0, .int .i64 0, .slice none 0 0]] W (Tells ((⟨9, ⟨#[]⟩, [], [], n.sy, n.has, n.df, n.size, n.items, n.br⟩ : Nd) = Nd.z 9) W)) := fun W b =>
  (sameN_any ⟨9, ⟨#[]⟩, [], [], n.sy, n.has, n.df, n.size, n.items, n.br⟩ (Nd.z 9) W none none A4 A9 none none none none 0 0 c4 c9 0 0 0 0 (Nd.out.2 ⟨_, _, _, _, _, _, _, _, rfl, ⟨Nat.le_refl _, Nat.zero_le _⟩, .inl rfl, ⟨Nat.le_refl _, Nat.zero_le _⟩, RowD.nil_ _ _ _ _, l4, FlS.keep (Below.keeps b) (fun _ h => Nat.lt_of_lt_of_le h b.size) f4, l9, (r9.below b).more b.size⟩) z_lies).mono fun _ _ g => told_tells g eqb_iff
 rw [hk] at CC ⊢
 have H0 := Lib.hid (B10.newat (w := w) (t := 59) (x0 := .int .i64 9) (x1 := .string n.name) (x2 := .slice A2 n.al.length c2) (x3 := .slice A3 n.fs.length c3) (x4 := .slice A4 n.sy.length c4) (x5 := .bool n.has) (x6 := .string n.df) (x7 := .int .i64 n.size) (x8 := .int .i64 n.items) (x9 := .slice A9 n.br.length c9) rfl)
 generalize ((⟨9, ⟨#[]⟩, [], [], n.sy, n.has, n.df, n.size, n.items, n.br⟩ : Nd) = Nd.z 9) = P3 at *
 generalize recOk n = P2 at *
 generalize (okName n.name ∧ okFulls n.al) = P1 at *
 generalize n.ok s = Q at *
 clear h l2 f2 l3 r3 l4 f4 l9 r9 hs hN hL0 hk
 generalize s.nodes.length = ns at *
 generalize n.name = nm at *
 generalize n.al.length = e2 at *
 generalize n.fs.length = e3 at *
 generalize n.sy.length = e4 at *
 generalize n.br.length = e9 at *
 generalize n.has = hh at *
 generalize n.df = df at *
 generalize n.size = sz at *
 generalize n.items = im at *
 have NM : Hid (∀ W, Calls Tryz.prog 73 #[.int .i64 9] W (Sole (.bool true) W)) := fun W => by
  have := sNamed_pure 9 W
  rwa [show named 9 = true by decide] at this
 go_enter Tryz.func72, Tryz.ntmps72
 go_wp2_with fail
 with_reducible refine (NM.out _).mono ?_
 rintro e w1 ⟨rfl, rfl⟩
 go_wp2_with fail
 with_reducible refine (CC.out _ bqq).mono ?_
 rintro e w2 ⟨b, rfl, hb, b2⟩
 have h2 := Lib.hid (B10.below H0.out b2 (by simp))
 obtain ⟨_, _, _, _, _, _, _, _, _, _, _, _, _, _, _, _, _, _, _, _⟩ := B10.facts h2.out
 have bw2 : Below w.heap.size w w2 := bqq
 have HB1 := Lib.hid hb
 have zw2 := (h2.out).lt
 clear hb
 cases b with
 | false =>
  have Z : Hid (¬ Q) := fun q => by have := HB1.out.2 (OKI.out.1 q).1; simp at this
  go_wp2_with fail
  go_ret
  exact tells_no rfl Z.out bqq
 | true =>
  have T1 : Hid P1 := HB1.out.1 (by first | rfl | trivial)
  clear HB1
  go_wp2_with fail
  with_reducible refine (RC.out _ bqq).mono ?_
  rintro e w3 ⟨b, rfl, hb, b3⟩
  have h3 := Lib.hid (B10.below (B10.set2 (B10.set1 h2.out (.string ⟨#[]⟩)) (.slice none 0 0)) b3 (by simp [World.setCell]; omega))
  obtain ⟨_, _, _, _, _, _, _, _, _, _, _, _, _, _, _, _, _, _, _, _⟩ := B10.facts h3.out
  have bw3 : Below w.heap.size w w3 := bqq
  have HB2 := Lib.hid hb
  have zw3 := (h3.out).lt
  clear hb
  cases b with
  | false =>
   have Z : Hid (¬ Q) := fun q => by have := HB2.out.2 (OKI.out.1 q).2.1; simp at this
   go_wp2_with fail
   go_ret
   exact tells_no rfl Z.out bqq
  | true =>
   have Q3 : Hid (Q ↔ P3) := OKI.out.trans ⟨fun q => q.2.2, fun q => ⟨T1.out, HB2.out.1 (by first | rfl | trivial), q⟩⟩
   go_wp2_with fail
   with_reducible refine (SN.out _ bqq).mono ?_
   rintro e w9 ⟨b, rfl, hb, b9⟩
   have bw9 : Below w.heap.size w w9 := bqq
   have HB9 := Lib.hid hb
   clear hb
   go_wp2_with fail
   go_ret
   exact ⟨b, rfl, HB9.out.trans Q3.out.symm, bw9⟩
theorem may_10 (s : Sc) (n : Nd) (hk : n.k = 10) (hs : n.sm) (w : World) (hL0 : LaidN w) (A A2 A3 A4 A9 : Option Addr) (c c2 c3 c4 c9 : Nat) (hN : RowD w (· < w.heap.size) 10 (s.nodes.map Nd.enc) A) (h : Lies w (· < w.heap.size) n.enc [.int .i64 n.k, .string n.name, .slice A2 n.al.length c2, .slice A3 n.fs.length c3, .slice A4 n.sy.length c4, .bool n.has, .string n.df, .int .i64 n.size, .int .i64 n.items, .slice A9 n.br.length c9]) :
 Calls Tryz.prog 72 #[.slice A s.nodes.length c, .agg #[.int .i64 n.k, .string n.name, .slice A2 n.al.length c2, .slice A3 n.fs.length c3, .slice A4 n.sy.length c4, .bool n.has, .string n.df, .int .i64 n.size, .int .i64 n.items, .slice A9 n.br.length c9]] w (Tells (n.ok s) w) := by
 have CS := cell_set
 have _u := And.intro hs.1 (And.intro hL0 hN)
 clear _u
 obtain ⟨_, _, _, _, _, _, _, _, e, l2, f2, l3, r3, l4, f4, l9, r9⟩ := Nd.out.1 h
 simp only [List.cons.injEq, Value.slice.injEq, true_and, and_true] at e
 obtain ⟨⟨rfl, rfl⟩, ⟨rfl, rfl⟩, ⟨rfl, rfl⟩, rfl, rfl⟩ := e
 have OKI := Lib.hid (ok_10 (s := s) hk)
 have CC := Lib.hid (fun W (b : Below w.heap.size w W) => called_any n hs W (hL0.below b) A2 A3 A4 A9 c2 c3 c4 c9 ((h.below b).more b.size))
 have RC : Hid (∀ W, Below w.heap.size w W → Calls Tryz.prog 124 #[.agg #[.int .i64 10, .string ⟨#[]⟩, .slice none 0 0, .slice A3 n.fs.length c3, .slice A4 n.sy.length c4, .bool n.has, .string n.df, .int .i64 n.size, .int .i64 n.items, .slice A9 n.br.length c9]] W (Tells (enumOk n) W)) := fun W b =>
  enum_any ⟨10, ⟨#[]⟩, [], n.fs, n.sy, n.has, n.df, n.size, n.items, n.br⟩ ⟨Nat.zero_le _, hs.2.1, hs.2.2.1, hs.2.2.2.1, Nat.zero_le _, hs.2.2.2.2.2.1, hs.2.2.2.2.2.2⟩ W (hL0.below b) none A3 A4 A9 0 c3 c4 c9 (Nd.out.2 ⟨_, _, _, _, _, _, _, _, rfl, ⟨Nat.le_refl _, Nat.zero_le _⟩, .inl rfl, l3, (r3.below b).more b.size, l4, FlS.keep (Below.keeps b) (fun _ h => Nat.lt_of_lt_of_le h b.size) f4, l9, (r9.below b).more b.size⟩)
 have SN : Hid (∀ W, Below w.heap.size w W → Calls Tryz.prog 125 #[.agg #[.int .i64 10, .string ⟨#[]⟩, .slice none 0 0, .slice A3 n.fs.length c3, .slice none 0 0, .bool false, .string ⟨#[]⟩, .int .i64 n.size, .int .i64 n.items, .slice A9 n.br.length c9], .agg #[.int .i64 10, .string ⟨#[]⟩, .slice none 0 0, .slice none 0 0, .slice none 0 0, .bool false, .string ⟨#[]⟩, .int .i64 0, .int .i64 0, .slice none 0 0]] W (Tells ((⟨10, ⟨#[]⟩, [], n.fs, [], false, ⟨#[]⟩, n.size, n.items, n.br⟩ : Nd) = Nd.z 10) W)) := fun W b =>
  (sameN_any ⟨10, ⟨#[]⟩, [], n.fs, [], false, ⟨#[]⟩, n.size, n.items, n.br⟩ (Nd.z 10) W none A3 none A9 none none none none 0 c3 0 c9 0 0 0 0 (Nd.out.2 ⟨_, _, _, _, _, _, _, _, rfl, ⟨Nat.le_refl _, Nat.zero_le _⟩, .inl rfl, l3, (r3.below b).more b.size, ⟨Nat.le_refl _, Nat.zero_le _⟩, .inl rfl, l9, (r9.below b).more b.size⟩) z_lies).mono fun _ _ g => told_tells g eqb_iff
 rw [hk] at CC ⊢
 have H0 := Lib.hid (B10.newat (w := w) (t := 59) (x0 := .int .i64 10) (x1 := .string n.name) (x2 := .slice A2 n.al.length c2) (x3 := .slice A3 n.fs.length c3) (x4 := .slice A4 n.sy.length c4) (x5 := .bool n.has) (x6 := .string n.df) (x7 := .int .i64 n.size) (x8 := .int .i64 n.items) (x9 := .slice A9 n.br.length c9) rfl)
 generalize ((⟨10, ⟨#[]⟩, [], n.fs, [], false, ⟨#[]⟩, n.size, n.items, n.br⟩ : Nd) = Nd.z 10) = P3 at *
 generalize enumOk n = P2 at *
 generalize (okName n.name ∧ okFulls n.al) = P1 at *
 generalize n.ok s = Q at *
 clear h l2 f2 l3 r3 l4 f4 l9 r9 hs hN hL0 hk
 generalize s.nodes.length = ns at *
 generalize n.name = nm at *
 generalize n.al.length = e2 at *
 generalize n.fs.length = e3 at *
 generalize n.sy.length = e4 at *
 generalize n.br.length = e9 at *
 generalize n.has = hh at *
 generalize n.df = df at *
 generalize n.size = sz at *
 generalize n.items = im at *
 have NM : Hid (∀ W, Calls Tryz.prog 73 #[.int .i64 10] W (Sole (.bool true) W)) := fun W => by
  have := sNamed_pure 10 W
  rwa [show named 10 = true by decide] at this
 go_enter Tryz.func72, Tryz.ntmps72
 go_wp2_with fail
 with_reducible refine (NM.out _).mono ?_
 rintro e w1 ⟨rfl, rfl⟩
 go_wp2_with fail
 with_reducible refine (CC.out _ bqq).mono ?_
 rintro e w2 ⟨b, rfl, hb, b2⟩
 have h2 := Lib.hid (B10.below H0.out b2 (by simp))
 obtain ⟨_, _, _, _, _, _, _, _, _, _, _, _, _, _, _, _, _, _, _, _⟩ := B10.facts h2.out
 have bw2 : Below w.heap.size w w2 := bqq
 have HB1 := Lib.hid hb
 have zw2 := (h2.out).lt
 clear hb
 cases b with
 | false =>
  have Z : Hid (¬ Q) := fun q => by have := HB1.out.2 (OKI.out.1 q).1; simp at this
  go_wp2_with fail
  go_ret
  exact tells_no rfl Z.out bqq
 | true =>
  have T1 : Hid P1 := HB1.out.1 (by first | rfl | trivial)
  clear HB1
  go_wp2_with fail
  with_reducible refine (RC.out _ bqq).mono ?_
  rintro e w3 ⟨b, rfl, hb, b3⟩
  have h3 := Lib.hid (B10.below (B10.set2 (B10.set1 h2.out (.string ⟨#[]⟩)) (.slice none 0 0)) b3 (by simp [World.setCell]; omega))
  obtain ⟨_, _, _, _, _, _, _, _, _, _, _, _, _, _, _, _, _, _, _, _⟩ := B10.facts h3.out
  have bw3 : Below w.heap.size w w3 := bqq
  have HB2 := Lib.hid hb
  have zw3 := (h3.out).lt
  clear hb
  cases b with
  | false =>
   have Z : Hid (¬ Q) := fun q => by have := HB2.out.2 (OKI.out.1 q).2.1; simp at this
   go_wp2_with fail
   go_ret
   exact tells_no rfl Z.out bqq
  | true =>
   have Q3 : Hid (Q ↔ P3) := OKI.out.trans ⟨fun q => q.2.2, fun q => ⟨T1.out, HB2.out.1 (by first | rfl | trivial), q⟩⟩
   go_wp2_with fail
   with_reducible refine (SN.out _ bqq).mono ?_
   rintro e w9 ⟨b, rfl, hb, b9⟩
   have bw9 : Below w.heap.size w w9 := bqq
   have HB9 := Lib.hid hb
   clear hb
   go_wp2_with fail
   go_ret
   exact ⟨b, rfl, HB9.out.trans Q3.out.symm, bw9⟩
theorem may_14 (s : Sc) (n : Nd) (hk : n.k = 14) (hs : n.sm) (w : World) (hL0 : LaidN w) (A A2 A3 A4 A9 : Option Addr) (c c2 c3 c4 c9 : Nat) (hN : RowD w (· < w.heap.size) 10 (s.nodes.map Nd.enc) A) (h : Lies w (· < w.heap.size) n.enc [.int .i64 n.k, .string n.name, .slice A2 n.al.length c2, .slice A3 n.fs.length c3, .slice A4 n.sy.length c4, .bool n.has, .string n.df, .int .i64 n.size, .int .i64 n.items, .slice A9 n.br.length c9]) :
 Calls Tryz.prog 72 #[.slice A s.nodes.length c, .agg #[.int .i64 n.k, .string n.name, .slice A2 n.al.length c2, .slice A3 n.fs.length c3, .slice A4 n.sy.length c4, .bool n.has, .string n.df, .int .i64 n.size, .int .i64 n.items, .slice A9 n.br.length c9]] w (Tells (n.ok s) w) := by
 have CS := cell_set
 have _u := And.intro hs.1 (And.intro hL0 hN)
 clear _u
 obtain ⟨_, _, _, _, _, _, _, _, e, l2, f2, l3, r3, l4, f4, l9, r9⟩ := Nd.out.1 h
 simp only [List.cons.injEq, Value.slice.injEq, true_and, and_true] at e
 obtain ⟨⟨rfl, rfl⟩, ⟨rfl, rfl⟩, ⟨rfl, rfl⟩, rfl, rfl⟩ := e
 have OKI := Lib.hid (ok_14 (s := s) hk)
 have CC := Lib.hid (fun W (b : Below w.heap.size w W) => called_any n hs W (hL0.below b) A2 A3 A4 A9 c2 c3 c4 c9 ((h.below b).more b.size))
 have SN : Hid (∀ W, Below w.heap.size w W → Calls Tryz.prog 125 #[.agg #[.int .i64 14, .string ⟨#[]⟩, .slice none 0 0, .slice A3 n.fs.length c3, .slice A4 n.sy.length c4, .bool n.has, .string n.df, .int .i64 0, .int .i64 n.items, .slice A9 n.br.length c9], .agg #[.int .i64 14, .string ⟨#[]⟩, .slice none 0 0, .slice none 0 0, .slice none 0 0, .bool false, .string ⟨#[]⟩, .int .i64 0, .int .i64 0, .slice none 0 0]] W (Tells ((⟨14, ⟨#[]⟩, [], n.fs, n.sy, n.has, n.df, 0, n.items, n.br⟩ : Nd) = Nd.z 14) W)) := fun W b =>
  (sameN_any ⟨14, ⟨#[]⟩, [], n.fs, n.sy, n.has, n.df, 0, n.items, n.br⟩ (Nd.z 14) W none A3 A4 A9 none none none none 0 c3 c4 c9 0 0 0 0 (Nd.out.2 ⟨_, _, _, _, _, _, _, _, rfl, ⟨Nat.le_refl _, Nat.zero_le _⟩, .inl rfl, l3, (r3.below b).more b.size, l4, FlS.keep (Below.keeps b) (fun _ h => Nat.lt_of_lt_of_le h b.size) f4, l9, (r9.below b).more b.size⟩) z_lies).mono fun _ _ g => told_tells g eqb_iff
 rw [hk] at CC ⊢
 have H0 := Lib.hid (B10.newat (w := w) (t := 59) (x0 := .int .i64 14) (x1 := .string n.name) (x2 := .slice A2 n.al.length c2) (x3 := .slice A3 n.fs.length c3) (x4 := .slice A4 n.sy.length c4) (x5 := .bool n.has) (x6 := .string n.df) (x7 := .int .i64 n.size) (x8 := .int .i64 n.items) (x9 := .slice A9 n.br.length c9) rfl)
 generalize ((⟨14, ⟨#[]⟩, [], n.fs, n.sy, n.has, n.df, 0, n.items, n.br⟩ : Nd) = Nd.z 14) = P3 at *
 generalize (okName n.name ∧ okFulls n.al) = P1 at *
 generalize n.ok s = Q at *
 clear h l2 f2 l3 r3 l4 f4 l9 r9 hs hN hL0 hk
 generalize s.nodes.length = ns at *
 generalize n.name = nm at *
 generalize n.al.length = e2 at *
 generalize n.fs.length = e3 at *
 generalize n.sy.length = e4 at *
 generalize n.br.length = e9 at *
 generalize n.has = hh at *
 generalize n.df = df at *
 generalize n.size = sz at *
 generalize n.items = im at *
 have NM : Hid (∀ W, Calls Tryz.prog 73 #[.int .i64 14] W (Sole (.bool true) W)) := fun W => by
  have := sNamed_pure 14 W
  rwa [show named 14 = true by decide] at this
 go_enter Tryz.func72, Tryz.ntmps72
 go_wp2_with fail
 with_reducible refine (NM.out _).mono ?_
 rintro e w1 ⟨rfl, rfl⟩
 go_wp2_with fail
 with_reducible refine (CC.out _ bqq).mono ?_
 rintro e w2 ⟨b, rfl, hb, b2⟩
 have h2 := Lib.hid (B10.below H0.out b2 (by simp))
 obtain ⟨_, _, _, _, _, _, _, _, _, _, _, _, _, _, _, _, _, _, _, _⟩ := B10.facts h2.out
 have bw2 : Below w.heap.size w w2 := bqq
 have HB1 := Lib.hid hb
 have zw2 := (h2.out).lt
 clear hb
 cases b with
 | false =>
  have Z : Hid (¬ Q) := fun q => by have := HB1.out.2 (OKI.out.1 q).1; simp at this
  go_wp2_with fail
  go_ret
  exact tells_no rfl Z.out bqq
 | true =>
  have T1 : Hid P1 := HB1.out.1 (by first | rfl | trivial)
  clear HB1
  by_cases s0 : 0 ≤ sz
  · by_cases s1 : sz ≤ 1000
    · have Q3 : Hid (Q ↔ P3) := OKI.out.trans ⟨fun q => q.2.2, fun q => ⟨T1.out, ⟨s0, s1⟩, q⟩⟩
      go_wp2_with fail
      with_reducible refine (SN.out _ bqq).mono ?_
      rintro e w9 ⟨b, rfl, hb, b9⟩
      have bw9 : Below w.heap.size w w9 := bqq
      have HB9 := Lib.hid hb
      clear hb
      go_wp2_with fail
      go_ret
      exact ⟨b, rfl, HB9.out.trans Q3.out.symm, bw9⟩
    · have Z : Hid (¬ Q) := fun q => s1 (OKI.out.1 q).2.1.2
      go_wp2_with fail
      go_ret
      exact tells_no rfl Z.out bqq
  · have Z : Hid (¬ Q) := fun q => s0 (OKI.out.1 q).2.1.1
    go_wp2_with fail
    go_ret
    exact tells_no rfl Z.out bqq
theorem may_any (s : Sc) (n : Nd) (hn : s.nodes.length ≤ 2500) (hkid : ∀ b ∈ n.kids, 0 ≤ b ∧ b < (s.nodes.length : Int)) (hs : n.sm) (w : World) (hL0 : LaidN w) (A A2 A3 A4 A9 : Option Addr) (c c2 c3 c4 c9 : Nat) (hN : RowD w (· < w.heap.size) 10 (s.nodes.map Nd.enc) A) (h : Lies w (· < w.heap.size) n.enc [.int .i64 n.k, .string n.name, .slice A2 n.al.length c2, .slice A3 n.fs.length c3, .slice A4 n.sy.length c4, .bool n.has, .string n.df, .int .i64 n.size, .int .i64 n.items, .slice A9 n.br.length c9]) :
 Calls Tryz.prog 72 #[.slice A s.nodes.length c, .agg #[.int .i64 n.k, .string n.name, .slice A2 n.al.length c2, .slice A3 n.fs.length c3, .slice A4 n.sy.length c4, .bool n.has, .string n.df, .int .i64 n.size, .int .i64 n.items, .slice A9 n.br.length c9]] w (Tells (n.ok s) w) := by
 by_cases h1 : 1 ≤ n.k ∧ n.k ≤ 8
 · exact may_prim s n h1 hs w hL0 A A2 A3 A4 A9 c c2 c3 c4 c9 hN h
 · by_cases h2 : n.k < 1 ∨ 14 < n.k
   · exact may_other s n h2 hs w hL0 A A2 A3 A4 A9 c c2 c3 c4 c9 hN h
   · by_cases k9 : n.k = 9
     · exact may_9 s n k9 hs w hL0 A A2 A3 A4 A9 c c2 c3 c4 c9 hN h
     · by_cases k10 : n.k = 10
       · exact may_10 s n k10 hs w hL0 A A2 A3 A4 A9 c c2 c3 c4 c9 hN h
       · by_cases k11 : n.k = 11
         · exact may_11 s n k11 hs w hL0 A A2 A3 A4 A9 c c2 c3 c4 c9 hN h
         · by_cases k12 : n.k = 12
           · exact may_12 s n k12 hs w hL0 A A2 A3 A4 A9 c c2 c3 c4 c9 hN h
           · by_cases k13 : n.k = 13
             · exact may_13 s n hn (by unfold Nd.kids at hkid; rw [if_neg (by omega), if_neg (by omega), if_pos k13] at hkid; exact hkid) k13 hs w hL0 A A2 A3 A4 A9 c c2 c3 c4 c9 hN h
             · exact may_14 s n (by omega) hs w hL0 A A2 A3 A4 A9 c c2 c3 c4 c9 hN h
end Go.Proofs.YthfoomobicbcpaaGreatDoor
namespace Go.Proofs.YthfoomobicbcpaaGreatDoor
open Go.RowKit Mem
def Alike (v u : Value) : Prop := (∃ k n m, v = .int k n ∧ u = .int k m) ∨ (∃ s t, v = .string s ∧ u = .string t) ∨ u = v
structure Sim (S : Nat → Prop) (w w' : World) : Prop where
 os : w'.os = w.os
 tape : w'.tape = w.tape
 output : w'.output = w.output
 size : w'.heap.size = w.heap.size
 out : ∀ k, ¬ S k → w'.heap[k]? = w.heap[k]?
 fro : ∀ p, w'.frozen? p = w.frozen? p
 like : ∀ (g i : Nat) v, w.cell? ⟨g, i, none⟩ = some v → ∃ u, w'.cell? ⟨g, i, none⟩ = some u ∧ Alike v u
section
variable {S : Nat → Prop} {w w' : World}
theorem Sim.cell (h : Sim S w w') {p : Addr} (hp : ¬ S p.block) : w'.cell? p = w.cell? p := World.cell?_of_block (w := w) (h.out _ hp)
end
def Cp (sc : Sc) (w : World) (l h : Nat) (v : Value) : Prop :=
 ∃ A c, ∃ S : Nat → Prop, v = .agg #[.slice A sc.nodes.length c, .int .i64 sc.root] ∧ (∀ b, S b → l ≤ b ∧ b < h) ∧ Lies w S sc.enc [.slice A sc.nodes.length c, .int .i64 sc.root] ∧ ∀ p : Addr, S p.block → w.frozen? p = false
def Bx (w : World) (l h : Nat) (v : Value) : Prop :=
 v = .pointer (some ⟨l, 0, none⟩) ∧ h = l + 1 ∧ (∃ x, w.cell? ⟨l, 0, none⟩ = some x) ∧ (∃ x, w.cell? ⟨l, 1, none⟩ = some x) ∧ w.frozen? ⟨l, 0, none⟩ = false ∧ w.frozen? ⟨l, 1, none⟩ = false
def Hd (w : World) (l : Nat) (v : Value) : Prop := ∃ x y, v = .agg #[x, y] ∧ w.cell? ⟨l, 0, none⟩ = some x ∧ w.cell? ⟨l, 1, none⟩ = some y
structure Side (sc : Sc) (base : Nat) (w : World) (bc bb bs : Bool) (vc vb : Value) (lc hc lb hb : Nat) : Prop where
 cp : bc = true → Cp sc w lc hc vc ∧ base ≤ lc
 bx : bb = true → Bx w lb hb vb ∧ base ≤ lb
 hd : bs = true → bc = true ∧ bb = true ∧ Hd w lb vc
 szc : hc ≤ w.heap.size
 szb : hb ≤ w.heap.size
 ap : hc ≤ lb ∨ hb ≤ lc
structure Sides (sc : Sc) (base : Nat) (w0 w : World) (bc bb bs : Bool) (vc vb : Value) (lc hc lb hb : Nat) (dc db ds : Bool) (uc ub : Value) (mc kc mb kb : Nat) : Prop where
 bel : Below base w0 w
 one : Side sc base w bc bb bs vc vb lc hc lb hb
 two : Side sc base w dc db ds uc ub mc kc mb kb
 cc : hc ≤ mc ∨ kc ≤ lc
 cb : hc ≤ mb ∨ kb ≤ lc
 bc_ : hb ≤ mc ∨ kc ≤ lb
 bb_ : hb ≤ mb ∨ kb ≤ lb
end Go.Proofs.YthfoomobicbcpaaGreatDoor
namespace Go.Proofs.YthfoomobicbcpaaGreatDoor
open Go.ChangeShapes Go.WideShapes Go.ChangeAt Go.RowKit Mem
theorem kwt_len : ∀ (l : List ByteArray), l.length ≤ kwt l
 | [] => Nat.zero_le _
 | k :: r => by have := kwt_len r; simp only [List.length_cons, kwt]; omega
def nmsOf (l : List Nd) : List ByteArray := (l.filter fun n => named n.k).map Nd.name
theorem nmsOf_len (l : List Nd) : (nmsOf l).length ≤ l.length := by unfold nmsOf; rw [List.length_map]; exact List.length_filter_le _ _
theorem nmsOf_in {l : List Nd} {t : ByteArray} (h : t ∈ nmsOf l) : ∃ n ∈ l, n.name = t := by
 unfold nmsOf at h
 obtain ⟨n, hn, e⟩ := List.mem_map.1 h
 exact ⟨n, (List.mem_filter.1 hn).1, e⟩
theorem nmsOf_snoc (l : List Nd) (n : Nd) : nmsOf (l ++ [n]) = nmsOf l ++ (if named n.k = true then [n.name] else []) := by
 unfold nmsOf
 rw [List.filter_append, List.map_append, List.filter_cons]
 split <;> simp_all
theorem sRightT_any (sc : Sc) (hs : sc.sm) (w : World) (hL0 : LaidN w) (A : Option Addr) (c : Nat) (h : Lies w (· < w.heap.size) sc.enc [.slice A sc.nodes.length c, .int .i64 sc.root]) :
 Calls Tryz.prog 35 #[.agg #[.slice A sc.nodes.length c, .int .i64 sc.root]] w (Tells sc.right w) := by
 have CS := cell_set
 have OR := Lib.hid (fun W b => sOrdered_any sc hs W A c (h.on b : Lies W (· < W.heap.size) sc.enc _))
 obtain ⟨_, _, e, la, ra⟩ := Sc.out.1 h
 simp only [List.cons.injEq, Value.slice.injEq, true_and, and_true] at e
 obtain ⟨rfl, rfl⟩ := e
 have n25 : sc.nodes.length ≤ 2500 := hs.1
 have RA := Lib.hid ra; have HL := Lib.hid hL0; have HS := Lib.hid hs
 have LT : Hid (sc.ordered → ∀ W, Below w.heap.size w W → Calls Tryz.prog 75 #[.slice A sc.nodes.length c] W (Tells (∀ i, i < sc.nodes.length → sc.wt i ≤ 1000) W)) := fun o W b => sLight_any sc hs (kids_in o) W A c ((RA.out.below b).more b.size)
 have MY : Hid (∀ m, m = sc.nodes.length → sc.ordered → ∀ (i : Nat) (hi : i < sc.nodes.length) (W : World), Below w.heap.size w W → ∀ (X2 X3 X4 X9 : Option Addr) (x2 x3 x4 x9 : Nat), Lies W (· < W.heap.size) (sc.nodes[i]'hi).enc [.int .i64 (sc.nodes[i]'hi).k, .string (sc.nodes[i]'hi).name, .slice X2 (sc.nodes[i]'hi).al.length x2, .slice X3 (sc.nodes[i]'hi).fs.length x3, .slice X4 (sc.nodes[i]'hi).sy.length x4, .bool (sc.nodes[i]'hi).has, .string (sc.nodes[i]'hi).df, .int .i64 (sc.nodes[i]'hi).size, .int .i64 (sc.nodes[i]'hi).items, .slice X9 (sc.nodes[i]'hi).br.length x9] →
  Calls Tryz.prog 72 #[.slice A m c, .agg #[.int .i64 (sc.nodes[i]'hi).k, .string (sc.nodes[i]'hi).name, .slice X2 (sc.nodes[i]'hi).al.length x2, .slice X3 (sc.nodes[i]'hi).fs.length x3, .slice X4 (sc.nodes[i]'hi).sy.length x4, .bool (sc.nodes[i]'hi).has, .string (sc.nodes[i]'hi).df, .int .i64 (sc.nodes[i]'hi).size, .int .i64 (sc.nodes[i]'hi).items, .slice X9 (sc.nodes[i]'hi).br.length x9]] W (Tells ((sc.nodes[i]'hi).ok sc) W)) := fun m hm o i hi W b X2 X3 X4 X9 x2 x3 x4 x9 hh => by
  subst hm
  exact may_any sc _ hs.1 (fun k hk => kids_in o i hi k (by unfold Sc.kidsAt; rw [List.getElem?_eq_getElem hi]; exact hk)) (hs.2 i hi) W (HL.out.below b) A X2 X3 X4 X9 c x2 x3 x4 x9 ((RA.out.below b).more b.size) hh
 obtain ⟨Q, hQ⟩ : ∃ Q : Prop, Q = sc.right := ⟨_, rfl⟩
 have HQ : Hid (Q ↔ sc.ordered ∧ (∀ n ∈ sc.nodes, n.ok sc) ∧ (∀ i, i < sc.nodes.length → sc.wt i ≤ 1000) ∧ (nmsOf sc.nodes).Nodup) := by show _ ↔ _; rw [hQ]; exact Iff.rfl
 rw [← hQ]
 have H0 := Lib.hid (B2.newat (w := w) (t := 30) (x0 := .slice A sc.nodes.length c) (x1 := .int .i64 sc.root) rfl)
 have GZ : Hid ((w.alloc (.cells #[.slice A sc.nodes.length c, .int .i64 sc.root] 30)).heap.size = w.heap.size + 1) := by show _ = _; simp
 have W1 : Hid (Below w.heap.size w (w.alloc (.cells #[.slice A sc.nodes.length c, .int .i64 sc.root] 30))) := (Below.refl _ _).alloc (Nat.le_refl _) _
 obtain ⟨ns, hns⟩ : ∃ n, n = sc.nodes.length := ⟨_, rfl⟩
 have HNS := Lib.hid hns
 generalize hrt : sc.root = rt at *
 rw [← hns] at n25 OR LT H0 GZ W1 ⊢
 clear h la ra hs hQ hL0 hns
 go_enter Tryz.func35, Tryz.ntmps35
 go_wp2_with fail
 with_reducible refine (OR.out _ W1.out).mono ?_
 rintro e w2 ⟨b, rfl, hb, b2⟩
 rw [GZ.out] at b2
 have h2 := Lib.hid (B2.below H0.out b2 (Nat.lt_succ_self _))
 obtain ⟨_, _, _, _⟩ := B2.facts h2.out
 have bw2 : Below w.heap.size w w2 := W1.out.trans (b2.mono (Nat.le_succ _))
 have HB1 := Lib.hid hb
 clear hb
 cases b with
 | false =>
  have Z : Hid (¬ Q) := fun q => by have := HB1.out.2 (HQ.out.1 q).1; simp at this
  go_wp2_with fail
  go_ret
  exact tells_no rfl Z.out bw2
 | true =>
  have ORD : Hid sc.ordered := HB1.out.1 (by first | rfl | trivial)
  have LTO := Lib.hid (LT.out ORD.out)
  have MYO := Lib.hid (MY.out ns HNS.out ORD.out)
  clear LT MY OR HB1
  go_wp2_with fail
  go_loopw [12, 3] (fun t v wr => ∃ j : Nat, j ≤ ns ∧ t = .int .i64 (j : Int) ∧ Hid (∀ i (h : i < sc.nodes.length), i < j → (sc.nodes[i]'h).ok sc) ∧ Hid (GatS wr (w.heap.size + 1) 9 1 v ((nmsOf (sc.nodes.take j)).map D.s)) ∧ Hid (Below (w.heap.size + 1) (w.alloc (.cells #[.slice A ns c, .int .i64 rt] 30)) wr)) (fun t _ _ => ns - (intOf t).toNat)
  case atStart => exact ⟨0, Nat.zero_le _, rfl, (fun i h g => absurd g (Nat.not_lt_zero _)), GatS.none_ _ _ _ _, b2⟩
  case round =>
   obtain ⟨j, hj, rfl, HI, HG, bl⟩ := hrel
   have bl2 := bl.out
   have z := bl2.size
   rw [GZ.out] at z
   have bw : Below w.heap.size w wr := W1.out.trans (bl2.mono (Nat.le_succ _))
   have zlt : w.heap.size < wr.heap.size := by omega
   have hb := Lib.hid (B2.below H0.out bl2 (Nat.lt_succ_self _))
   obtain ⟨_, _, _, _⟩ := B2.facts hb.out
   by_cases hjn : j < ns
   · have h1 : j < sc.nodes.length := by rw [← HNS.out]; exact hjn
     have q : (j : Int) < (ns : Int) := by omega
     obtain ⟨b1', o1, X2, x2, X3, x3, X4, x4, X9, x9, e1, hb1, ⟨y0, y1, y2, y3, y4, y5, y6, y7, y8, y9⟩, lx⟩ := nodes_at (RA.out.below bw) h1
     have lb1 : b1' < wr.heap.size := by omega
     have MC : Hid (∀ W, Below wr.heap.size wr W → Calls Tryz.prog 72 #[.slice A ns c, .agg #[.int .i64 (sc.nodes[j]'h1).k, .string (sc.nodes[j]'h1).name, .slice X2 (sc.nodes[j]'h1).al.length x2, .slice X3 (sc.nodes[j]'h1).fs.length x3, .slice X4 (sc.nodes[j]'h1).sy.length x4, .bool (sc.nodes[j]'h1).has, .string (sc.nodes[j]'h1).df, .int .i64 (sc.nodes[j]'h1).size, .int .i64 (sc.nodes[j]'h1).items, .slice X9 (sc.nodes[j]'h1).br.length x9]] W (Tells ((sc.nodes[j]'h1).ok sc) W)) := fun W b =>
      MYO.out j h1 W (bw.trans (b.mono (by omega))) X2 X3 X4 X9 x2 x3 x4 x9 (((lx.more (by omega : w.heap.size ≤ wr.heap.size)).below b).more b.size)
     have TK : Hid (nmsOf (sc.nodes.take (j + 1)) = nmsOf (sc.nodes.take j) ++ (if named (sc.nodes[j]'h1).k = true then [(sc.nodes[j]'h1).name] else [])) := by
      show _ = _
      rw [List.take_succ_eq_append_getElem h1, nmsOf_snoc]
     have NOK : Hid (¬ (sc.nodes[j]'h1).ok sc → ¬ Q) := fun e q => e ((HQ.out.1 q).2.1 _ (List.getElem_mem h1))
     have NX : Hid ((sc.nodes[j]'h1).ok sc → ∀ i (h : i < sc.nodes.length), i < j + 1 → (sc.nodes[i]'h).ok sc) := fun e i h g => by
      rcases Nat.lt_or_ge i j with k | k
      · exact HI.out i h k
      · obtain rfl : i = j := by omega
        exact e
     generalize hT : sc.nodes[j]'h1 = T at *
     generalize hO : T.ok sc = OK at *
     have NM := Lib.hid (sNamed_pure T.k)
     have N0 := Lib.hid (B10.newat (w := wr) (t := 59) (x0 := .int .i64 T.k) (x1 := .string T.name) (x2 := .slice X2 T.al.length x2) (x3 := .slice X3 T.fs.length x3) (x4 := .slice X4 T.sy.length x4) (x5 := .bool T.has) (x6 := .string T.df) (x7 := .int .i64 T.size) (x8 := .int .i64 T.items) (x9 := .slice X9 T.br.length x9) rfl)
     subst e1
     clear h1 lx hT hO HI
     go_wp2_with fail
     with_reducible refine (MC.out _ bqq).mono ?_
     rintro e w3 ⟨b, rfl, hbb, b3⟩
     have n3 := Lib.hid (B10.below N0.out b3 (by simp))
     obtain ⟨_, _, _, _, _, _, _, _, _, _, _, _, _, _, _, _, _, _, _, _⟩ := B10.facts n3.out
     have bx3 : Below wr.heap.size wr w3 := bqq
     have bw3 : Below w.heap.size w w3 := bw.trans (bx3.mono (by omega))
     have bl3 : Below (w.heap.size + 1) (w.alloc (.cells #[.slice (some ⟨b1', o1, none⟩) ns c, .int .i64 rt] 30)) w3 := bl2.trans (bx3.mono z)
     have HB2 := Lib.hid hbb
     clear hbb
     cases b with
     | false =>
      have Z : Hid (¬ Q) := NOK.out (fun o => by have := HB2.out.2 o; simp at this)
      go_wp2_with fail
      go_ret
      exact tells_no rfl Z.out bw3
     | true =>
      have HI2 := Lib.hid (NX.out (HB2.out.1 (by first | rfl | trivial)))
      clear HB2 NX NOK
      cases hnm : named T.k with
      | false =>
       rw [hnm] at NM TK
       have TK2 : Hid (nmsOf (sc.nodes.take (j + 1)) = nmsOf (sc.nodes.take j)) := by show _ = _; rw [TK.out, if_neg (by decide), List.append_nil]
       have HG2 := Lib.hid (HG.out.below bx3)
       clear hnm TK HG
       go_wp2_with fail
       with_reducible refine (NM.out _).mono ?_
       rintro e w4 ⟨rfl, rfl⟩
       go_wp2_with fail
       go_roundw
       case rel => exact ⟨j + 1, by omega, by go_num, HI2, by rw [TK2.out]; exact HG2, bl3⟩
       case measure => simp [intOf]; omega
      | true =>
       rw [hnm] at NM TK
       have TK2 : Hid ((nmsOf (sc.nodes.take (j + 1))).map D.s = (nmsOf (sc.nodes.take j)).map D.s ++ [D.s T.name]) := by show _ = _; rw [TK.out, if_pos rfl, List.map_append]; rfl
       have LJ : Hid (((nmsOf (sc.nodes.take j)).map D.s).length ≤ 2500) := by
        show _ ≤ _
        have a := nmsOf_len (sc.nodes.take j)
        have b : (sc.nodes.take j).length ≤ j := by rw [List.length_take]; omega
        rw [List.length_map]; omega
       have ND : Hid (NewD w3 wr.heap.size (D.s T.name) [.string T.name]) := ⟨fun _ => False, fun _ h => h.elim, lies_s.2 rfl, fun _ h => h.elim⟩
       clear hnm TK
       go_wp2_with fail
       with_reducible refine (NM.out _).mono ?_
       rintro e w4 ⟨rfl, rfl⟩
       go_wp2_with (at_builtin; refine wpList_gat _ textT rfl (.tmp 24) (.tmp 27) rfl (w.heap.size + 1) u3 _ rfl wr HG.out bx3 1 #[.string T.name] rfl rfl (by simp [Value.oneCell']) (by have := LJ.out; omega) z _ ND.out ?_; intro v3 w5 g3 b5)
       go_roundw
       case rel => exact ⟨j + 1, by omega, by go_num, HI2, by rw [TK2.out]; exact g3, bl3.trans b5⟩
       case measure => simp [intOf]; omega
   · obtain rfl : j = ns := by omega
     have q : ¬ (j : Int) < (j : Int) := by omega
     have TK : sc.nodes.take j = sc.nodes := by rw [HNS.out, List.take_length]
     rw [TK] at HG
     obtain ⟨A', c', rfl, hc, S, hS, hr, _⟩ := HG.out.done
     have FL := row_strs.1 hr
     have LN : ((nmsOf sc.nodes).map D.s).length = (nmsOf sc.nodes).length := List.length_map ..
     have LN2 := nmsOf_len sc.nodes
     have SZ : ∀ i (h : i < (nmsOf sc.nodes).length), ((nmsOf sc.nodes)[i]'h).size ≤ 2500 := fun i h => by
      obtain ⟨n, hn, e⟩ := nmsOf_in (List.getElem_mem h)
      obtain ⟨k, hk, rfl⟩ := List.getElem_of_mem hn
      rw [← e]; exact (HS.out.2 k hk).1
     have CF := Lib.hid ((differ_any A' c' (nmsOf sc.nodes) (nmsOf sc.nodes).length rfl wr (FlS.keep (fun _ _ => rfl) (fun g hg => (hS _ hg).2) FL) (by have := HNS.out; omega) (fun i h => by have := SZ i h; omega)).mono fun _ _ g => told_tells g nodupb_iff)
     have QX : Hid (Q ↔ (nmsOf sc.nodes).Nodup ∧ (∀ i, i < j → sc.wt i ≤ 1000)) := HQ.out.trans ⟨fun q => ⟨q.2.2.2, by rw [HNS.out]; exact q.2.2.1⟩, fun q => ⟨ORD.out, fun n hn => by obtain ⟨i, hi, rfl⟩ := List.getElem_of_mem hn; exact HI.out i hi (by rw [HNS.out]; exact hi), by rw [← HNS.out]; exact q.2, q.1⟩⟩
     have LTW := Lib.hid LTO.out
     rw [LN]
     clear SZ LN LN2 FL hr hS HI HG TK LTO MYO
     generalize (nmsOf sc.nodes).Nodup = O1 at *
     generalize (∀ i, i < j → sc.wt i ≤ 1000) = O2 at *
     generalize (nmsOf sc.nodes).length = nn at *
     go_wp2_with fail
     with_reducible refine CF.out.mono ?_
     rintro e w3 ⟨b, rfl, hbb, b3⟩
     have n3 := Lib.hid (B2.below hb.out b3 (by omega))
     obtain ⟨_, _, _, _⟩ := B2.facts n3.out
     have bw3 : Below w.heap.size w w3 := bw.trans (b3.mono (by omega))
     have HB2 := Lib.hid hbb
     clear hbb
     cases b with
     | false =>
      have Z : Hid (¬ Q) := fun q => by have := HB2.out.2 (QX.out.1 q).1; simp at this
      go_wp2_with fail
      go_ret
      exact tells_no rfl Z.out bw3
     | true =>
      have QY : Hid (Q ↔ O2) := QX.out.trans ⟨fun q => q.2, fun q => ⟨HB2.out.1 (by first | rfl | trivial), q⟩⟩
      go_wp2_with fail
      with_reducible refine (LTW.out _ bw3).mono ?_
      rintro e w4 ⟨b, rfl, hbb, b4⟩
      have bw4 : Below w.heap.size w w4 := bw3.trans (b4.mono bw3.size)
      have HB3 := Lib.hid hbb
      clear hbb
      go_wp2_with fail
      go_ret
      exact ⟨b, rfl, HB3.out.trans QY.out.symm, bw4⟩
end Go.Proofs.YthfoomobicbcpaaGreatDoor
