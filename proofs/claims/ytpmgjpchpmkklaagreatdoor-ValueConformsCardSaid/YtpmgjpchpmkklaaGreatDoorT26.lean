/- Joined by tools/bundle.py: R11F R11G R11H R11I. -/
import Derived.Lib.SliceRun
import Derived.Deep.LoopGhost
import Derived.Test.YtpmgjpchpmkklaaGreatDoorT5
import Derived.Test.YtpmgjpchpmkklaaGreatDoorT25
import Derived.Test.YtpmgjpchpmkklaaGreatDoorT0
set_option maxRecDepth 100000
set_option maxHeartbeats 16000000
namespace Go.Proofs.YtpmgjpchpmkklaaGreatDoor
open Go.ChangeShapes Go.WideShapes Go.ChangeAt Go.RowKit Mem
theorem ris_6 (p nn : Nat) (hp : p < nn) (rt n bt : Int) (nb ni nk : Nat) (A3 A4 A5 : Option Addr) (c3 c4 c5 : Nat) (nm df : ByteArray) (l2 l3 l4 l9 x2 x3 x4 x9 : Nat) (X2 X3 X4 X9 : Option Addr) (hs : Bool) (sz it : Int) (b1 o1 c : Nat) (w : World) (lb1 : b1 < w.heap.size)
 (y0 : w.cell? ⟨b1, o1 + p * 10, none⟩ = some (.int .i64 6)) (y1 : w.cell? ⟨b1, o1 + p * 10 + 1, none⟩ = some (.string nm)) (y2 : w.cell? ⟨b1, o1 + p * 10 + 2, none⟩ = some (.slice X2 l2 x2)) (y3 : w.cell? ⟨b1, o1 + p * 10 + 3, none⟩ = some (.slice X3 l3 x3)) (y4 : w.cell? ⟨b1, o1 + p * 10 + 4, none⟩ = some (.slice X4 l4 x4))
 (y5 : w.cell? ⟨b1, o1 + p * 10 + 5, none⟩ = some (.bool hs)) (y6 : w.cell? ⟨b1, o1 + p * 10 + 6, none⟩ = some (.string df)) (y7 : w.cell? ⟨b1, o1 + p * 10 + 7, none⟩ = some (.int .i64 sz)) (y8 : w.cell? ⟨b1, o1 + p * 10 + 8, none⟩ = some (.int .i64 it)) (y9 : w.cell? ⟨b1, o1 + p * 10 + 9, none⟩ = some (.slice X9 l9 x9)) (R : Prop) (hR : R ↔ nb ≤ 20000 ∧ ni ≤ 300 ∧ VJust 6 n bt nb ni nk) :
 Calls Tryz.prog 15 #[.agg #[.slice (some ⟨b1, o1, none⟩) nn c, .int .i64 rt], .int .i64 (p : Int), .agg #[.int .i64 6, .int .i64 n, .int .u64 bt, .slice A3 nb c3, .slice A4 ni c4, .slice A5 nk c5]] w (Tells R w) := by
 have CS := cell_set
 have q : (p : Int) < (nn : Int) := by omega
 have HR := Lib.hid hR
 have PJ : Hid (VJust 6 n bt nb ni nk ↔ n = 0 ∧ nb = 0 ∧ ni = 0 ∧ nk = 0) := by show _ ↔ _; unfold VJust; omega
 clear hR
 by_cases hb : (20000 : Int) < (nb : Int)
 · have qb : decide ((20000 : Int) < (nb : Int)) = true := by simpa using hb
   have Z : Hid (¬ R) := fun r => by have := (HR.out.1 r).1; omega
   clear hb HR PJ
   go_enter Tryz.func15, Tryz.ntmps15
   go_wp2_with fail
   go_ret
   exact tells_no (by first | rfl | (simp; omega)) Z.out bqq
 have qb : decide ((20000 : Int) < (nb : Int)) = false := by simpa using hb
 by_cases hi : (300 : Int) < (ni : Int)
 · have qi : decide ((300 : Int) < (ni : Int)) = true := by simpa using hi
   have Z : Hid (¬ R) := fun r => by have := (HR.out.1 r).2.1; omega
   clear hb hi HR PJ
   go_enter Tryz.func15, Tryz.ntmps15
   go_wp2_with fail
   go_ret
   exact tells_no (by first | rfl | (simp; omega)) Z.out bqq
 have qi : decide ((300 : Int) < (ni : Int)) = false := by simpa using hi
 have HB : Hid (nb ≤ 20000 ∧ ni ≤ 300) := ⟨by omega, by omega⟩
 clear hb hi
 by_cases g0 : n = 0
 rotate_left
 · have e0a : ((0 : Int) == n) = false := by rw [beq_eq_false_iff_ne]; omega
   have Z : Hid (¬ R) := fun r => g0 (PJ.out.1 (HR.out.1 r).2.2).1
   clear g0 HR PJ 
   go_enter Tryz.func15, Tryz.ntmps15
   go_wp2_with fail
   go_ret
   exact tells_no (by first | rfl | (simp; omega)) Z.out bqq
 have e0a : ((0 : Int) == n) = true := by rw [beq_iff_eq]; omega
 by_cases g1 : nb = 0
 rotate_left
 · have e1a : ((0 : Int) == (nb : Int)) = false := by rw [beq_eq_false_iff_ne]; omega
   have Z : Hid (¬ R) := fun r => g1 (PJ.out.1 (HR.out.1 r).2.2).2.1
   clear g1 HR PJ g0
   go_enter Tryz.func15, Tryz.ntmps15
   go_wp2_with fail
   go_ret
   exact tells_no (by first | rfl | (simp; omega)) Z.out bqq
 have e1a : ((0 : Int) == (nb : Int)) = true := by rw [beq_iff_eq]; omega
 by_cases g2 : ni = 0
 rotate_left
 · have e2a : ((0 : Int) == (ni : Int)) = false := by rw [beq_eq_false_iff_ne]; omega
   have Z : Hid (¬ R) := fun r => g2 (PJ.out.1 (HR.out.1 r).2.2).2.2.1
   clear g2 HR PJ g0 g1
   go_enter Tryz.func15, Tryz.ntmps15
   go_wp2_with fail
   go_ret
   exact tells_no (by first | rfl | (simp; omega)) Z.out bqq
 have e2a : ((0 : Int) == (ni : Int)) = true := by rw [beq_iff_eq]; omega
 by_cases g3 : nk = 0
 rotate_left
 · have e3a : ((0 : Int) == (nk : Int)) = false := by rw [beq_eq_false_iff_ne]; omega
   have Z : Hid (¬ R) := fun r => g3 (PJ.out.1 (HR.out.1 r).2.2).2.2.2
   clear g3 HR PJ g0 g1 g2
   go_enter Tryz.func15, Tryz.ntmps15
   go_wp2_with fail
   go_ret
   exact tells_no (by first | rfl | (simp; omega)) Z.out bqq
 have e3a : ((0 : Int) == (nk : Int)) = true := by rw [beq_iff_eq]; omega
 have Z : Hid R := HR.out.2 ⟨HB.out.1, HB.out.2, PJ.out.2 ⟨g0, g1, g2, g3⟩⟩
 clear HR PJ g0 g1 g2 g3
 go_enter Tryz.func15, Tryz.ntmps15
 go_wp2_with fail
 go_ret
 exact tells_yes (by first | rfl | (simp; omega)) Z.out bqq
theorem ris_7 (p nn : Nat) (hp : p < nn) (rt n bt : Int) (nb ni nk : Nat) (A3 A4 A5 : Option Addr) (c3 c4 c5 : Nat) (nm df : ByteArray) (l2 l3 l4 l9 x2 x3 x4 x9 : Nat) (X2 X3 X4 X9 : Option Addr) (hs : Bool) (sz it : Int) (b1 o1 c : Nat) (w : World) (lb1 : b1 < w.heap.size)
 (y0 : w.cell? ⟨b1, o1 + p * 10, none⟩ = some (.int .i64 7)) (y1 : w.cell? ⟨b1, o1 + p * 10 + 1, none⟩ = some (.string nm)) (y2 : w.cell? ⟨b1, o1 + p * 10 + 2, none⟩ = some (.slice X2 l2 x2)) (y3 : w.cell? ⟨b1, o1 + p * 10 + 3, none⟩ = some (.slice X3 l3 x3)) (y4 : w.cell? ⟨b1, o1 + p * 10 + 4, none⟩ = some (.slice X4 l4 x4))
 (y5 : w.cell? ⟨b1, o1 + p * 10 + 5, none⟩ = some (.bool hs)) (y6 : w.cell? ⟨b1, o1 + p * 10 + 6, none⟩ = some (.string df)) (y7 : w.cell? ⟨b1, o1 + p * 10 + 7, none⟩ = some (.int .i64 sz)) (y8 : w.cell? ⟨b1, o1 + p * 10 + 8, none⟩ = some (.int .i64 it)) (y9 : w.cell? ⟨b1, o1 + p * 10 + 9, none⟩ = some (.slice X9 l9 x9)) (R : Prop) (hR : R ↔ nb ≤ 20000 ∧ ni ≤ 300 ∧ VJust 7 n bt nb ni nk) :
 Calls Tryz.prog 15 #[.agg #[.slice (some ⟨b1, o1, none⟩) nn c, .int .i64 rt], .int .i64 (p : Int), .agg #[.int .i64 7, .int .i64 n, .int .u64 bt, .slice A3 nb c3, .slice A4 ni c4, .slice A5 nk c5]] w (Tells R w) := by
 have CS := cell_set
 have q : (p : Int) < (nn : Int) := by omega
 have HR := Lib.hid hR
 have PJ : Hid (VJust 7 n bt nb ni nk ↔ n = 0 ∧ bt = 0 ∧ ni = 0 ∧ nk = 0) := by show _ ↔ _; unfold VJust; omega
 clear hR
 by_cases hb : (20000 : Int) < (nb : Int)
 · have qb : decide ((20000 : Int) < (nb : Int)) = true := by simpa using hb
   have Z : Hid (¬ R) := fun r => by have := (HR.out.1 r).1; omega
   clear hb HR PJ
   go_enter Tryz.func15, Tryz.ntmps15
   go_wp2_with fail
   go_ret
   exact tells_no (by first | rfl | (simp; omega)) Z.out bqq
 have qb : decide ((20000 : Int) < (nb : Int)) = false := by simpa using hb
 by_cases hi : (300 : Int) < (ni : Int)
 · have qi : decide ((300 : Int) < (ni : Int)) = true := by simpa using hi
   have Z : Hid (¬ R) := fun r => by have := (HR.out.1 r).2.1; omega
   clear hb hi HR PJ
   go_enter Tryz.func15, Tryz.ntmps15
   go_wp2_with fail
   go_ret
   exact tells_no (by first | rfl | (simp; omega)) Z.out bqq
 have qi : decide ((300 : Int) < (ni : Int)) = false := by simpa using hi
 have HB : Hid (nb ≤ 20000 ∧ ni ≤ 300) := ⟨by omega, by omega⟩
 clear hb hi
 by_cases g0 : n = 0
 rotate_left
 · have e0a : ((0 : Int) == n) = false := by rw [beq_eq_false_iff_ne]; omega
   have Z : Hid (¬ R) := fun r => g0 (PJ.out.1 (HR.out.1 r).2.2).1
   clear g0 HR PJ 
   go_enter Tryz.func15, Tryz.ntmps15
   go_wp2_with fail
   go_ret
   exact tells_no (by first | rfl | (simp; omega)) Z.out bqq
 have e0a : ((0 : Int) == n) = true := by rw [beq_iff_eq]; omega
 by_cases g1 : bt = 0
 rotate_left
 · have e1a : ((0 : Int) == bt) = false := by rw [beq_eq_false_iff_ne]; omega
   have Z : Hid (¬ R) := fun r => g1 (PJ.out.1 (HR.out.1 r).2.2).2.1
   clear g1 HR PJ g0
   go_enter Tryz.func15, Tryz.ntmps15
   go_wp2_with fail
   go_ret
   exact tells_no (by first | rfl | (simp; omega)) Z.out bqq
 have e1a : ((0 : Int) == bt) = true := by rw [beq_iff_eq]; omega
 by_cases g2 : ni = 0
 rotate_left
 · have e2a : ((0 : Int) == (ni : Int)) = false := by rw [beq_eq_false_iff_ne]; omega
   have Z : Hid (¬ R) := fun r => g2 (PJ.out.1 (HR.out.1 r).2.2).2.2.1
   clear g2 HR PJ g0 g1
   go_enter Tryz.func15, Tryz.ntmps15
   go_wp2_with fail
   go_ret
   exact tells_no (by first | rfl | (simp; omega)) Z.out bqq
 have e2a : ((0 : Int) == (ni : Int)) = true := by rw [beq_iff_eq]; omega
 by_cases g3 : nk = 0
 rotate_left
 · have e3a : ((0 : Int) == (nk : Int)) = false := by rw [beq_eq_false_iff_ne]; omega
   have Z : Hid (¬ R) := fun r => g3 (PJ.out.1 (HR.out.1 r).2.2).2.2.2
   clear g3 HR PJ g0 g1 g2
   go_enter Tryz.func15, Tryz.ntmps15
   go_wp2_with fail
   go_ret
   exact tells_no (by first | rfl | (simp; omega)) Z.out bqq
 have e3a : ((0 : Int) == (nk : Int)) = true := by rw [beq_iff_eq]; omega
 have Z : Hid R := HR.out.2 ⟨HB.out.1, HB.out.2, PJ.out.2 ⟨g0, g1, g2, g3⟩⟩
 clear HR PJ g0 g1 g2 g3
 go_enter Tryz.func15, Tryz.ntmps15
 go_wp2_with fail
 go_ret
 exact tells_yes (by first | rfl | (simp; omega)) Z.out bqq
theorem ris_10 (p nn : Nat) (hp : p < nn) (rt n bt : Int) (nb ni nk : Nat) (A3 A4 A5 : Option Addr) (c3 c4 c5 : Nat) (nm df : ByteArray) (l2 l3 l4 l9 x2 x3 x4 x9 : Nat) (X2 X3 X4 X9 : Option Addr) (hs : Bool) (sz it : Int) (b1 o1 c : Nat) (w : World) (lb1 : b1 < w.heap.size)
 (y0 : w.cell? ⟨b1, o1 + p * 10, none⟩ = some (.int .i64 10)) (y1 : w.cell? ⟨b1, o1 + p * 10 + 1, none⟩ = some (.string nm)) (y2 : w.cell? ⟨b1, o1 + p * 10 + 2, none⟩ = some (.slice X2 l2 x2)) (y3 : w.cell? ⟨b1, o1 + p * 10 + 3, none⟩ = some (.slice X3 l3 x3)) (y4 : w.cell? ⟨b1, o1 + p * 10 + 4, none⟩ = some (.slice X4 l4 x4))
 (y5 : w.cell? ⟨b1, o1 + p * 10 + 5, none⟩ = some (.bool hs)) (y6 : w.cell? ⟨b1, o1 + p * 10 + 6, none⟩ = some (.string df)) (y7 : w.cell? ⟨b1, o1 + p * 10 + 7, none⟩ = some (.int .i64 sz)) (y8 : w.cell? ⟨b1, o1 + p * 10 + 8, none⟩ = some (.int .i64 it)) (y9 : w.cell? ⟨b1, o1 + p * 10 + 9, none⟩ = some (.slice X9 l9 x9)) (R : Prop) (hR : R ↔ nb ≤ 20000 ∧ ni ≤ 300 ∧ (0 ≤ n ∧ n < (l4 : Int)) ∧ VJust 10 n bt nb ni nk) :
 Calls Tryz.prog 15 #[.agg #[.slice (some ⟨b1, o1, none⟩) nn c, .int .i64 rt], .int .i64 (p : Int), .agg #[.int .i64 10, .int .i64 n, .int .u64 bt, .slice A3 nb c3, .slice A4 ni c4, .slice A5 nk c5]] w (Tells R w) := by
 have CS := cell_set
 have q : (p : Int) < (nn : Int) := by omega
 have HR := Lib.hid hR
 have PJ : Hid (VJust 10 n bt nb ni nk ↔ bt = 0 ∧ nb = 0 ∧ ni = 0 ∧ nk = 0) := by show _ ↔ _; unfold VJust; omega
 clear hR
 by_cases hb : (20000 : Int) < (nb : Int)
 · have qb : decide ((20000 : Int) < (nb : Int)) = true := by simpa using hb
   have Z : Hid (¬ R) := fun r => by have := (HR.out.1 r).1; omega
   clear hb HR PJ
   go_enter Tryz.func15, Tryz.ntmps15
   go_wp2_with fail
   go_ret
   exact tells_no (by first | rfl | (simp; omega)) Z.out bqq
 have qb : decide ((20000 : Int) < (nb : Int)) = false := by simpa using hb
 by_cases hi : (300 : Int) < (ni : Int)
 · have qi : decide ((300 : Int) < (ni : Int)) = true := by simpa using hi
   have Z : Hid (¬ R) := fun r => by have := (HR.out.1 r).2.1; omega
   clear hb hi HR PJ
   go_enter Tryz.func15, Tryz.ntmps15
   go_wp2_with fail
   go_ret
   exact tells_no (by first | rfl | (simp; omega)) Z.out bqq
 have qi : decide ((300 : Int) < (ni : Int)) = false := by simpa using hi
 have HB : Hid (nb ≤ 20000 ∧ ni ≤ 300) := ⟨by omega, by omega⟩
 clear hb hi
 by_cases h0 : 0 ≤ n
 rotate_left
 · have Z : Hid (¬ R) := fun r => h0 (HR.out.1 r).2.2.1.1
   clear HR PJ
   go_enter Tryz.func15, Tryz.ntmps15
   go_wp2_with fail
   go_ret
   exact tells_no (by first | rfl | (simp; omega)) Z.out bqq
 by_cases h1 : n < (l4 : Int)
 rotate_left
 · have Z : Hid (¬ R) := fun r => h1 (HR.out.1 r).2.2.1.2
   clear HR PJ
   go_enter Tryz.func15, Tryz.ntmps15
   go_wp2_with fail
   go_ret
   exact tells_no (by first | rfl | (simp; omega)) Z.out bqq
 have HC : Hid (0 ≤ n ∧ n < (l4 : Int)) := ⟨h0, h1⟩
 by_cases g0 : bt = 0
 rotate_left
 · have e0a : ((0 : Int) == bt) = false := by rw [beq_eq_false_iff_ne]; omega
   have Z : Hid (¬ R) := fun r => g0 (PJ.out.1 (HR.out.1 r).2.2.2).1
   clear g0 HR PJ 
   go_enter Tryz.func15, Tryz.ntmps15
   go_wp2_with fail
   go_ret
   exact tells_no (by first | rfl | (simp; omega)) Z.out bqq
 have e0a : ((0 : Int) == bt) = true := by rw [beq_iff_eq]; omega
 by_cases g1 : nb = 0
 rotate_left
 · have e1a : ((0 : Int) == (nb : Int)) = false := by rw [beq_eq_false_iff_ne]; omega
   have Z : Hid (¬ R) := fun r => g1 (PJ.out.1 (HR.out.1 r).2.2.2).2.1
   clear g1 HR PJ g0
   go_enter Tryz.func15, Tryz.ntmps15
   go_wp2_with fail
   go_ret
   exact tells_no (by first | rfl | (simp; omega)) Z.out bqq
 have e1a : ((0 : Int) == (nb : Int)) = true := by rw [beq_iff_eq]; omega
 by_cases g2 : ni = 0
 rotate_left
 · have e2a : ((0 : Int) == (ni : Int)) = false := by rw [beq_eq_false_iff_ne]; omega
   have Z : Hid (¬ R) := fun r => g2 (PJ.out.1 (HR.out.1 r).2.2.2).2.2.1
   clear g2 HR PJ g0 g1
   go_enter Tryz.func15, Tryz.ntmps15
   go_wp2_with fail
   go_ret
   exact tells_no (by first | rfl | (simp; omega)) Z.out bqq
 have e2a : ((0 : Int) == (ni : Int)) = true := by rw [beq_iff_eq]; omega
 by_cases g3 : nk = 0
 rotate_left
 · have e3a : ((0 : Int) == (nk : Int)) = false := by rw [beq_eq_false_iff_ne]; omega
   have Z : Hid (¬ R) := fun r => g3 (PJ.out.1 (HR.out.1 r).2.2.2).2.2.2
   clear g3 HR PJ g0 g1 g2
   go_enter Tryz.func15, Tryz.ntmps15
   go_wp2_with fail
   go_ret
   exact tells_no (by first | rfl | (simp; omega)) Z.out bqq
 have e3a : ((0 : Int) == (nk : Int)) = true := by rw [beq_iff_eq]; omega
 have Z : Hid R := HR.out.2 ⟨HB.out.1, HB.out.2, HC.out, PJ.out.2 ⟨g0, g1, g2, g3⟩⟩
 clear HR PJ g0 g1 g2 g3
 go_enter Tryz.func15, Tryz.ntmps15
 go_wp2_with fail
 go_ret
 exact tells_yes (by first | rfl | (simp; omega)) Z.out bqq
theorem ris_14 (p nn : Nat) (hp : p < nn) (rt n bt : Int) (nb ni nk : Nat) (A3 A4 A5 : Option Addr) (c3 c4 c5 : Nat) (nm df : ByteArray) (l2 l3 l4 l9 x2 x3 x4 x9 : Nat) (X2 X3 X4 X9 : Option Addr) (hs : Bool) (sz it : Int) (b1 o1 c : Nat) (w : World) (lb1 : b1 < w.heap.size)
 (y0 : w.cell? ⟨b1, o1 + p * 10, none⟩ = some (.int .i64 14)) (y1 : w.cell? ⟨b1, o1 + p * 10 + 1, none⟩ = some (.string nm)) (y2 : w.cell? ⟨b1, o1 + p * 10 + 2, none⟩ = some (.slice X2 l2 x2)) (y3 : w.cell? ⟨b1, o1 + p * 10 + 3, none⟩ = some (.slice X3 l3 x3)) (y4 : w.cell? ⟨b1, o1 + p * 10 + 4, none⟩ = some (.slice X4 l4 x4))
 (y5 : w.cell? ⟨b1, o1 + p * 10 + 5, none⟩ = some (.bool hs)) (y6 : w.cell? ⟨b1, o1 + p * 10 + 6, none⟩ = some (.string df)) (y7 : w.cell? ⟨b1, o1 + p * 10 + 7, none⟩ = some (.int .i64 sz)) (y8 : w.cell? ⟨b1, o1 + p * 10 + 8, none⟩ = some (.int .i64 it)) (y9 : w.cell? ⟨b1, o1 + p * 10 + 9, none⟩ = some (.slice X9 l9 x9)) (R : Prop) (hR : R ↔ nb ≤ 20000 ∧ ni ≤ 300 ∧ ((nb : Int) = sz) ∧ VJust 14 n bt nb ni nk) :
 Calls Tryz.prog 15 #[.agg #[.slice (some ⟨b1, o1, none⟩) nn c, .int .i64 rt], .int .i64 (p : Int), .agg #[.int .i64 14, .int .i64 n, .int .u64 bt, .slice A3 nb c3, .slice A4 ni c4, .slice A5 nk c5]] w (Tells R w) := by
 have CS := cell_set
 have q : (p : Int) < (nn : Int) := by omega
 have HR := Lib.hid hR
 have PJ : Hid (VJust 14 n bt nb ni nk ↔ n = 0 ∧ bt = 0 ∧ ni = 0 ∧ nk = 0) := by show _ ↔ _; unfold VJust; omega
 clear hR
 by_cases hb : (20000 : Int) < (nb : Int)
 · have qb : decide ((20000 : Int) < (nb : Int)) = true := by simpa using hb
   have Z : Hid (¬ R) := fun r => by have := (HR.out.1 r).1; omega
   clear hb HR PJ
   go_enter Tryz.func15, Tryz.ntmps15
   go_wp2_with fail
   go_ret
   exact tells_no (by first | rfl | (simp; omega)) Z.out bqq
 have qb : decide ((20000 : Int) < (nb : Int)) = false := by simpa using hb
 by_cases hi : (300 : Int) < (ni : Int)
 · have qi : decide ((300 : Int) < (ni : Int)) = true := by simpa using hi
   have Z : Hid (¬ R) := fun r => by have := (HR.out.1 r).2.1; omega
   clear hb hi HR PJ
   go_enter Tryz.func15, Tryz.ntmps15
   go_wp2_with fail
   go_ret
   exact tells_no (by first | rfl | (simp; omega)) Z.out bqq
 have qi : decide ((300 : Int) < (ni : Int)) = false := by simpa using hi
 have HB : Hid (nb ≤ 20000 ∧ ni ≤ 300) := ⟨by omega, by omega⟩
 clear hb hi
 by_cases h14 : (nb : Int) = sz
 rotate_left
 · have e0 : ((nb : Int) == sz) = false := by rw [beq_eq_false_iff_ne]; exact h14
   have Z : Hid (¬ R) := fun r => h14 (HR.out.1 r).2.2.1
   clear h14 HR PJ
   go_enter Tryz.func15, Tryz.ntmps15
   go_wp2_with fail
   go_ret
   exact tells_no (by first | rfl | (simp; omega)) Z.out bqq
 have e0 : ((nb : Int) == sz) = true := by rw [beq_iff_eq]; exact h14
 have HC := Lib.hid h14
 clear h14
 by_cases g0 : n = 0
 rotate_left
 · have e0a : ((0 : Int) == n) = false := by rw [beq_eq_false_iff_ne]; omega
   have Z : Hid (¬ R) := fun r => g0 (PJ.out.1 (HR.out.1 r).2.2.2).1
   clear g0 HR PJ 
   go_enter Tryz.func15, Tryz.ntmps15
   go_wp2_with fail
   go_ret
   exact tells_no (by first | rfl | (simp; omega)) Z.out bqq
 have e0a : ((0 : Int) == n) = true := by rw [beq_iff_eq]; omega
 by_cases g1 : bt = 0
 rotate_left
 · have e1a : ((0 : Int) == bt) = false := by rw [beq_eq_false_iff_ne]; omega
   have Z : Hid (¬ R) := fun r => g1 (PJ.out.1 (HR.out.1 r).2.2.2).2.1
   clear g1 HR PJ g0
   go_enter Tryz.func15, Tryz.ntmps15
   go_wp2_with fail
   go_ret
   exact tells_no (by first | rfl | (simp; omega)) Z.out bqq
 have e1a : ((0 : Int) == bt) = true := by rw [beq_iff_eq]; omega
 by_cases g2 : ni = 0
 rotate_left
 · have e2a : ((0 : Int) == (ni : Int)) = false := by rw [beq_eq_false_iff_ne]; omega
   have Z : Hid (¬ R) := fun r => g2 (PJ.out.1 (HR.out.1 r).2.2.2).2.2.1
   clear g2 HR PJ g0 g1
   go_enter Tryz.func15, Tryz.ntmps15
   go_wp2_with fail
   go_ret
   exact tells_no (by first | rfl | (simp; omega)) Z.out bqq
 have e2a : ((0 : Int) == (ni : Int)) = true := by rw [beq_iff_eq]; omega
 by_cases g3 : nk = 0
 rotate_left
 · have e3a : ((0 : Int) == (nk : Int)) = false := by rw [beq_eq_false_iff_ne]; omega
   have Z : Hid (¬ R) := fun r => g3 (PJ.out.1 (HR.out.1 r).2.2.2).2.2.2
   clear g3 HR PJ g0 g1 g2
   go_enter Tryz.func15, Tryz.ntmps15
   go_wp2_with fail
   go_ret
   exact tells_no (by first | rfl | (simp; omega)) Z.out bqq
 have e3a : ((0 : Int) == (nk : Int)) = true := by rw [beq_iff_eq]; omega
 have Z : Hid R := HR.out.2 ⟨HB.out.1, HB.out.2, HC.out, PJ.out.2 ⟨g0, g1, g2, g3⟩⟩
 clear HR PJ g0 g1 g2 g3
 go_enter Tryz.func15, Tryz.ntmps15
 go_wp2_with fail
 go_ret
 exact tells_yes (by first | rfl | (simp; omega)) Z.out bqq
theorem ris_8 (p nn : Nat) (hp : p < nn) (rt n bt : Int) (nb ni nk : Nat) (A3 A4 A5 : Option Addr) (c3 c4 c5 : Nat) (nm df : ByteArray) (l2 l3 l4 l9 x2 x3 x4 x9 : Nat) (X2 X3 X4 X9 : Option Addr) (hs : Bool) (sz it : Int) (b1 o1 c : Nat) (w : World) (lb1 : b1 < w.heap.size)
 (y0 : w.cell? ⟨b1, o1 + p * 10, none⟩ = some (.int .i64 8)) (y1 : w.cell? ⟨b1, o1 + p * 10 + 1, none⟩ = some (.string nm)) (y2 : w.cell? ⟨b1, o1 + p * 10 + 2, none⟩ = some (.slice X2 l2 x2)) (y3 : w.cell? ⟨b1, o1 + p * 10 + 3, none⟩ = some (.slice X3 l3 x3)) (y4 : w.cell? ⟨b1, o1 + p * 10 + 4, none⟩ = some (.slice X4 l4 x4))
 (y5 : w.cell? ⟨b1, o1 + p * 10 + 5, none⟩ = some (.bool hs)) (y6 : w.cell? ⟨b1, o1 + p * 10 + 6, none⟩ = some (.string df)) (y7 : w.cell? ⟨b1, o1 + p * 10 + 7, none⟩ = some (.int .i64 sz)) (y8 : w.cell? ⟨b1, o1 + p * 10 + 8, none⟩ = some (.int .i64 it)) (y9 : w.cell? ⟨b1, o1 + p * 10 + 9, none⟩ = some (.slice X9 l9 x9)) (Q : Prop) (RC : Hid (∀ W, Below w.heap.size w W → Calls Tryz.prog 36 #[.slice A3 nb c3] W (Tells Q W))) (R : Prop) (hR : R ↔ nb ≤ 20000 ∧ ni ≤ 300 ∧ (Q) ∧ VJust 8 n bt nb ni nk) :
 Calls Tryz.prog 15 #[.agg #[.slice (some ⟨b1, o1, none⟩) nn c, .int .i64 rt], .int .i64 (p : Int), .agg #[.int .i64 8, .int .i64 n, .int .u64 bt, .slice A3 nb c3, .slice A4 ni c4, .slice A5 nk c5]] w (Tells R w) := by
 have CS := cell_set
 have q : (p : Int) < (nn : Int) := by omega
 have HR := Lib.hid hR
 have PJ : Hid (VJust 8 n bt nb ni nk ↔ n = 0 ∧ bt = 0 ∧ ni = 0 ∧ nk = 0) := by show _ ↔ _; unfold VJust; omega
 clear hR
 by_cases hb : (20000 : Int) < (nb : Int)
 · have qb : decide ((20000 : Int) < (nb : Int)) = true := by simpa using hb
   have Z : Hid (¬ R) := fun r => by have := (HR.out.1 r).1; omega
   clear hb HR PJ
   go_enter Tryz.func15, Tryz.ntmps15
   go_wp2_with fail
   go_ret
   exact tells_no (by first | rfl | (simp; omega)) Z.out bqq
 have qb : decide ((20000 : Int) < (nb : Int)) = false := by simpa using hb
 by_cases hi : (300 : Int) < (ni : Int)
 · have qi : decide ((300 : Int) < (ni : Int)) = true := by simpa using hi
   have Z : Hid (¬ R) := fun r => by have := (HR.out.1 r).2.1; omega
   clear hb hi HR PJ
   go_enter Tryz.func15, Tryz.ntmps15
   go_wp2_with fail
   go_ret
   exact tells_no (by first | rfl | (simp; omega)) Z.out bqq
 have qi : decide ((300 : Int) < (ni : Int)) = false := by simpa using hi
 have HB : Hid (nb ≤ 20000 ∧ ni ≤ 300) := ⟨by omega, by omega⟩
 have H1 : Hid (B6 ((((w.alloc (.cells #[.slice (some ⟨b1, o1, none⟩) nn c, .int .i64 rt] 24)).alloc (.cells #[.int .i64 8, .int .i64 n, .int .u64 bt, .slice A3 nb c3, .slice A4 ni c4, .slice A5 nk c5] 30)).alloc (.cells #[.int .i64 8, .string nm, .slice X2 l2 x2, .slice X3 l3 x3, .slice X4 l4 x4, .bool hs, .string df, .int .i64 sz, .int .i64 it, .slice X9 l9 x9] 42)).alloc (.cells #[.int .i64 8, .int .i64 0, .int .u64 0, .slice A3 nb c3, .slice none 0 0, .slice none 0 0] 30)) (w.heap.size + 1) 30 (.int .i64 8) (.int .i64 n) (.int .u64 bt) (.slice A3 nb c3) (.slice A4 ni c4) (.slice A5 nk c5)) := B6.alloc (B6.alloc (B6.newat (by simp)) _) _
 have H2 : Hid (B10 ((((w.alloc (.cells #[.slice (some ⟨b1, o1, none⟩) nn c, .int .i64 rt] 24)).alloc (.cells #[.int .i64 8, .int .i64 n, .int .u64 bt, .slice A3 nb c3, .slice A4 ni c4, .slice A5 nk c5] 30)).alloc (.cells #[.int .i64 8, .string nm, .slice X2 l2 x2, .slice X3 l3 x3, .slice X4 l4 x4, .bool hs, .string df, .int .i64 sz, .int .i64 it, .slice X9 l9 x9] 42)).alloc (.cells #[.int .i64 8, .int .i64 0, .int .u64 0, .slice A3 nb c3, .slice none 0 0, .slice none 0 0] 30)) (w.heap.size + 1 + 1) 42 (.int .i64 8) (.string nm) (.slice X2 l2 x2) (.slice X3 l3 x3) (.slice X4 l4 x4) (.bool hs) (.string df) (.int .i64 sz) (.int .i64 it) (.slice X9 l9 x9)) := B10.alloc (B10.newat (by simp)) _
 have H3 : Hid (B6 ((((w.alloc (.cells #[.slice (some ⟨b1, o1, none⟩) nn c, .int .i64 rt] 24)).alloc (.cells #[.int .i64 8, .int .i64 n, .int .u64 bt, .slice A3 nb c3, .slice A4 ni c4, .slice A5 nk c5] 30)).alloc (.cells #[.int .i64 8, .string nm, .slice X2 l2 x2, .slice X3 l3 x3, .slice X4 l4 x4, .bool hs, .string df, .int .i64 sz, .int .i64 it, .slice X9 l9 x9] 42)).alloc (.cells #[.int .i64 8, .int .i64 0, .int .u64 0, .slice A3 nb c3, .slice none 0 0, .slice none 0 0] 30)) (w.heap.size + 1 + 1 + 1) 30 (.int .i64 8) (.int .i64 0) (.int .u64 0) (.slice A3 nb c3) (.slice none 0 0) (.slice none 0 0)) := B6.newat (by simp)
 have BW : Hid (Below w.heap.size w ((((w.alloc (.cells #[.slice (some ⟨b1, o1, none⟩) nn c, .int .i64 rt] 24)).alloc (.cells #[.int .i64 8, .int .i64 n, .int .u64 bt, .slice A3 nb c3, .slice A4 ni c4, .slice A5 nk c5] 30)).alloc (.cells #[.int .i64 8, .string nm, .slice X2 l2 x2, .slice X3 l3 x3, .slice X4 l4 x4, .bool hs, .string df, .int .i64 sz, .int .i64 it, .slice X9 l9 x9] 42)).alloc (.cells #[.int .i64 8, .int .i64 0, .int .u64 0, .slice A3 nb c3, .slice none 0 0, .slice none 0 0] 30))) := ((((Below.refl _ _).alloc (Nat.le_refl _) _).alloc (by simp) _).alloc (by simp; omega) _).alloc (by simp; omega) _
 have ZW : Hid (((((w.alloc (.cells #[.slice (some ⟨b1, o1, none⟩) nn c, .int .i64 rt] 24)).alloc (.cells #[.int .i64 8, .int .i64 n, .int .u64 bt, .slice A3 nb c3, .slice A4 ni c4, .slice A5 nk c5] 30)).alloc (.cells #[.int .i64 8, .string nm, .slice X2 l2 x2, .slice X3 l3 x3, .slice X4 l4 x4, .bool hs, .string df, .int .i64 sz, .int .i64 it, .slice X9 l9 x9] 42)).alloc (.cells #[.int .i64 8, .int .i64 0, .int .u64 0, .slice A3 nb c3, .slice none 0 0, .slice none 0 0] 30)).heap.size = w.heap.size + 4) := by show _ = _; simp
 clear hb hi
 go_enter Tryz.func15, Tryz.ntmps15
 go_wp2_with fail
 with_reducible refine (RC.out _ BW.out).mono ?_
 rintro e w2 ⟨b, rfl, hbb, b2⟩
 rw [ZW.out] at b2
 have bw2 : Below w.heap.size w w2 := BW.out.trans (b2.mono (by omega))
 obtain ⟨_, _, _, _, _, _, _, _, _, _, _, _⟩ := B6.facts (B6.below H1.out b2 (by omega))
 obtain ⟨_, _, _, _, _, _, _, _, _, _, _, _, _, _, _, _, _, _, _, _⟩ := B10.facts (B10.below H2.out b2 (by omega))
 obtain ⟨_, _, _, _, _, _, _, _, _, _, _, _⟩ := B6.facts (B6.below H3.out b2 (by omega))
 have HQ := Lib.hid hbb
 clear hbb H1 H2 H3 BW ZW b2
 cases b with
 | false =>
  have Z : Hid (¬ R) := fun r => by have := HQ.out.2 (HR.out.1 r).2.2.1; cases this
  clear HR PJ HQ
  go_wp2_with fail
  go_ret
  exact tells_no (by first | rfl | (simp; omega)) Z.out bw2
 | true =>
  have HC := Lib.hid (HQ.out.1 (by first | rfl | trivial))
  clear HQ
  by_cases g0 : n = 0
  rotate_left
  · have e0a : ((0 : Int) == n) = false := by rw [beq_eq_false_iff_ne]; omega
    have Z : Hid (¬ R) := fun r => g0 (PJ.out.1 (HR.out.1 r).2.2.2).1
    clear g0 HR PJ 
    go_wp2_with fail
    go_ret
    exact tells_no (by first | rfl | (simp; omega)) Z.out bw2
  have e0a : ((0 : Int) == n) = true := by rw [beq_iff_eq]; omega
  by_cases g1 : bt = 0
  rotate_left
  · have e1a : ((0 : Int) == bt) = false := by rw [beq_eq_false_iff_ne]; omega
    have Z : Hid (¬ R) := fun r => g1 (PJ.out.1 (HR.out.1 r).2.2.2).2.1
    clear g1 HR PJ g0
    go_wp2_with fail
    go_ret
    exact tells_no (by first | rfl | (simp; omega)) Z.out bw2
  have e1a : ((0 : Int) == bt) = true := by rw [beq_iff_eq]; omega
  by_cases g2 : ni = 0
  rotate_left
  · have e2a : ((0 : Int) == (ni : Int)) = false := by rw [beq_eq_false_iff_ne]; omega
    have Z : Hid (¬ R) := fun r => g2 (PJ.out.1 (HR.out.1 r).2.2.2).2.2.1
    clear g2 HR PJ g0 g1
    go_wp2_with fail
    go_ret
    exact tells_no (by first | rfl | (simp; omega)) Z.out bw2
  have e2a : ((0 : Int) == (ni : Int)) = true := by rw [beq_iff_eq]; omega
  by_cases g3 : nk = 0
  rotate_left
  · have e3a : ((0 : Int) == (nk : Int)) = false := by rw [beq_eq_false_iff_ne]; omega
    have Z : Hid (¬ R) := fun r => g3 (PJ.out.1 (HR.out.1 r).2.2.2).2.2.2
    clear g3 HR PJ g0 g1 g2
    go_wp2_with fail
    go_ret
    exact tells_no (by first | rfl | (simp; omega)) Z.out bw2
  have e3a : ((0 : Int) == (nk : Int)) = true := by rw [beq_iff_eq]; omega
  have Z : Hid R := HR.out.2 ⟨HB.out.1, HB.out.2, HC.out, PJ.out.2 ⟨g0, g1, g2, g3⟩⟩
  clear HR PJ g0 g1 g2 g3
  go_wp2_with fail
  go_ret
  exact tells_yes (by first | rfl | (simp; omega)) Z.out bw2
theorem ris_11 (p nn : Nat) (hp : p < nn) (rt n bt : Int) (nb ni nk : Nat) (A3 A4 A5 : Option Addr) (c3 c4 c5 : Nat) (nm df : ByteArray) (l2 l3 l4 l9 x2 x3 x4 x9 : Nat) (X2 X3 X4 X9 : Option Addr) (hs : Bool) (sz it : Int) (b1 o1 c : Nat) (w : World) (lb1 : b1 < w.heap.size)
 (y0 : w.cell? ⟨b1, o1 + p * 10, none⟩ = some (.int .i64 11)) (y1 : w.cell? ⟨b1, o1 + p * 10 + 1, none⟩ = some (.string nm)) (y2 : w.cell? ⟨b1, o1 + p * 10 + 2, none⟩ = some (.slice X2 l2 x2)) (y3 : w.cell? ⟨b1, o1 + p * 10 + 3, none⟩ = some (.slice X3 l3 x3)) (y4 : w.cell? ⟨b1, o1 + p * 10 + 4, none⟩ = some (.slice X4 l4 x4))
 (y5 : w.cell? ⟨b1, o1 + p * 10 + 5, none⟩ = some (.bool hs)) (y6 : w.cell? ⟨b1, o1 + p * 10 + 6, none⟩ = some (.string df)) (y7 : w.cell? ⟨b1, o1 + p * 10 + 7, none⟩ = some (.int .i64 sz)) (y8 : w.cell? ⟨b1, o1 + p * 10 + 8, none⟩ = some (.int .i64 it)) (y9 : w.cell? ⟨b1, o1 + p * 10 + 9, none⟩ = some (.slice X9 l9 x9)) (P : Nat → Prop) (IC : Hid (∀ j, j < ni → ∃ (b4 o4 : Nat) (z0 z1 z2 z3 z4 z5 : Value), A4 = some ⟨b4, o4, none⟩ ∧ b4 < w.heap.size ∧ w.cell? ⟨b4, o4 + j * 6, none⟩ = some z0 ∧ w.cell? ⟨b4, o4 + j * 6 + 1, none⟩ = some z1 ∧ w.cell? ⟨b4, o4 + j * 6 + 2, none⟩ = some z2 ∧ w.cell? ⟨b4, o4 + j * 6 + 3, none⟩ = some z3 ∧ w.cell? ⟨b4, o4 + j * 6 + 4, none⟩ = some z4 ∧ w.cell? ⟨b4, o4 + j * 6 + 5, none⟩ = some z5 ∧ ∀ W, Below w.heap.size w W → Calls Tryz.prog 15 #[.agg #[.slice (some ⟨b1, o1, none⟩) nn c, .int .i64 rt], .int .i64 it, .agg #[z0, z1, z2, z3, z4, z5]] W (Tells (P j) W))) (hni : ni ≤ 1000000) (R : Prop) (hR : R ↔ nb ≤ 20000 ∧ ni ≤ 300 ∧ (∀ j, j < ni → P j) ∧ VJust 11 n bt nb ni nk) :
 Calls Tryz.prog 15 #[.agg #[.slice (some ⟨b1, o1, none⟩) nn c, .int .i64 rt], .int .i64 (p : Int), .agg #[.int .i64 11, .int .i64 n, .int .u64 bt, .slice A3 nb c3, .slice A4 ni c4, .slice A5 nk c5]] w (Tells R w) := by
 have CS := cell_set
 have q : (p : Int) < (nn : Int) := by omega
 have HR := Lib.hid hR
 have PJ : Hid (VJust 11 n bt nb ni nk ↔ n = 0 ∧ bt = 0 ∧ nb = 0 ∧ nk = 0) := by show _ ↔ _; unfold VJust; omega
 clear hR
 by_cases hb : (20000 : Int) < (nb : Int)
 · have qb : decide ((20000 : Int) < (nb : Int)) = true := by simpa using hb
   have Z : Hid (¬ R) := fun r => by have := (HR.out.1 r).1; omega
   clear hb HR PJ IC
   go_enter Tryz.func15, Tryz.ntmps15
   go_wp2_with fail
   go_ret
   exact tells_no (by first | rfl | (simp; omega)) Z.out bqq
 have qb : decide ((20000 : Int) < (nb : Int)) = false := by simpa using hb
 by_cases hi : (300 : Int) < (ni : Int)
 · have qi : decide ((300 : Int) < (ni : Int)) = true := by simpa using hi
   have Z : Hid (¬ R) := fun r => by have := (HR.out.1 r).2.1; omega
   clear hb hi HR PJ IC
   go_enter Tryz.func15, Tryz.ntmps15
   go_wp2_with fail
   go_ret
   exact tells_no (by first | rfl | (simp; omega)) Z.out bqq
 have qi : decide ((300 : Int) < (ni : Int)) = false := by simpa using hi
 have HB : Hid (nb ≤ 20000 ∧ ni ≤ 300) := ⟨by omega, by omega⟩
 have H0 : Hid (B2 ((((w.alloc (.cells #[.slice (some ⟨b1, o1, none⟩) nn c, .int .i64 rt] 24)).alloc (.cells #[.int .i64 11, .int .i64 n, .int .u64 bt, .slice A3 nb c3, .slice A4 ni c4, .slice A5 nk c5] 30)).alloc (.cells #[.int .i64 11, .string nm, .slice X2 l2 x2, .slice X3 l3 x3, .slice X4 l4 x4, .bool hs, .string df, .int .i64 sz, .int .i64 it, .slice X9 l9 x9] 42)).alloc (.cells #[.int .i64 11, .int .i64 0, .int .u64 0, .slice none 0 0, .slice A4 ni c4, .slice none 0 0] 30)) w.heap.size 24 (.slice (some ⟨b1, o1, none⟩) nn c) (.int .i64 rt)) := B2.alloc (B2.alloc (B2.alloc (B2.newat rfl) _) _) _
 have H1 : Hid (B6 ((((w.alloc (.cells #[.slice (some ⟨b1, o1, none⟩) nn c, .int .i64 rt] 24)).alloc (.cells #[.int .i64 11, .int .i64 n, .int .u64 bt, .slice A3 nb c3, .slice A4 ni c4, .slice A5 nk c5] 30)).alloc (.cells #[.int .i64 11, .string nm, .slice X2 l2 x2, .slice X3 l3 x3, .slice X4 l4 x4, .bool hs, .string df, .int .i64 sz, .int .i64 it, .slice X9 l9 x9] 42)).alloc (.cells #[.int .i64 11, .int .i64 0, .int .u64 0, .slice none 0 0, .slice A4 ni c4, .slice none 0 0] 30)) (w.heap.size + 1) 30 (.int .i64 11) (.int .i64 n) (.int .u64 bt) (.slice A3 nb c3) (.slice A4 ni c4) (.slice A5 nk c5)) := B6.alloc (B6.alloc (B6.newat (by simp)) _) _
 have H2 : Hid (B10 ((((w.alloc (.cells #[.slice (some ⟨b1, o1, none⟩) nn c, .int .i64 rt] 24)).alloc (.cells #[.int .i64 11, .int .i64 n, .int .u64 bt, .slice A3 nb c3, .slice A4 ni c4, .slice A5 nk c5] 30)).alloc (.cells #[.int .i64 11, .string nm, .slice X2 l2 x2, .slice X3 l3 x3, .slice X4 l4 x4, .bool hs, .string df, .int .i64 sz, .int .i64 it, .slice X9 l9 x9] 42)).alloc (.cells #[.int .i64 11, .int .i64 0, .int .u64 0, .slice none 0 0, .slice A4 ni c4, .slice none 0 0] 30)) (w.heap.size + 1 + 1) 42 (.int .i64 11) (.string nm) (.slice X2 l2 x2) (.slice X3 l3 x3) (.slice X4 l4 x4) (.bool hs) (.string df) (.int .i64 sz) (.int .i64 it) (.slice X9 l9 x9)) := B10.alloc (B10.newat (by simp)) _
 have H3 : Hid (B6 ((((w.alloc (.cells #[.slice (some ⟨b1, o1, none⟩) nn c, .int .i64 rt] 24)).alloc (.cells #[.int .i64 11, .int .i64 n, .int .u64 bt, .slice A3 nb c3, .slice A4 ni c4, .slice A5 nk c5] 30)).alloc (.cells #[.int .i64 11, .string nm, .slice X2 l2 x2, .slice X3 l3 x3, .slice X4 l4 x4, .bool hs, .string df, .int .i64 sz, .int .i64 it, .slice X9 l9 x9] 42)).alloc (.cells #[.int .i64 11, .int .i64 0, .int .u64 0, .slice none 0 0, .slice A4 ni c4, .slice none 0 0] 30)) (w.heap.size + 1 + 1 + 1) 30 (.int .i64 11) (.int .i64 0) (.int .u64 0) (.slice none 0 0) (.slice A4 ni c4) (.slice none 0 0)) := B6.newat (by simp)
 have BW : Hid (Below w.heap.size w ((((w.alloc (.cells #[.slice (some ⟨b1, o1, none⟩) nn c, .int .i64 rt] 24)).alloc (.cells #[.int .i64 11, .int .i64 n, .int .u64 bt, .slice A3 nb c3, .slice A4 ni c4, .slice A5 nk c5] 30)).alloc (.cells #[.int .i64 11, .string nm, .slice X2 l2 x2, .slice X3 l3 x3, .slice X4 l4 x4, .bool hs, .string df, .int .i64 sz, .int .i64 it, .slice X9 l9 x9] 42)).alloc (.cells #[.int .i64 11, .int .i64 0, .int .u64 0, .slice none 0 0, .slice A4 ni c4, .slice none 0 0] 30))) := ((((Below.refl _ _).alloc (Nat.le_refl _) _).alloc (by simp) _).alloc (by simp; omega) _).alloc (by simp; omega) _
 have ZW : Hid (((((w.alloc (.cells #[.slice (some ⟨b1, o1, none⟩) nn c, .int .i64 rt] 24)).alloc (.cells #[.int .i64 11, .int .i64 n, .int .u64 bt, .slice A3 nb c3, .slice A4 ni c4, .slice A5 nk c5] 30)).alloc (.cells #[.int .i64 11, .string nm, .slice X2 l2 x2, .slice X3 l3 x3, .slice X4 l4 x4, .bool hs, .string df, .int .i64 sz, .int .i64 it, .slice X9 l9 x9] 42)).alloc (.cells #[.int .i64 11, .int .i64 0, .int .u64 0, .slice none 0 0, .slice A4 ni c4, .slice none 0 0] 30)).heap.size = w.heap.size + 4) := by show _ = _; simp
 clear hb hi
 have hmax : ni ≤ 9223372036854775807 := by omega
 go_enter Tryz.func15, Tryz.ntmps15
 go_wp2_with fail
 obtain ⟨W, hW⟩ : ∃ W, W = ((((w.alloc (.cells #[.slice (some ⟨b1, o1, none⟩) nn c, .int .i64 rt] 24)).alloc (.cells #[.int .i64 11, .int .i64 n, .int .u64 bt, .slice A3 nb c3, .slice A4 ni c4, .slice A5 nk c5] 30)).alloc (.cells #[.int .i64 11, .string nm, .slice X2 l2 x2, .slice X3 l3 x3, .slice X4 l4 x4, .bool hs, .string df, .int .i64 sz, .int .i64 it, .slice X9 l9 x9] 42)).alloc (.cells #[.int .i64 11, .int .i64 0, .int .u64 0, .slice none 0 0, .slice A4 ni c4, .slice none 0 0] 30)) := ⟨_, rfl⟩
 rw [← hW] at H0 H1 H2 H3 BW ZW
 rw [← hW]
 clear hW
 go_loopw [9, 11] (fun f x wr => ∃ (b : Bool) (i : Nat), i ≤ ni ∧ x = .int .i64 (i : Int) ∧ f = .bool b ∧ Hid (b = true ↔ ∀ j, j < i → P j) ∧ Hid (Below W.heap.size W wr)) (fun _ x _ => ni - (intOf x).toNat)
 case atStart => exact ⟨true, 0, Nat.zero_le _, rfl, rfl, ⟨fun _ j hj => absurd hj (Nat.not_lt_zero _), fun _ => rfl⟩, Below.refl _ _⟩
 case round =>
  obtain ⟨b, i, hi, rfl, rfl, HF, bl⟩ := hrel
  have zw := ZW.out
  have zl := bl.out.size
  have bwr : Below w.heap.size w wr := BW.out.trans (bl.out.mono (by omega))
  have M0 := Lib.hid (B2.below H0.out bl.out (by omega))
  have M1 := Lib.hid (B6.below H1.out bl.out (by omega))
  have M2 := Lib.hid (B10.below H2.out bl.out (by omega))
  have M3 := Lib.hid (B6.below H3.out bl.out (by omega))
  clear zw
  obtain ⟨h0, h0b, _, _⟩ := B2.facts M0.out
  obtain ⟨_, _, _, _, h4, _, _, _, _, _, _, _⟩ := B6.facts M1.out
  obtain ⟨_, _, _, _, _, _, _, _, h8, _, _, _, _, _, _, _, _, _, _, _⟩ := B10.facts M2.out
  obtain ⟨_, _, _, _, _, _, _, _, _, _, _, _⟩ := B6.facts M3.out
  by_cases hin : i < ni
  · have qi2 : (i : Int) < (ni : Int) := by omega
    cases b with
    | false =>
     have Z : Hid (¬ R) := fun r => by have := HF.out.2 (fun j hj => (HR.out.1 r).2.2.1 j (by omega)); cases this
     clear HR PJ HF IC
     go_wp2_with fail
     go_ret
     exact tells_no (by first | rfl | (simp; omega)) Z.out bwr
    | true =>
     obtain ⟨b4, o4, z0, z1, z2, z3, z4, z5, e4, lb4, u0, u1, u2, u3, u4, u5, CI⟩ := IC.out i hin
     have u0 := (bwr.cell (p := ⟨b4, o4 + i * 6, none⟩) lb4).trans u0; have u1 := (bwr.cell (p := ⟨b4, o4 + i * 6 + 1, none⟩) lb4).trans u1; have u2 := (bwr.cell (p := ⟨b4, o4 + i * 6 + 2, none⟩) lb4).trans u2; have u3 := (bwr.cell (p := ⟨b4, o4 + i * 6 + 3, none⟩) lb4).trans u3; have u4 := (bwr.cell (p := ⟨b4, o4 + i * 6 + 4, none⟩) lb4).trans u4; have u5 := (bwr.cell (p := ⟨b4, o4 + i * 6 + 5, none⟩) lb4).trans u5
     subst e4
     have CIH := Lib.hid CI
     have BWR := Lib.hid bwr
     have HA := Lib.hid (HF.out.1 (by first | rfl | trivial))
     have HNX : Hid (∀ b : Bool, (b = true ↔ P i) → (b = true ↔ ∀ j, j < i + 1 → P j)) := fun b hb => hb.trans ⟨fun g j hj => by
      rcases Nat.lt_or_ge j i with h | h
      · exact HA.out j h
      · obtain rfl : j = i := by omega
        exact g, fun g => g i (by omega)⟩
     clear CI HF
     go_wp2_with fail
     go_region_with (first | (go_at_call 15; (with_reducible refine (CIH.out _ BWR.out.drew).mono ?_); rintro e w3 ⟨b, rfl, hbb, b3'⟩; have HB2 := Lib.hid hbb; clear hbb; have b3 := Lib.hid (b3'.mono (Nat.le_refl _)); clear b3'))
     all_goals
      have HN := Lib.hid (HNX.out b HB2.out)
      have b5 : Below W.heap.size W w3 := bl.out.trans (Below.mono (Below.trans (Below.refl wr.heap.size wr).drew b3.out) zl)
      go_wp2_with fail
      go_roundw
      case rel => exact ⟨b, i + 1, by omega, by go_num, rfl, HN, b5⟩
      case measure => simp [intOf]; omega
  · obtain rfl : i = ni := by omega
    have qi2 : ¬ (i : Int) < (i : Int) := by omega
    cases b with
    | false =>
     have Z : Hid (¬ R) := fun r => by have := HF.out.2 (fun j hj => (HR.out.1 r).2.2.1 j (by omega)); cases this
     clear HR PJ HF IC
     go_wp2_with fail
     go_ret
     exact tells_no (by first | rfl | (simp; omega)) Z.out bwr
    | true =>
     have HA := Lib.hid (HF.out.1 (by first | rfl | trivial))
     clear HF IC
     by_cases g0 : n = 0
     rotate_left
     · have e0a : ((0 : Int) == n) = false := by rw [beq_eq_false_iff_ne]; omega
       have Z : Hid (¬ R) := fun r => g0 (PJ.out.1 (HR.out.1 r).2.2.2).1
       clear g0 HR PJ 
       go_wp2_with fail
       go_ret
       exact tells_no (by first | rfl | (simp; omega)) Z.out bwr
     have e0a : ((0 : Int) == n) = true := by rw [beq_iff_eq]; omega
     by_cases g1 : bt = 0
     rotate_left
     · have e1a : ((0 : Int) == bt) = false := by rw [beq_eq_false_iff_ne]; omega
       have Z : Hid (¬ R) := fun r => g1 (PJ.out.1 (HR.out.1 r).2.2.2).2.1
       clear g1 HR PJ g0
       go_wp2_with fail
       go_ret
       exact tells_no (by first | rfl | (simp; omega)) Z.out bwr
     have e1a : ((0 : Int) == bt) = true := by rw [beq_iff_eq]; omega
     by_cases g2 : nb = 0
     rotate_left
     · have e2a : ((0 : Int) == (nb : Int)) = false := by rw [beq_eq_false_iff_ne]; omega
       have Z : Hid (¬ R) := fun r => g2 (PJ.out.1 (HR.out.1 r).2.2.2).2.2.1
       clear g2 HR PJ g0 g1
       go_wp2_with fail
       go_ret
       exact tells_no (by first | rfl | (simp; omega)) Z.out bwr
     have e2a : ((0 : Int) == (nb : Int)) = true := by rw [beq_iff_eq]; omega
     by_cases g3 : nk = 0
     rotate_left
     · have e3a : ((0 : Int) == (nk : Int)) = false := by rw [beq_eq_false_iff_ne]; omega
       have Z : Hid (¬ R) := fun r => g3 (PJ.out.1 (HR.out.1 r).2.2.2).2.2.2
       clear g3 HR PJ g0 g1 g2
       go_wp2_with fail
       go_ret
       exact tells_no (by first | rfl | (simp; omega)) Z.out bwr
     have e3a : ((0 : Int) == (nk : Int)) = true := by rw [beq_iff_eq]; omega
     have Z : Hid R := HR.out.2 ⟨HB.out.1, HB.out.2, HA.out, PJ.out.2 ⟨g0, g1, g2, g3⟩⟩
     clear HR PJ g0 g1 g2 g3
     go_wp2_with fail
     go_ret
     exact tells_yes (by first | rfl | (simp; omega)) Z.out bwr
theorem ris_9 (p nn : Nat) (hp : p < nn) (rt n bt : Int) (nb ni nk : Nat) (A3 A4 A5 : Option Addr) (c3 c4 c5 : Nat) (nm df : ByteArray) (l2 l3 l4 l9 x2 x3 x4 x9 : Nat) (X2 X3 X4 X9 : Option Addr) (hs : Bool) (sz it : Int) (b1 o1 c : Nat) (w : World) (lb1 : b1 < w.heap.size)
 (y0 : w.cell? ⟨b1, o1 + p * 10, none⟩ = some (.int .i64 9)) (y1 : w.cell? ⟨b1, o1 + p * 10 + 1, none⟩ = some (.string nm)) (y2 : w.cell? ⟨b1, o1 + p * 10 + 2, none⟩ = some (.slice X2 l2 x2)) (y3 : w.cell? ⟨b1, o1 + p * 10 + 3, none⟩ = some (.slice X3 l3 x3)) (y4 : w.cell? ⟨b1, o1 + p * 10 + 4, none⟩ = some (.slice X4 l4 x4))
 (y5 : w.cell? ⟨b1, o1 + p * 10 + 5, none⟩ = some (.bool hs)) (y6 : w.cell? ⟨b1, o1 + p * 10 + 6, none⟩ = some (.string df)) (y7 : w.cell? ⟨b1, o1 + p * 10 + 7, none⟩ = some (.int .i64 sz)) (y8 : w.cell? ⟨b1, o1 + p * 10 + 8, none⟩ = some (.int .i64 it)) (y9 : w.cell? ⟨b1, o1 + p * 10 + 9, none⟩ = some (.slice X9 l9 x9)) (P : Nat → Prop) (IC : Hid (∀ j, j < ni → j < l3 → ∃ (ty : Int) (bf of_ b4 o4 : Nat) (z0 z1 z2 z3 z4 z5 : Value), X3 = some ⟨bf, of_, none⟩ ∧ bf < w.heap.size ∧ w.cell? ⟨bf, of_ + j * 9 + 2, none⟩ = some (.int .i64 ty) ∧ A4 = some ⟨b4, o4, none⟩ ∧ b4 < w.heap.size ∧ w.cell? ⟨b4, o4 + j * 6, none⟩ = some z0 ∧ w.cell? ⟨b4, o4 + j * 6 + 1, none⟩ = some z1 ∧ w.cell? ⟨b4, o4 + j * 6 + 2, none⟩ = some z2 ∧ w.cell? ⟨b4, o4 + j * 6 + 3, none⟩ = some z3 ∧ w.cell? ⟨b4, o4 + j * 6 + 4, none⟩ = some z4 ∧ w.cell? ⟨b4, o4 + j * 6 + 5, none⟩ = some z5 ∧ ∀ W, Below w.heap.size w W → Calls Tryz.prog 15 #[.agg #[.slice (some ⟨b1, o1, none⟩) nn c, .int .i64 rt], .int .i64 ty, .agg #[z0, z1, z2, z3, z4, z5]] W (Tells (P j) W))) (hni : ni ≤ 1000000) (R : Prop) (hR : R ↔ nb ≤ 20000 ∧ ni ≤ 300 ∧ (ni = l3 ∧ ∀ j, j < ni → P j) ∧ VJust 9 n bt nb ni nk) :
 Calls Tryz.prog 15 #[.agg #[.slice (some ⟨b1, o1, none⟩) nn c, .int .i64 rt], .int .i64 (p : Int), .agg #[.int .i64 9, .int .i64 n, .int .u64 bt, .slice A3 nb c3, .slice A4 ni c4, .slice A5 nk c5]] w (Tells R w) := by
 have CS := cell_set
 have q : (p : Int) < (nn : Int) := by omega
 have HR := Lib.hid hR
 have PJ : Hid (VJust 9 n bt nb ni nk ↔ n = 0 ∧ bt = 0 ∧ nb = 0 ∧ nk = 0) := by show _ ↔ _; unfold VJust; omega
 clear hR
 by_cases hb : (20000 : Int) < (nb : Int)
 · have qb : decide ((20000 : Int) < (nb : Int)) = true := by simpa using hb
   have Z : Hid (¬ R) := fun r => by have := (HR.out.1 r).1; omega
   clear hb HR PJ IC
   go_enter Tryz.func15, Tryz.ntmps15
   go_wp2_with fail
   go_ret
   exact tells_no (by first | rfl | (simp; omega)) Z.out bqq
 have qb : decide ((20000 : Int) < (nb : Int)) = false := by simpa using hb
 by_cases hi : (300 : Int) < (ni : Int)
 · have qi : decide ((300 : Int) < (ni : Int)) = true := by simpa using hi
   have Z : Hid (¬ R) := fun r => by have := (HR.out.1 r).2.1; omega
   clear hb hi HR PJ IC
   go_enter Tryz.func15, Tryz.ntmps15
   go_wp2_with fail
   go_ret
   exact tells_no (by first | rfl | (simp; omega)) Z.out bqq
 have qi : decide ((300 : Int) < (ni : Int)) = false := by simpa using hi
 have HB : Hid (nb ≤ 20000 ∧ ni ≤ 300) := ⟨by omega, by omega⟩
 have H0 : Hid (B2 ((((w.alloc (.cells #[.slice (some ⟨b1, o1, none⟩) nn c, .int .i64 rt] 24)).alloc (.cells #[.int .i64 9, .int .i64 n, .int .u64 bt, .slice A3 nb c3, .slice A4 ni c4, .slice A5 nk c5] 30)).alloc (.cells #[.int .i64 9, .string nm, .slice X2 l2 x2, .slice X3 l3 x3, .slice X4 l4 x4, .bool hs, .string df, .int .i64 sz, .int .i64 it, .slice X9 l9 x9] 42)).alloc (.cells #[.int .i64 9, .int .i64 0, .int .u64 0, .slice none 0 0, .slice A4 ni c4, .slice none 0 0] 30)) w.heap.size 24 (.slice (some ⟨b1, o1, none⟩) nn c) (.int .i64 rt)) := B2.alloc (B2.alloc (B2.alloc (B2.newat rfl) _) _) _
 have H1 : Hid (B6 ((((w.alloc (.cells #[.slice (some ⟨b1, o1, none⟩) nn c, .int .i64 rt] 24)).alloc (.cells #[.int .i64 9, .int .i64 n, .int .u64 bt, .slice A3 nb c3, .slice A4 ni c4, .slice A5 nk c5] 30)).alloc (.cells #[.int .i64 9, .string nm, .slice X2 l2 x2, .slice X3 l3 x3, .slice X4 l4 x4, .bool hs, .string df, .int .i64 sz, .int .i64 it, .slice X9 l9 x9] 42)).alloc (.cells #[.int .i64 9, .int .i64 0, .int .u64 0, .slice none 0 0, .slice A4 ni c4, .slice none 0 0] 30)) (w.heap.size + 1) 30 (.int .i64 9) (.int .i64 n) (.int .u64 bt) (.slice A3 nb c3) (.slice A4 ni c4) (.slice A5 nk c5)) := B6.alloc (B6.alloc (B6.newat (by simp)) _) _
 have H2 : Hid (B10 ((((w.alloc (.cells #[.slice (some ⟨b1, o1, none⟩) nn c, .int .i64 rt] 24)).alloc (.cells #[.int .i64 9, .int .i64 n, .int .u64 bt, .slice A3 nb c3, .slice A4 ni c4, .slice A5 nk c5] 30)).alloc (.cells #[.int .i64 9, .string nm, .slice X2 l2 x2, .slice X3 l3 x3, .slice X4 l4 x4, .bool hs, .string df, .int .i64 sz, .int .i64 it, .slice X9 l9 x9] 42)).alloc (.cells #[.int .i64 9, .int .i64 0, .int .u64 0, .slice none 0 0, .slice A4 ni c4, .slice none 0 0] 30)) (w.heap.size + 1 + 1) 42 (.int .i64 9) (.string nm) (.slice X2 l2 x2) (.slice X3 l3 x3) (.slice X4 l4 x4) (.bool hs) (.string df) (.int .i64 sz) (.int .i64 it) (.slice X9 l9 x9)) := B10.alloc (B10.newat (by simp)) _
 have H3 : Hid (B6 ((((w.alloc (.cells #[.slice (some ⟨b1, o1, none⟩) nn c, .int .i64 rt] 24)).alloc (.cells #[.int .i64 9, .int .i64 n, .int .u64 bt, .slice A3 nb c3, .slice A4 ni c4, .slice A5 nk c5] 30)).alloc (.cells #[.int .i64 9, .string nm, .slice X2 l2 x2, .slice X3 l3 x3, .slice X4 l4 x4, .bool hs, .string df, .int .i64 sz, .int .i64 it, .slice X9 l9 x9] 42)).alloc (.cells #[.int .i64 9, .int .i64 0, .int .u64 0, .slice none 0 0, .slice A4 ni c4, .slice none 0 0] 30)) (w.heap.size + 1 + 1 + 1) 30 (.int .i64 9) (.int .i64 0) (.int .u64 0) (.slice none 0 0) (.slice A4 ni c4) (.slice none 0 0)) := B6.newat (by simp)
 have BW : Hid (Below w.heap.size w ((((w.alloc (.cells #[.slice (some ⟨b1, o1, none⟩) nn c, .int .i64 rt] 24)).alloc (.cells #[.int .i64 9, .int .i64 n, .int .u64 bt, .slice A3 nb c3, .slice A4 ni c4, .slice A5 nk c5] 30)).alloc (.cells #[.int .i64 9, .string nm, .slice X2 l2 x2, .slice X3 l3 x3, .slice X4 l4 x4, .bool hs, .string df, .int .i64 sz, .int .i64 it, .slice X9 l9 x9] 42)).alloc (.cells #[.int .i64 9, .int .i64 0, .int .u64 0, .slice none 0 0, .slice A4 ni c4, .slice none 0 0] 30))) := ((((Below.refl _ _).alloc (Nat.le_refl _) _).alloc (by simp) _).alloc (by simp; omega) _).alloc (by simp; omega) _
 have ZW : Hid (((((w.alloc (.cells #[.slice (some ⟨b1, o1, none⟩) nn c, .int .i64 rt] 24)).alloc (.cells #[.int .i64 9, .int .i64 n, .int .u64 bt, .slice A3 nb c3, .slice A4 ni c4, .slice A5 nk c5] 30)).alloc (.cells #[.int .i64 9, .string nm, .slice X2 l2 x2, .slice X3 l3 x3, .slice X4 l4 x4, .bool hs, .string df, .int .i64 sz, .int .i64 it, .slice X9 l9 x9] 42)).alloc (.cells #[.int .i64 9, .int .i64 0, .int .u64 0, .slice none 0 0, .slice A4 ni c4, .slice none 0 0] 30)).heap.size = w.heap.size + 4) := by show _ = _; simp
 clear hb hi
 have hmax : ni ≤ 9223372036854775807 := by omega
 by_cases hl : ni = l3
 rotate_left
 · have e0 : ((ni : Int) == (l3 : Int)) = false := by rw [beq_eq_false_iff_ne]; omega
   have Z : Hid (¬ R) := fun r => hl (HR.out.1 r).2.2.1.1
   clear hl HR PJ IC
   go_enter Tryz.func15, Tryz.ntmps15
   go_wp2_with fail
   obtain ⟨W, hW⟩ : ∃ W, W = ((((w.alloc (.cells #[.slice (some ⟨b1, o1, none⟩) nn c, .int .i64 rt] 24)).alloc (.cells #[.int .i64 9, .int .i64 n, .int .u64 bt, .slice A3 nb c3, .slice A4 ni c4, .slice A5 nk c5] 30)).alloc (.cells #[.int .i64 9, .string nm, .slice X2 l2 x2, .slice X3 l3 x3, .slice X4 l4 x4, .bool hs, .string df, .int .i64 sz, .int .i64 it, .slice X9 l9 x9] 42)).alloc (.cells #[.int .i64 9, .int .i64 0, .int .u64 0, .slice none 0 0, .slice A4 ni c4, .slice none 0 0] 30)) := ⟨_, rfl⟩
   rw [← hW] at H0 H1 H2 H3 BW ZW
   rw [← hW]
   clear hW
   go_loopw [9, 10] (fun f x wr => x = .int .i64 0 ∧ f = .bool false ∧ Hid (Below W.heap.size W wr)) (fun _ _ _ => 0)
   case atStart => exact ⟨rfl, rfl, Below.refl _ _⟩
   case round =>
    obtain ⟨rfl, rfl, bl⟩ := hrel
    have zw := ZW.out
    have zl := bl.out.size
    have bwr : Below w.heap.size w wr := BW.out.trans (bl.out.mono (by omega))
    have M1 := Lib.hid (B6.below H1.out bl.out (by omega))
    have M2 := Lib.hid (B10.below H2.out bl.out (by omega))
    have M3 := Lib.hid (B6.below H3.out bl.out (by omega))
    clear zw
    obtain ⟨_, _, _, _, h4, _, _, _, _, _, _, _⟩ := B6.facts M1.out
    obtain ⟨_, _, _, _, _, _, _, _, h8, _, _, _, _, _, _, _, _, _, _, _⟩ := B10.facts M2.out
    obtain ⟨_, _, _, _, _, _, _, _, _, _, _, _⟩ := B6.facts M3.out
    by_cases hn0 : 0 < ni
    · have q0 : (0 : Int) < (ni : Int) := by omega
      go_wp2_with fail
      go_ret
      exact tells_no (by first | rfl | (simp; omega)) Z.out bwr
    · have q0 : ¬ (0 : Int) < (ni : Int) := by omega
      go_wp2_with fail
      go_ret
      exact tells_no (by first | rfl | (simp; omega)) Z.out bwr
 have e0 : ((ni : Int) == (l3 : Int)) = true := by rw [beq_iff_eq]; omega
 have HL := Lib.hid hl
 clear hl
 go_enter Tryz.func15, Tryz.ntmps15
 go_wp2_with fail
 obtain ⟨W, hW⟩ : ∃ W, W = ((((w.alloc (.cells #[.slice (some ⟨b1, o1, none⟩) nn c, .int .i64 rt] 24)).alloc (.cells #[.int .i64 9, .int .i64 n, .int .u64 bt, .slice A3 nb c3, .slice A4 ni c4, .slice A5 nk c5] 30)).alloc (.cells #[.int .i64 9, .string nm, .slice X2 l2 x2, .slice X3 l3 x3, .slice X4 l4 x4, .bool hs, .string df, .int .i64 sz, .int .i64 it, .slice X9 l9 x9] 42)).alloc (.cells #[.int .i64 9, .int .i64 0, .int .u64 0, .slice none 0 0, .slice A4 ni c4, .slice none 0 0] 30)) := ⟨_, rfl⟩
 rw [← hW] at H0 H1 H2 H3 BW ZW
 rw [← hW]
 clear hW
 go_loopw [9, 10] (fun f x wr => ∃ (b : Bool) (i : Nat), i ≤ ni ∧ x = .int .i64 (i : Int) ∧ f = .bool b ∧ Hid (b = true ↔ ∀ j, j < i → P j) ∧ Hid (Below W.heap.size W wr)) (fun _ x _ => ni - (intOf x).toNat)
 case atStart => exact ⟨true, 0, Nat.zero_le _, rfl, rfl, ⟨fun _ j hj => absurd hj (Nat.not_lt_zero _), fun _ => rfl⟩, Below.refl _ _⟩
 case round =>
  obtain ⟨b, i, hi, rfl, rfl, HF, bl⟩ := hrel
  have zw := ZW.out
  have zl := bl.out.size
  have bwr : Below w.heap.size w wr := BW.out.trans (bl.out.mono (by omega))
  have M0 := Lib.hid (B2.below H0.out bl.out (by omega))
  have M1 := Lib.hid (B6.below H1.out bl.out (by omega))
  have M2 := Lib.hid (B10.below H2.out bl.out (by omega))
  have M3 := Lib.hid (B6.below H3.out bl.out (by omega))
  clear zw
  obtain ⟨h0, h0b, _, _⟩ := B2.facts M0.out
  obtain ⟨_, _, _, _, h4, _, _, _, _, _, _, _⟩ := B6.facts M1.out
  obtain ⟨_, _, _, _, _, _, _, _, h8, _, _, _, _, _, _, _, _, _, _, _⟩ := B10.facts M2.out
  obtain ⟨_, _, _, _, _, _, _, _, _, _, _, _⟩ := B6.facts M3.out
  by_cases hin : i < ni
  · have qi2 : (i : Int) < (ni : Int) := by omega
    cases b with
    | false =>
     have Z : Hid (¬ R) := fun r => by have := HF.out.2 (fun j hj => (HR.out.1 r).2.2.1.2 j (by omega)); cases this
     clear HR PJ HF IC
     go_wp2_with fail
     go_ret
     exact tells_no (by first | rfl | (simp; omega)) Z.out bwr
    | true =>
     obtain ⟨ty, bf, of_, b4, o4, z0, z1, z2, z3, z4, z5, e3, lb3, kf, e4, lb4, u0, u1, u2, u3, u4, u5, CI⟩ := IC.out i hin (by have := HL.out; omega)
     have kf := (bwr.cell (p := ⟨bf, of_ + i * 9 + 2, none⟩) lb3).trans kf
     have qf : (i : Int) < (l3 : Int) := by have := HL.out; omega
     have u0 := (bwr.cell (p := ⟨b4, o4 + i * 6, none⟩) lb4).trans u0; have u1 := (bwr.cell (p := ⟨b4, o4 + i * 6 + 1, none⟩) lb4).trans u1; have u2 := (bwr.cell (p := ⟨b4, o4 + i * 6 + 2, none⟩) lb4).trans u2; have u3 := (bwr.cell (p := ⟨b4, o4 + i * 6 + 3, none⟩) lb4).trans u3; have u4 := (bwr.cell (p := ⟨b4, o4 + i * 6 + 4, none⟩) lb4).trans u4; have u5 := (bwr.cell (p := ⟨b4, o4 + i * 6 + 5, none⟩) lb4).trans u5
     subst e4 e3
     have CIH := Lib.hid CI
     have BWR := Lib.hid bwr
     have HA := Lib.hid (HF.out.1 (by first | rfl | trivial))
     have HNX : Hid (∀ b : Bool, (b = true ↔ P i) → (b = true ↔ ∀ j, j < i + 1 → P j)) := fun b hb => hb.trans ⟨fun g j hj => by
      rcases Nat.lt_or_ge j i with h | h
      · exact HA.out j h
      · obtain rfl : j = i := by omega
        exact g, fun g => g i (by omega)⟩
     clear CI HF
     go_wp2_with fail
     go_region_with (first | (go_at_call 15; (with_reducible refine (CIH.out _ BWR.out.drew).mono ?_); rintro e w3 ⟨b, rfl, hbb, b3'⟩; have HB2 := Lib.hid hbb; clear hbb; have b3 := Lib.hid (b3'.mono (Nat.le_refl _)); clear b3'))
     all_goals
      have HN := Lib.hid (HNX.out b HB2.out)
      have b5 : Below W.heap.size W w3 := bl.out.trans (Below.mono (Below.trans (Below.refl wr.heap.size wr).drew b3.out) zl)
      go_wp2_with fail
      go_roundw
      case rel => exact ⟨b, i + 1, by omega, by go_num, rfl, HN, b5⟩
      case measure => simp [intOf]; omega
  · obtain rfl : i = ni := by omega
    have qi2 : ¬ (i : Int) < (i : Int) := by omega
    cases b with
    | false =>
     have Z : Hid (¬ R) := fun r => by have := HF.out.2 (fun j hj => (HR.out.1 r).2.2.1.2 j (by omega)); cases this
     clear HR PJ HF IC
     go_wp2_with fail
     go_ret
     exact tells_no (by first | rfl | (simp; omega)) Z.out bwr
    | true =>
     have HA := Lib.hid (HF.out.1 (by first | rfl | trivial))
     clear HF IC
     by_cases g0 : n = 0
     rotate_left
     · have e0a : ((0 : Int) == n) = false := by rw [beq_eq_false_iff_ne]; omega
       have Z : Hid (¬ R) := fun r => g0 (PJ.out.1 (HR.out.1 r).2.2.2).1
       clear g0 HR PJ 
       go_wp2_with fail
       go_ret
       exact tells_no (by first | rfl | (simp; omega)) Z.out bwr
     have e0a : ((0 : Int) == n) = true := by rw [beq_iff_eq]; omega
     by_cases g1 : bt = 0
     rotate_left
     · have e1a : ((0 : Int) == bt) = false := by rw [beq_eq_false_iff_ne]; omega
       have Z : Hid (¬ R) := fun r => g1 (PJ.out.1 (HR.out.1 r).2.2.2).2.1
       clear g1 HR PJ g0
       go_wp2_with fail
       go_ret
       exact tells_no (by first | rfl | (simp; omega)) Z.out bwr
     have e1a : ((0 : Int) == bt) = true := by rw [beq_iff_eq]; omega
     by_cases g2 : nb = 0
     rotate_left
     · have e2a : ((0 : Int) == (nb : Int)) = false := by rw [beq_eq_false_iff_ne]; omega
       have Z : Hid (¬ R) := fun r => g2 (PJ.out.1 (HR.out.1 r).2.2.2).2.2.1
       clear g2 HR PJ g0 g1
       go_wp2_with fail
       go_ret
       exact tells_no (by first | rfl | (simp; omega)) Z.out bwr
     have e2a : ((0 : Int) == (nb : Int)) = true := by rw [beq_iff_eq]; omega
     by_cases g3 : nk = 0
     rotate_left
     · have e3a : ((0 : Int) == (nk : Int)) = false := by rw [beq_eq_false_iff_ne]; omega
       have Z : Hid (¬ R) := fun r => g3 (PJ.out.1 (HR.out.1 r).2.2.2).2.2.2
       clear g3 HR PJ g0 g1 g2
       go_wp2_with fail
       go_ret
       exact tells_no (by first | rfl | (simp; omega)) Z.out bwr
     have e3a : ((0 : Int) == (nk : Int)) = true := by rw [beq_iff_eq]; omega
     have Z : Hid R := HR.out.2 ⟨HB.out.1, HB.out.2, ⟨HL.out, HA.out⟩, PJ.out.2 ⟨g0, g1, g2, g3⟩⟩
     clear HR PJ g0 g1 g2 g3
     go_wp2_with fail
     go_ret
     exact tells_yes (by first | rfl | (simp; omega)) Z.out bwr
end Go.Proofs.YtpmgjpchpmkklaaGreatDoor
