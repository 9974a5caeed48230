/- Joined by tools/bundle.py: VCD VCE. -/
import Derived.Deep.LoopGhost
import Derived.Deep.RegionHeldLaw
import Derived.BigQuiet
import Derived.Test.YthfoomobicbcpaaGreatDoorZ5
import Derived.Test.YthfoomobicbcpaaGreatDoorZ8
import Derived.Test.YthfoomobicbcpaaGreatDoorZ14
import Derived.Test.YthfoomobicbcpaaGreatDoorZ0
set_option maxRecDepth 100000
set_option maxHeartbeats 16000000
namespace Go.Proofs.YthfoomobicbcpaaGreatDoor
open Go.ChangeShapes Go.WideShapes Go.ChangeAt Go.RowKit Mem
theorem among_pure (p c : Int) (w : World) : Calls Tryz.prog 41 #[.int .i64 p, .int .i64 c] w (fun e w' => e = .returned (.bool (decide (0 ≤ p ∧ p < c))) ∧ w' = w) := by
 by_cases h0 : 0 ≤ p
 · by_cases h1 : p < c
   · rw [show decide (0 ≤ p ∧ p < c) = true by simp [h0, h1]]
     go_enter Tryz.func41, Tryz.ntmps41
     go_wp2_with fail
     go_ret
     exact ⟨rfl, rfl⟩
   · rw [show decide (0 ≤ p ∧ p < c) = false by simp [h1]]
     go_enter Tryz.func41, Tryz.ntmps41
     go_wp2_with fail
     go_ret
     exact ⟨rfl, rfl⟩
 · rw [show decide (0 ≤ p ∧ p < c) = false by simp [h0]]
   go_enter Tryz.func41, Tryz.ntmps41
   go_wp2_with fail
   go_ret
   exact ⟨rfl, rfl⟩
theorem vjust_1 (n bt : Int) (nb ni nk : Nat) (A3 A4 A5 : Option Addr) (c3 c4 c5 : Nat) (w : World) :
 Calls Tryz.prog 85 #[.agg #[.int .i64 1, .int .i64 n, .int .u64 bt, .slice A3 nb c3, .slice A4 ni c4, .slice A5 nk c5]] w (Tells (VJust 1 n bt nb ni nk) w) := by
 have CS := cell_set
 have P : VJust 1 n bt nb ni nk ↔ n = 0 ∧ bt = 0 ∧ nb = 0 ∧ ni = 0 ∧ nk = 0 := by unfold VJust; omega
 generalize VJust 1 n bt nb ni nk = Q at *
 by_cases h0 : n = 0
 rotate_left
 · have Z : Hid (¬ Q) := fun p => h0 (have p := P.1 p; p.1)
   have q0 : (n == 0) = false := by rw [beq_eq_false_iff_ne]; omega
   clear P h0 
   go_enter Tryz.func85, Tryz.ntmps85
   go_wp2_with fail
   go_ret
   exact tells_no rfl Z.out bqq
 have q0 : (n == 0) = true := by rw [beq_iff_eq]; omega
 by_cases h1 : bt = 0
 rotate_left
 · have Z : Hid (¬ Q) := fun p => h1 (have p := P.1 p; p.2.1)
   have q1 : (bt == 0) = false := by rw [beq_eq_false_iff_ne]; omega
   clear P h1 h0
   go_enter Tryz.func85, Tryz.ntmps85
   go_wp2_with fail
   go_ret
   exact tells_no rfl Z.out bqq
 have q1 : (bt == 0) = true := by rw [beq_iff_eq]; omega
 by_cases h2 : nb = 0
 rotate_left
 · have Z : Hid (¬ Q) := fun p => h2 (have p := P.1 p; p.2.2.1)
   have q2 : ((nb : Int) == 0) = false := by rw [beq_eq_false_iff_ne]; omega
   clear P h2 h0 h1
   go_enter Tryz.func85, Tryz.ntmps85
   go_wp2_with fail
   go_ret
   exact tells_no rfl Z.out bqq
 have q2 : ((nb : Int) == 0) = true := by rw [beq_iff_eq]; omega
 by_cases h3 : ni = 0
 rotate_left
 · have Z : Hid (¬ Q) := fun p => h3 (have p := P.1 p; p.2.2.2.1)
   have q3 : ((ni : Int) == 0) = false := by rw [beq_eq_false_iff_ne]; omega
   clear P h3 h0 h1 h2
   go_enter Tryz.func85, Tryz.ntmps85
   go_wp2_with fail
   go_ret
   exact tells_no rfl Z.out bqq
 have q3 : ((ni : Int) == 0) = true := by rw [beq_iff_eq]; omega
 by_cases h4 : nk = 0
 rotate_left
 · have Z : Hid (¬ Q) := fun p => h4 (have p := P.1 p; p.2.2.2.2)
   have q4 : ((nk : Int) == 0) = false := by rw [beq_eq_false_iff_ne]; omega
   clear P h4 h0 h1 h2 h3
   go_enter Tryz.func85, Tryz.ntmps85
   go_wp2_with fail
   go_ret
   exact tells_no rfl Z.out bqq
 have q4 : ((nk : Int) == 0) = true := by rw [beq_iff_eq]; omega
 have Z : Hid Q := P.2 ⟨h0, h1, h2, h3, h4⟩
 clear P h0 h1 h2 h3 h4
 go_enter Tryz.func85, Tryz.ntmps85
 go_wp2_with fail
 go_ret
 exact tells_yes rfl Z.out bqq
theorem vjust_2 (n bt : Int) (nb ni nk : Nat) (A3 A4 A5 : Option Addr) (c3 c4 c5 : Nat) (w : World) :
 Calls Tryz.prog 85 #[.agg #[.int .i64 2, .int .i64 n, .int .u64 bt, .slice A3 nb c3, .slice A4 ni c4, .slice A5 nk c5]] w (Tells (VJust 2 n bt nb ni nk) w) := by
 have CS := cell_set
 have P : VJust 2 n bt nb ni nk ↔ bt = 0 ∧ nb = 0 ∧ ni = 0 ∧ nk = 0 := by unfold VJust; omega
 generalize VJust 2 n bt nb ni nk = Q at *
 by_cases h0 : bt = 0
 rotate_left
 · have Z : Hid (¬ Q) := fun p => h0 (have p := P.1 p; p.1)
   have q0 : (bt == 0) = false := by rw [beq_eq_false_iff_ne]; omega
   clear P h0 
   go_enter Tryz.func85, Tryz.ntmps85
   go_wp2_with fail
   go_ret
   exact tells_no rfl Z.out bqq
 have q0 : (bt == 0) = true := by rw [beq_iff_eq]; omega
 by_cases h1 : nb = 0
 rotate_left
 · have Z : Hid (¬ Q) := fun p => h1 (have p := P.1 p; p.2.1)
   have q1 : ((nb : Int) == 0) = false := by rw [beq_eq_false_iff_ne]; omega
   clear P h1 h0
   go_enter Tryz.func85, Tryz.ntmps85
   go_wp2_with fail
   go_ret
   exact tells_no rfl Z.out bqq
 have q1 : ((nb : Int) == 0) = true := by rw [beq_iff_eq]; omega
 by_cases h2 : ni = 0
 rotate_left
 · have Z : Hid (¬ Q) := fun p => h2 (have p := P.1 p; p.2.2.1)
   have q2 : ((ni : Int) == 0) = false := by rw [beq_eq_false_iff_ne]; omega
   clear P h2 h0 h1
   go_enter Tryz.func85, Tryz.ntmps85
   go_wp2_with fail
   go_ret
   exact tells_no rfl Z.out bqq
 have q2 : ((ni : Int) == 0) = true := by rw [beq_iff_eq]; omega
 by_cases h3 : nk = 0
 rotate_left
 · have Z : Hid (¬ Q) := fun p => h3 (have p := P.1 p; p.2.2.2)
   have q3 : ((nk : Int) == 0) = false := by rw [beq_eq_false_iff_ne]; omega
   clear P h3 h0 h1 h2
   go_enter Tryz.func85, Tryz.ntmps85
   go_wp2_with fail
   go_ret
   exact tells_no rfl Z.out bqq
 have q3 : ((nk : Int) == 0) = true := by rw [beq_iff_eq]; omega
 have Z : Hid Q := P.2 ⟨h0, h1, h2, h3⟩
 clear P h0 h1 h2 h3
 go_enter Tryz.func85, Tryz.ntmps85
 go_wp2_with fail
 go_ret
 exact tells_yes rfl Z.out bqq
theorem vjust_3 (n bt : Int) (nb ni nk : Nat) (A3 A4 A5 : Option Addr) (c3 c4 c5 : Nat) (w : World) :
 Calls Tryz.prog 85 #[.agg #[.int .i64 3, .int .i64 n, .int .u64 bt, .slice A3 nb c3, .slice A4 ni c4, .slice A5 nk c5]] w (Tells (VJust 3 n bt nb ni nk) w) := by
 have CS := cell_set
 have P : VJust 3 n bt nb ni nk ↔ bt = 0 ∧ nb = 0 ∧ ni = 0 ∧ nk = 0 := by unfold VJust; omega
 generalize VJust 3 n bt nb ni nk = Q at *
 by_cases h0 : bt = 0
 rotate_left
 · have Z : Hid (¬ Q) := fun p => h0 (have p := P.1 p; p.1)
   have q0 : (bt == 0) = false := by rw [beq_eq_false_iff_ne]; omega
   clear P h0 
   go_enter Tryz.func85, Tryz.ntmps85
   go_wp2_with fail
   go_ret
   exact tells_no rfl Z.out bqq
 have q0 : (bt == 0) = true := by rw [beq_iff_eq]; omega
 by_cases h1 : nb = 0
 rotate_left
 · have Z : Hid (¬ Q) := fun p => h1 (have p := P.1 p; p.2.1)
   have q1 : ((nb : Int) == 0) = false := by rw [beq_eq_false_iff_ne]; omega
   clear P h1 h0
   go_enter Tryz.func85, Tryz.ntmps85
   go_wp2_with fail
   go_ret
   exact tells_no rfl Z.out bqq
 have q1 : ((nb : Int) == 0) = true := by rw [beq_iff_eq]; omega
 by_cases h2 : ni = 0
 rotate_left
 · have Z : Hid (¬ Q) := fun p => h2 (have p := P.1 p; p.2.2.1)
   have q2 : ((ni : Int) == 0) = false := by rw [beq_eq_false_iff_ne]; omega
   clear P h2 h0 h1
   go_enter Tryz.func85, Tryz.ntmps85
   go_wp2_with fail
   go_ret
   exact tells_no rfl Z.out bqq
 have q2 : ((ni : Int) == 0) = true := by rw [beq_iff_eq]; omega
 by_cases h3 : nk = 0
 rotate_left
 · have Z : Hid (¬ Q) := fun p => h3 (have p := P.1 p; p.2.2.2)
   have q3 : ((nk : Int) == 0) = false := by rw [beq_eq_false_iff_ne]; omega
   clear P h3 h0 h1 h2
   go_enter Tryz.func85, Tryz.ntmps85
   go_wp2_with fail
   go_ret
   exact tells_no rfl Z.out bqq
 have q3 : ((nk : Int) == 0) = true := by rw [beq_iff_eq]; omega
 have Z : Hid Q := P.2 ⟨h0, h1, h2, h3⟩
 clear P h0 h1 h2 h3
 go_enter Tryz.func85, Tryz.ntmps85
 go_wp2_with fail
 go_ret
 exact tells_yes rfl Z.out bqq
theorem vjust_4 (n bt : Int) (nb ni nk : Nat) (A3 A4 A5 : Option Addr) (c3 c4 c5 : Nat) (w : World) :
 Calls Tryz.prog 85 #[.agg #[.int .i64 4, .int .i64 n, .int .u64 bt, .slice A3 nb c3, .slice A4 ni c4, .slice A5 nk c5]] w (Tells (VJust 4 n bt nb ni nk) w) := by
 have CS := cell_set
 have P : VJust 4 n bt nb ni nk ↔ bt = 0 ∧ nb = 0 ∧ ni = 0 ∧ nk = 0 := by unfold VJust; omega
 generalize VJust 4 n bt nb ni nk = Q at *
 by_cases h0 : bt = 0
 rotate_left
 · have Z : Hid (¬ Q) := fun p => h0 (have p := P.1 p; p.1)
   have q0 : (bt == 0) = false := by rw [beq_eq_false_iff_ne]; omega
   clear P h0 
   go_enter Tryz.func85, Tryz.ntmps85
   go_wp2_with fail
   go_ret
   exact tells_no rfl Z.out bqq
 have q0 : (bt == 0) = true := by rw [beq_iff_eq]; omega
 by_cases h1 : nb = 0
 rotate_left
 · have Z : Hid (¬ Q) := fun p => h1 (have p := P.1 p; p.2.1)
   have q1 : ((nb : Int) == 0) = false := by rw [beq_eq_false_iff_ne]; omega
   clear P h1 h0
   go_enter Tryz.func85, Tryz.ntmps85
   go_wp2_with fail
   go_ret
   exact tells_no rfl Z.out bqq
 have q1 : ((nb : Int) == 0) = true := by rw [beq_iff_eq]; omega
 by_cases h2 : ni = 0
 rotate_left
 · have Z : Hid (¬ Q) := fun p => h2 (have p := P.1 p; p.2.2.1)
   have q2 : ((ni : Int) == 0) = false := by rw [beq_eq_false_iff_ne]; omega
   clear P h2 h0 h1
   go_enter Tryz.func85, Tryz.ntmps85
   go_wp2_with fail
   go_ret
   exact tells_no rfl Z.out bqq
 have q2 : ((ni : Int) == 0) = true := by rw [beq_iff_eq]; omega
 by_cases h3 : nk = 0
 rotate_left
 · have Z : Hid (¬ Q) := fun p => h3 (have p := P.1 p; p.2.2.2)
   have q3 : ((nk : Int) == 0) = false := by rw [beq_eq_false_iff_ne]; omega
   clear P h3 h0 h1 h2
   go_enter Tryz.func85, Tryz.ntmps85
   go_wp2_with fail
   go_ret
   exact tells_no rfl Z.out bqq
 have q3 : ((nk : Int) == 0) = true := by rw [beq_iff_eq]; omega
 have Z : Hid Q := P.2 ⟨h0, h1, h2, h3⟩
 clear P h0 h1 h2 h3
 go_enter Tryz.func85, Tryz.ntmps85
 go_wp2_with fail
 go_ret
 exact tells_yes rfl Z.out bqq
theorem vjust_5 (n bt : Int) (nb ni nk : Nat) (A3 A4 A5 : Option Addr) (c3 c4 c5 : Nat) (w : World) :
 Calls Tryz.prog 85 #[.agg #[.int .i64 5, .int .i64 n, .int .u64 bt, .slice A3 nb c3, .slice A4 ni c4, .slice A5 nk c5]] w (Tells (VJust 5 n bt nb ni nk) w) := by
 have CS := cell_set
 have P : VJust 5 n bt nb ni nk ↔ n = 0 ∧ nb = 0 ∧ ni = 0 ∧ nk = 0 := by unfold VJust; omega
 generalize VJust 5 n bt nb ni nk = Q at *
 by_cases h0 : n = 0
 rotate_left
 · have Z : Hid (¬ Q) := fun p => h0 (have p := P.1 p; p.1)
   have q0 : (n == 0) = false := by rw [beq_eq_false_iff_ne]; omega
   clear P h0 
   go_enter Tryz.func85, Tryz.ntmps85
   go_wp2_with fail
   go_ret
   exact tells_no rfl Z.out bqq
 have q0 : (n == 0) = true := by rw [beq_iff_eq]; omega
 by_cases h1 : nb = 0
 rotate_left
 · have Z : Hid (¬ Q) := fun p => h1 (have p := P.1 p; p.2.1)
   have q1 : ((nb : Int) == 0) = false := by rw [beq_eq_false_iff_ne]; omega
   clear P h1 h0
   go_enter Tryz.func85, Tryz.ntmps85
   go_wp2_with fail
   go_ret
   exact tells_no rfl Z.out bqq
 have q1 : ((nb : Int) == 0) = true := by rw [beq_iff_eq]; omega
 by_cases h2 : ni = 0
 rotate_left
 · have Z : Hid (¬ Q) := fun p => h2 (have p := P.1 p; p.2.2.1)
   have q2 : ((ni : Int) == 0) = false := by rw [beq_eq_false_iff_ne]; omega
   clear P h2 h0 h1
   go_enter Tryz.func85, Tryz.ntmps85
   go_wp2_with fail
   go_ret
   exact tells_no rfl Z.out bqq
 have q2 : ((ni : Int) == 0) = true := by rw [beq_iff_eq]; omega
 by_cases h3 : nk = 0
 rotate_left
 · have Z : Hid (¬ Q) := fun p => h3 (have p := P.1 p; p.2.2.2)
   have q3 : ((nk : Int) == 0) = false := by rw [beq_eq_false_iff_ne]; omega
   clear P h3 h0 h1 h2
   go_enter Tryz.func85, Tryz.ntmps85
   go_wp2_with fail
   go_ret
   exact tells_no rfl Z.out bqq
 have q3 : ((nk : Int) == 0) = true := by rw [beq_iff_eq]; omega
 have Z : Hid Q := P.2 ⟨h0, h1, h2, h3⟩
 clear P h0 h1 h2 h3
 go_enter Tryz.func85, Tryz.ntmps85
 go_wp2_with fail
 go_ret
 exact tells_yes rfl Z.out bqq
theorem vjust_6 (n bt : Int) (nb ni nk : Nat) (A3 A4 A5 : Option Addr) (c3 c4 c5 : Nat) (w : World) :
 Calls Tryz.prog 85 #[.agg #[.int .i64 6, .int .i64 n, .int .u64 bt, .slice A3 nb c3, .slice A4 ni c4, .slice A5 nk c5]] w (Tells (VJust 6 n bt nb ni nk) w) := by
 have CS := cell_set
 have P : VJust 6 n bt nb ni nk ↔ n = 0 ∧ nb = 0 ∧ ni = 0 ∧ nk = 0 := by unfold VJust; omega
 generalize VJust 6 n bt nb ni nk = Q at *
 by_cases h0 : n = 0
 rotate_left
 · have Z : Hid (¬ Q) := fun p => h0 (have p := P.1 p; p.1)
   have q0 : (n == 0) = false := by rw [beq_eq_false_iff_ne]; omega
   clear P h0 
   go_enter Tryz.func85, Tryz.ntmps85
   go_wp2_with fail
   go_ret
   exact tells_no rfl Z.out bqq
 have q0 : (n == 0) = true := by rw [beq_iff_eq]; omega
 by_cases h1 : nb = 0
 rotate_left
 · have Z : Hid (¬ Q) := fun p => h1 (have p := P.1 p; p.2.1)
   have q1 : ((nb : Int) == 0) = false := by rw [beq_eq_false_iff_ne]; omega
   clear P h1 h0
   go_enter Tryz.func85, Tryz.ntmps85
   go_wp2_with fail
   go_ret
   exact tells_no rfl Z.out bqq
 have q1 : ((nb : Int) == 0) = true := by rw [beq_iff_eq]; omega
 by_cases h2 : ni = 0
 rotate_left
 · have Z : Hid (¬ Q) := fun p => h2 (have p := P.1 p; p.2.2.1)
   have q2 : ((ni : Int) == 0) = false := by rw [beq_eq_false_iff_ne]; omega
   clear P h2 h0 h1
   go_enter Tryz.func85, Tryz.ntmps85
   go_wp2_with fail
   go_ret
   exact tells_no rfl Z.out bqq
 have q2 : ((ni : Int) == 0) = true := by rw [beq_iff_eq]; omega
 by_cases h3 : nk = 0
 rotate_left
 · have Z : Hid (¬ Q) := fun p => h3 (have p := P.1 p; p.2.2.2)
   have q3 : ((nk : Int) == 0) = false := by rw [beq_eq_false_iff_ne]; omega
   clear P h3 h0 h1 h2
   go_enter Tryz.func85, Tryz.ntmps85
   go_wp2_with fail
   go_ret
   exact tells_no rfl Z.out bqq
 have q3 : ((nk : Int) == 0) = true := by rw [beq_iff_eq]; omega
 have Z : Hid Q := P.2 ⟨h0, h1, h2, h3⟩
 clear P h0 h1 h2 h3
 go_enter Tryz.func85, Tryz.ntmps85
 go_wp2_with fail
 go_ret
 exact tells_yes rfl Z.out bqq
theorem vjust_7 (n bt : Int) (nb ni nk : Nat) (A3 A4 A5 : Option Addr) (c3 c4 c5 : Nat) (w : World) :
 Calls Tryz.prog 85 #[.agg #[.int .i64 7, .int .i64 n, .int .u64 bt, .slice A3 nb c3, .slice A4 ni c4, .slice A5 nk c5]] w (Tells (VJust 7 n bt nb ni nk) w) := by
 have CS := cell_set
 have P : VJust 7 n bt nb ni nk ↔ n = 0 ∧ bt = 0 ∧ ni = 0 ∧ nk = 0 := by unfold VJust; omega
 generalize VJust 7 n bt nb ni nk = Q at *
 by_cases h0 : n = 0
 rotate_left
 · have Z : Hid (¬ Q) := fun p => h0 (have p := P.1 p; p.1)
   have q0 : (n == 0) = false := by rw [beq_eq_false_iff_ne]; omega
   clear P h0 
   go_enter Tryz.func85, Tryz.ntmps85
   go_wp2_with fail
   go_ret
   exact tells_no rfl Z.out bqq
 have q0 : (n == 0) = true := by rw [beq_iff_eq]; omega
 by_cases h1 : bt = 0
 rotate_left
 · have Z : Hid (¬ Q) := fun p => h1 (have p := P.1 p; p.2.1)
   have q1 : (bt == 0) = false := by rw [beq_eq_false_iff_ne]; omega
   clear P h1 h0
   go_enter Tryz.func85, Tryz.ntmps85
   go_wp2_with fail
   go_ret
   exact tells_no rfl Z.out bqq
 have q1 : (bt == 0) = true := by rw [beq_iff_eq]; omega
 by_cases h2 : ni = 0
 rotate_left
 · have Z : Hid (¬ Q) := fun p => h2 (have p := P.1 p; p.2.2.1)
   have q2 : ((ni : Int) == 0) = false := by rw [beq_eq_false_iff_ne]; omega
   clear P h2 h0 h1
   go_enter Tryz.func85, Tryz.ntmps85
   go_wp2_with fail
   go_ret
   exact tells_no rfl Z.out bqq
 have q2 : ((ni : Int) == 0) = true := by rw [beq_iff_eq]; omega
 by_cases h3 : nk = 0
 rotate_left
 · have Z : Hid (¬ Q) := fun p => h3 (have p := P.1 p; p.2.2.2)
   have q3 : ((nk : Int) == 0) = false := by rw [beq_eq_false_iff_ne]; omega
   clear P h3 h0 h1 h2
   go_enter Tryz.func85, Tryz.ntmps85
   go_wp2_with fail
   go_ret
   exact tells_no rfl Z.out bqq
 have q3 : ((nk : Int) == 0) = true := by rw [beq_iff_eq]; omega
 have Z : Hid Q := P.2 ⟨h0, h1, h2, h3⟩
 clear P h0 h1 h2 h3
 go_enter Tryz.func85, Tryz.ntmps85
 go_wp2_with fail
 go_ret
 exact tells_yes rfl Z.out bqq
theorem vjust_8 (n bt : Int) (nb ni nk : Nat) (A3 A4 A5 : Option Addr) (c3 c4 c5 : Nat) (w : World) :
 Calls Tryz.prog 85 #[.agg #[.int .i64 8, .int .i64 n, .int .u64 bt, .slice A3 nb c3, .slice A4 ni c4, .slice A5 nk c5]] w (Tells (VJust 8 n bt nb ni nk) w) := by
 have CS := cell_set
 have P : VJust 8 n bt nb ni nk ↔ n = 0 ∧ bt = 0 ∧ ni = 0 ∧ nk = 0 := by unfold VJust; omega
 generalize VJust 8 n bt nb ni nk = Q at *
 by_cases h0 : n = 0
 rotate_left
 · have Z : Hid (¬ Q) := fun p => h0 (have p := P.1 p; p.1)
   have q0 : (n == 0) = false := by rw [beq_eq_false_iff_ne]; omega
   clear P h0 
   go_enter Tryz.func85, Tryz.ntmps85
   go_wp2_with fail
   go_ret
   exact tells_no rfl Z.out bqq
 have q0 : (n == 0) = true := by rw [beq_iff_eq]; omega
 by_cases h1 : bt = 0
 rotate_left
 · have Z : Hid (¬ Q) := fun p => h1 (have p := P.1 p; p.2.1)
   have q1 : (bt == 0) = false := by rw [beq_eq_false_iff_ne]; omega
   clear P h1 h0
   go_enter Tryz.func85, Tryz.ntmps85
   go_wp2_with fail
   go_ret
   exact tells_no rfl Z.out bqq
 have q1 : (bt == 0) = true := by rw [beq_iff_eq]; omega
 by_cases h2 : ni = 0
 rotate_left
 · have Z : Hid (¬ Q) := fun p => h2 (have p := P.1 p; p.2.2.1)
   have q2 : ((ni : Int) == 0) = false := by rw [beq_eq_false_iff_ne]; omega
   clear P h2 h0 h1
   go_enter Tryz.func85, Tryz.ntmps85
   go_wp2_with fail
   go_ret
   exact tells_no rfl Z.out bqq
 have q2 : ((ni : Int) == 0) = true := by rw [beq_iff_eq]; omega
 by_cases h3 : nk = 0
 rotate_left
 · have Z : Hid (¬ Q) := fun p => h3 (have p := P.1 p; p.2.2.2)
   have q3 : ((nk : Int) == 0) = false := by rw [beq_eq_false_iff_ne]; omega
   clear P h3 h0 h1 h2
   go_enter Tryz.func85, Tryz.ntmps85
   go_wp2_with fail
   go_ret
   exact tells_no rfl Z.out bqq
 have q3 : ((nk : Int) == 0) = true := by rw [beq_iff_eq]; omega
 have Z : Hid Q := P.2 ⟨h0, h1, h2, h3⟩
 clear P h0 h1 h2 h3
 go_enter Tryz.func85, Tryz.ntmps85
 go_wp2_with fail
 go_ret
 exact tells_yes rfl Z.out bqq
theorem vjust_9 (n bt : Int) (nb ni nk : Nat) (A3 A4 A5 : Option Addr) (c3 c4 c5 : Nat) (w : World) :
 Calls Tryz.prog 85 #[.agg #[.int .i64 9, .int .i64 n, .int .u64 bt, .slice A3 nb c3, .slice A4 ni c4, .slice A5 nk c5]] w (Tells (VJust 9 n bt nb ni nk) w) := by
 have CS := cell_set
 have P : VJust 9 n bt nb ni nk ↔ n = 0 ∧ bt = 0 ∧ nb = 0 ∧ nk = 0 := by unfold VJust; omega
 generalize VJust 9 n bt nb ni nk = Q at *
 by_cases h0 : n = 0
 rotate_left
 · have Z : Hid (¬ Q) := fun p => h0 (have p := P.1 p; p.1)
   have q0 : (n == 0) = false := by rw [beq_eq_false_iff_ne]; omega
   clear P h0 
   go_enter Tryz.func85, Tryz.ntmps85
   go_wp2_with fail
   go_ret
   exact tells_no rfl Z.out bqq
 have q0 : (n == 0) = true := by rw [beq_iff_eq]; omega
 by_cases h1 : bt = 0
 rotate_left
 · have Z : Hid (¬ Q) := fun p => h1 (have p := P.1 p; p.2.1)
   have q1 : (bt == 0) = false := by rw [beq_eq_false_iff_ne]; omega
   clear P h1 h0
   go_enter Tryz.func85, Tryz.ntmps85
   go_wp2_with fail
   go_ret
   exact tells_no rfl Z.out bqq
 have q1 : (bt == 0) = true := by rw [beq_iff_eq]; omega
 by_cases h2 : nb = 0
 rotate_left
 · have Z : Hid (¬ Q) := fun p => h2 (have p := P.1 p; p.2.2.1)
   have q2 : ((nb : Int) == 0) = false := by rw [beq_eq_false_iff_ne]; omega
   clear P h2 h0 h1
   go_enter Tryz.func85, Tryz.ntmps85
   go_wp2_with fail
   go_ret
   exact tells_no rfl Z.out bqq
 have q2 : ((nb : Int) == 0) = true := by rw [beq_iff_eq]; omega
 by_cases h3 : nk = 0
 rotate_left
 · have Z : Hid (¬ Q) := fun p => h3 (have p := P.1 p; p.2.2.2)
   have q3 : ((nk : Int) == 0) = false := by rw [beq_eq_false_iff_ne]; omega
   clear P h3 h0 h1 h2
   go_enter Tryz.func85, Tryz.ntmps85
   go_wp2_with fail
   go_ret
   exact tells_no rfl Z.out bqq
 have q3 : ((nk : Int) == 0) = true := by rw [beq_iff_eq]; omega
 have Z : Hid Q := P.2 ⟨h0, h1, h2, h3⟩
 clear P h0 h1 h2 h3
 go_enter Tryz.func85, Tryz.ntmps85
 go_wp2_with fail
 go_ret
 exact tells_yes rfl Z.out bqq
theorem vjust_10 (n bt : Int) (nb ni nk : Nat) (A3 A4 A5 : Option Addr) (c3 c4 c5 : Nat) (w : World) :
 Calls Tryz.prog 85 #[.agg #[.int .i64 10, .int .i64 n, .int .u64 bt, .slice A3 nb c3, .slice A4 ni c4, .slice A5 nk c5]] w (Tells (VJust 10 n bt nb ni nk) w) := by
 have CS := cell_set
 have P : VJust 10 n bt nb ni nk ↔ bt = 0 ∧ nb = 0 ∧ ni = 0 ∧ nk = 0 := by unfold VJust; omega
 generalize VJust 10 n bt nb ni nk = Q at *
 by_cases h0 : bt = 0
 rotate_left
 · have Z : Hid (¬ Q) := fun p => h0 (have p := P.1 p; p.1)
   have q0 : (bt == 0) = false := by rw [beq_eq_false_iff_ne]; omega
   clear P h0 
   go_enter Tryz.func85, Tryz.ntmps85
   go_wp2_with fail
   go_ret
   exact tells_no rfl Z.out bqq
 have q0 : (bt == 0) = true := by rw [beq_iff_eq]; omega
 by_cases h1 : nb = 0
 rotate_left
 · have Z : Hid (¬ Q) := fun p => h1 (have p := P.1 p; p.2.1)
   have q1 : ((nb : Int) == 0) = false := by rw [beq_eq_false_iff_ne]; omega
   clear P h1 h0
   go_enter Tryz.func85, Tryz.ntmps85
   go_wp2_with fail
   go_ret
   exact tells_no rfl Z.out bqq
 have q1 : ((nb : Int) == 0) = true := by rw [beq_iff_eq]; omega
 by_cases h2 : ni = 0
 rotate_left
 · have Z : Hid (¬ Q) := fun p => h2 (have p := P.1 p; p.2.2.1)
   have q2 : ((ni : Int) == 0) = false := by rw [beq_eq_false_iff_ne]; omega
   clear P h2 h0 h1
   go_enter Tryz.func85, Tryz.ntmps85
   go_wp2_with fail
   go_ret
   exact tells_no rfl Z.out bqq
 have q2 : ((ni : Int) == 0) = true := by rw [beq_iff_eq]; omega
 by_cases h3 : nk = 0
 rotate_left
 · have Z : Hid (¬ Q) := fun p => h3 (have p := P.1 p; p.2.2.2)
   have q3 : ((nk : Int) == 0) = false := by rw [beq_eq_false_iff_ne]; omega
   clear P h3 h0 h1 h2
   go_enter Tryz.func85, Tryz.ntmps85
   go_wp2_with fail
   go_ret
   exact tells_no rfl Z.out bqq
 have q3 : ((nk : Int) == 0) = true := by rw [beq_iff_eq]; omega
 have Z : Hid Q := P.2 ⟨h0, h1, h2, h3⟩
 clear P h0 h1 h2 h3
 go_enter Tryz.func85, Tryz.ntmps85
 go_wp2_with fail
 go_ret
 exact tells_yes rfl Z.out bqq
theorem vjust_11 (n bt : Int) (nb ni nk : Nat) (A3 A4 A5 : Option Addr) (c3 c4 c5 : Nat) (w : World) :
 Calls Tryz.prog 85 #[.agg #[.int .i64 11, .int .i64 n, .int .u64 bt, .slice A3 nb c3, .slice A4 ni c4, .slice A5 nk c5]] w (Tells (VJust 11 n bt nb ni nk) w) := by
 have CS := cell_set
 have P : VJust 11 n bt nb ni nk ↔ n = 0 ∧ bt = 0 ∧ nb = 0 ∧ nk = 0 := by unfold VJust; omega
 generalize VJust 11 n bt nb ni nk = Q at *
 by_cases h0 : n = 0
 rotate_left
 · have Z : Hid (¬ Q) := fun p => h0 (have p := P.1 p; p.1)
   have q0 : (n == 0) = false := by rw [beq_eq_false_iff_ne]; omega
   clear P h0 
   go_enter Tryz.func85, Tryz.ntmps85
   go_wp2_with fail
   go_ret
   exact tells_no rfl Z.out bqq
 have q0 : (n == 0) = true := by rw [beq_iff_eq]; omega
 by_cases h1 : bt = 0
 rotate_left
 · have Z : Hid (¬ Q) := fun p => h1 (have p := P.1 p; p.2.1)
   have q1 : (bt == 0) = false := by rw [beq_eq_false_iff_ne]; omega
   clear P h1 h0
   go_enter Tryz.func85, Tryz.ntmps85
   go_wp2_with fail
   go_ret
   exact tells_no rfl Z.out bqq
 have q1 : (bt == 0) = true := by rw [beq_iff_eq]; omega
 by_cases h2 : nb = 0
 rotate_left
 · have Z : Hid (¬ Q) := fun p => h2 (have p := P.1 p; p.2.2.1)
   have q2 : ((nb : Int) == 0) = false := by rw [beq_eq_false_iff_ne]; omega
   clear P h2 h0 h1
   go_enter Tryz.func85, Tryz.ntmps85
   go_wp2_with fail
   go_ret
   exact tells_no rfl Z.out bqq
 have q2 : ((nb : Int) == 0) = true := by rw [beq_iff_eq]; omega
 by_cases h3 : nk = 0
 rotate_left
 · have Z : Hid (¬ Q) := fun p => h3 (have p := P.1 p; p.2.2.2)
   have q3 : ((nk : Int) == 0) = false := by rw [beq_eq_false_iff_ne]; omega
   clear P h3 h0 h1 h2
   go_enter Tryz.func85, Tryz.ntmps85
   go_wp2_with fail
   go_ret
   exact tells_no rfl Z.out bqq
 have q3 : ((nk : Int) == 0) = true := by rw [beq_iff_eq]; omega
 have Z : Hid Q := P.2 ⟨h0, h1, h2, h3⟩
 clear P h0 h1 h2 h3
 go_enter Tryz.func85, Tryz.ntmps85
 go_wp2_with fail
 go_ret
 exact tells_yes rfl Z.out bqq
theorem vjust_12 (n bt : Int) (nb ni nk : Nat) (A3 A4 A5 : Option Addr) (c3 c4 c5 : Nat) (w : World) :
 Calls Tryz.prog 85 #[.agg #[.int .i64 12, .int .i64 n, .int .u64 bt, .slice A3 nb c3, .slice A4 ni c4, .slice A5 nk c5]] w (Tells (VJust 12 n bt nb ni nk) w) := by
 have CS := cell_set
 have P : VJust 12 n bt nb ni nk ↔ n = 0 ∧ bt = 0 ∧ nb = 0 := by unfold VJust; omega
 generalize VJust 12 n bt nb ni nk = Q at *
 by_cases h0 : n = 0
 rotate_left
 · have Z : Hid (¬ Q) := fun p => h0 (have p := P.1 p; p.1)
   have q0 : (n == 0) = false := by rw [beq_eq_false_iff_ne]; omega
   clear P h0 
   go_enter Tryz.func85, Tryz.ntmps85
   go_wp2_with fail
   go_ret
   exact tells_no rfl Z.out bqq
 have q0 : (n == 0) = true := by rw [beq_iff_eq]; omega
 by_cases h1 : bt = 0
 rotate_left
 · have Z : Hid (¬ Q) := fun p => h1 (have p := P.1 p; p.2.1)
   have q1 : (bt == 0) = false := by rw [beq_eq_false_iff_ne]; omega
   clear P h1 h0
   go_enter Tryz.func85, Tryz.ntmps85
   go_wp2_with fail
   go_ret
   exact tells_no rfl Z.out bqq
 have q1 : (bt == 0) = true := by rw [beq_iff_eq]; omega
 by_cases h2 : nb = 0
 rotate_left
 · have Z : Hid (¬ Q) := fun p => h2 (have p := P.1 p; p.2.2)
   have q2 : ((nb : Int) == 0) = false := by rw [beq_eq_false_iff_ne]; omega
   clear P h2 h0 h1
   go_enter Tryz.func85, Tryz.ntmps85
   go_wp2_with fail
   go_ret
   exact tells_no rfl Z.out bqq
 have q2 : ((nb : Int) == 0) = true := by rw [beq_iff_eq]; omega
 have Z : Hid Q := P.2 ⟨h0, h1, h2⟩
 clear P h0 h1 h2
 go_enter Tryz.func85, Tryz.ntmps85
 go_wp2_with fail
 go_ret
 exact tells_yes rfl Z.out bqq
theorem vjust_13 (n bt : Int) (nb ni nk : Nat) (A3 A4 A5 : Option Addr) (c3 c4 c5 : Nat) (w : World) :
 Calls Tryz.prog 85 #[.agg #[.int .i64 13, .int .i64 n, .int .u64 bt, .slice A3 nb c3, .slice A4 ni c4, .slice A5 nk c5]] w (Tells (VJust 13 n bt nb ni nk) w) := by
 have CS := cell_set
 have P : VJust 13 n bt nb ni nk ↔ bt = 0 ∧ nb = 0 ∧ nk = 0 := by unfold VJust; omega
 generalize VJust 13 n bt nb ni nk = Q at *
 by_cases h0 : bt = 0
 rotate_left
 · have Z : Hid (¬ Q) := fun p => h0 (have p := P.1 p; p.1)
   have q0 : (bt == 0) = false := by rw [beq_eq_false_iff_ne]; omega
   clear P h0 
   go_enter Tryz.func85, Tryz.ntmps85
   go_wp2_with fail
   go_ret
   exact tells_no rfl Z.out bqq
 have q0 : (bt == 0) = true := by rw [beq_iff_eq]; omega
 by_cases h1 : nb = 0
 rotate_left
 · have Z : Hid (¬ Q) := fun p => h1 (have p := P.1 p; p.2.1)
   have q1 : ((nb : Int) == 0) = false := by rw [beq_eq_false_iff_ne]; omega
   clear P h1 h0
   go_enter Tryz.func85, Tryz.ntmps85
   go_wp2_with fail
   go_ret
   exact tells_no rfl Z.out bqq
 have q1 : ((nb : Int) == 0) = true := by rw [beq_iff_eq]; omega
 by_cases h2 : nk = 0
 rotate_left
 · have Z : Hid (¬ Q) := fun p => h2 (have p := P.1 p; p.2.2)
   have q2 : ((nk : Int) == 0) = false := by rw [beq_eq_false_iff_ne]; omega
   clear P h2 h0 h1
   go_enter Tryz.func85, Tryz.ntmps85
   go_wp2_with fail
   go_ret
   exact tells_no rfl Z.out bqq
 have q2 : ((nk : Int) == 0) = true := by rw [beq_iff_eq]; omega
 have Z : Hid Q := P.2 ⟨h0, h1, h2⟩
 clear P h0 h1 h2
 go_enter Tryz.func85, Tryz.ntmps85
 go_wp2_with fail
 go_ret
 exact tells_yes rfl Z.out bqq
theorem vjust_14 (n bt : Int) (nb ni nk : Nat) (A3 A4 A5 : Option Addr) (c3 c4 c5 : Nat) (w : World) :
 Calls Tryz.prog 85 #[.agg #[.int .i64 14, .int .i64 n, .int .u64 bt, .slice A3 nb c3, .slice A4 ni c4, .slice A5 nk c5]] w (Tells (VJust 14 n bt nb ni nk) w) := by
 have CS := cell_set
 have P : VJust 14 n bt nb ni nk ↔ n = 0 ∧ bt = 0 ∧ ni = 0 ∧ nk = 0 := by unfold VJust; omega
 generalize VJust 14 n bt nb ni nk = Q at *
 by_cases h0 : n = 0
 rotate_left
 · have Z : Hid (¬ Q) := fun p => h0 (have p := P.1 p; p.1)
   have q0 : (n == 0) = false := by rw [beq_eq_false_iff_ne]; omega
   clear P h0 
   go_enter Tryz.func85, Tryz.ntmps85
   go_wp2_with fail
   go_ret
   exact tells_no rfl Z.out bqq
 have q0 : (n == 0) = true := by rw [beq_iff_eq]; omega
 by_cases h1 : bt = 0
 rotate_left
 · have Z : Hid (¬ Q) := fun p => h1 (have p := P.1 p; p.2.1)
   have q1 : (bt == 0) = false := by rw [beq_eq_false_iff_ne]; omega
   clear P h1 h0
   go_enter Tryz.func85, Tryz.ntmps85
   go_wp2_with fail
   go_ret
   exact tells_no rfl Z.out bqq
 have q1 : (bt == 0) = true := by rw [beq_iff_eq]; omega
 by_cases h2 : ni = 0
 rotate_left
 · have Z : Hid (¬ Q) := fun p => h2 (have p := P.1 p; p.2.2.1)
   have q2 : ((ni : Int) == 0) = false := by rw [beq_eq_false_iff_ne]; omega
   clear P h2 h0 h1
   go_enter Tryz.func85, Tryz.ntmps85
   go_wp2_with fail
   go_ret
   exact tells_no rfl Z.out bqq
 have q2 : ((ni : Int) == 0) = true := by rw [beq_iff_eq]; omega
 by_cases h3 : nk = 0
 rotate_left
 · have Z : Hid (¬ Q) := fun p => h3 (have p := P.1 p; p.2.2.2)
   have q3 : ((nk : Int) == 0) = false := by rw [beq_eq_false_iff_ne]; omega
   clear P h3 h0 h1 h2
   go_enter Tryz.func85, Tryz.ntmps85
   go_wp2_with fail
   go_ret
   exact tells_no rfl Z.out bqq
 have q3 : ((nk : Int) == 0) = true := by rw [beq_iff_eq]; omega
 have Z : Hid Q := P.2 ⟨h0, h1, h2, h3⟩
 clear P h0 h1 h2 h3
 go_enter Tryz.func85, Tryz.ntmps85
 go_wp2_with fail
 go_ret
 exact tells_yes rfl Z.out bqq
theorem vkeyed_any (k n bt : Int) (nb ni : Nat) (ks : List ByteArray) (A3 A4 A5 : Option Addr) (c3 c4 c5 : Nat) (w : World) (hL0 : Laid w) (hk : ks.length ≤ 100000000) (h : FlS w (· < w.heap.size) A5 (ks.map Value.string)) :
 Calls Tryz.prog 88 #[.agg #[.int .i64 k, .int .i64 n, .int .u64 bt, .slice A3 nb c3, .slice A4 ni c4, .slice A5 ks.length c5]] w (Tells (ks.length = ni ∧ keysOk ks) w) := by
 have CS := cell_set
 have F := Lib.hid h
 have HL := Lib.hid hL0
 obtain ⟨Q, hQ⟩ : ∃ Q : Prop, Q = (ks.length = ni ∧ keysOk ks) := ⟨_, rfl⟩
 have HQ : Hid (Q ↔ ks.length = ni ∧ keysOk ks) := by show _ ↔ _; rw [hQ]
 rw [← hQ]
 have H0 := Lib.hid (B6.newat (w := w) (t := 42) (x0 := .int .i64 k) (x1 := .int .i64 n) (x2 := .int .u64 bt) (x3 := .slice A3 nb c3) (x4 := .slice A4 ni c4) (x5 := .slice A5 ks.length c5) rfl)
 have W0 : Below w.heap.size w (w.alloc (.cells #[.int .i64 k, .int .i64 n, .int .u64 bt, .slice A3 nb c3, .slice A4 ni c4, .slice A5 ks.length c5] 42)) := (Below.refl _ _).alloc (Nat.le_refl _) _
 obtain ⟨m, hm⟩ : ∃ m, m = ks.length := ⟨_, rfl⟩
 have HM := Lib.hid hm
 rw [← hm] at hk H0 W0 ⊢
 clear h hL0 hQ hm
 by_cases he : m = ni
 rotate_left
 · have Z : Hid (¬ Q) := fun q => he (by rw [HM.out]; exact (HQ.out.1 q).1)
   have q : ((m : Int) != (ni : Int)) = true := by rw [bne_iff_ne]; omega
   clear he H0 HQ
   go_enter Tryz.func88, Tryz.ntmps88
   go_wp2_with fail
   go_ret
   exact tells_no rfl Z.out bqq
 subst he
 have q : ((m : Int) != (m : Int)) = false := by rw [bne_eq_false_iff_eq]
 have BE := Lib.hid W0
 clear W0
 have hb : m ≤ 9223372036854775807 := by omega
 go_enter Tryz.func88, Tryz.ntmps88
 go_wp2_with fail
 go_loopw [15] (fun t wr => ∃ j : Nat, j ≤ m ∧ t = .int .i64 (j : Int) ∧ Hid (∀ i (h : i < ks.length), i < j → (ks[i]'h).size ≤ 20000 ∧ (Num.cU (ks[i]'h).data.toList).isSome = true) ∧ Hid (Below w.heap.size w wr)) (fun t _ => m - (intOf t).toNat)
 case atStart => exact ⟨0, Nat.zero_le _, rfl, (fun i h g => absurd g (Nat.not_lt_zero _)), BE.out⟩
 case round =>
  obtain ⟨j, hj, rfl, HI, bl⟩ := hrel
  have bl2 := bl.out
  have z := bl2.size
  by_cases hjm : j < m
  · have h1 : j < ks.length := by rw [← HM.out]; exact hjm
    have qj : (j : Int) < (m : Int) := by omega
    obtain ⟨b8, o8, e8, hb8, z0⟩ := fl_str (FlS.keep (Below.keeps bl2) (fun _ h => h) F.out) h1
    have NOK : Hid (¬ ((ks[j]'h1).size ≤ 20000 ∧ (Num.cU (ks[j]'h1).data.toList).isSome = true) → ¬ Q) := fun e q => e ((HQ.out.1 q).2 j h1)
    have NX : Hid ((ks[j]'h1).size ≤ 20000 ∧ (Num.cU (ks[j]'h1).data.toList).isSome = true → ∀ i (h : i < ks.length), i < j + 1 → (ks[i]'h).size ≤ 20000 ∧ (Num.cU (ks[i]'h).data.toList).isSome = true) := fun e i h g => by
     rcases Nat.lt_or_ge i j with p | p
     · exact HI.out i h p
     · obtain rfl : i = j := by omega
       exact e
    generalize ks[j]'h1 = Y at *
    subst e8
    clear h1 HI
    by_cases hs : (20000 : Int) < (Y.size : Int)
    · have Z : Hid (¬ Q) := NOK.out (fun e => by omega)
      have qs : decide ((20000 : Int) < (Y.size : Int)) = true := by simpa using hs
      clear NOK NX
      go_wp2_with fail
      go_ret
      exact tells_no rfl Z.out bqq
    · have qs : decide ((20000 : Int) < (Y.size : Int)) = false := by simpa using hs
      obtain ⟨c7, W', conv, hc7, bW, yW⟩ := conv_lays Y wr
      have LE : Hid (Y.data.toList.length = Y.size) := by show _ = _; rw [Array.length_toList]; rfl
      have RG : Hid (Calls Tryz.prog 86 #[.slice (some ⟨wr.heap.size, 0, none⟩) Y.size c7] W' (Rgt Y.data.toList W')) := by
       have r := Right_any (some ⟨wr.heap.size, 0, none⟩) c7 Y.data.toList W' (HL.out.below (bl2.trans (bW.mono z)) HL.out.top) yW (by rw [LE.out]; omega) (by rw [LE.out]; exact hc7)
       rw [LE.out] at r
       exact r
      have BW := Lib.hid bW
      have hs2 : Y.size ≤ 20000 := by omega
      cases hc : (Num.cU Y.data.toList).isSome with
      | false =>
       have Z : Hid (¬ Q) := NOK.out (fun e => by rw [hc] at e; cases e.2)
       unfold Rgt at RG
       rw [hc] at RG
       clear NOK NX hs hc bW yW
       go_wp2_with fail
       with_reducible refine RG.out.mono ?_
       rintro e w3 ⟨rfl, b3⟩
       have bx : Below w.heap.size w w3 := (bl2.trans (BW.out.mono z)).trans (b3.mono (Nat.le_trans z BW.out.size))
       go_wp2_with fail
       go_ret
       exact tells_no rfl Z.out bx
      | true =>
       have NX2 := Lib.hid (NX.out ⟨hs2, hc⟩)
       unfold Rgt at RG
       rw [hc] at RG
       clear NOK NX hs hc bW yW
       go_wp2_with fail
       with_reducible refine RG.out.mono ?_
       rintro e w3 ⟨rfl, b3⟩
       have bx : Below w.heap.size w w3 := (bl2.trans (BW.out.mono z)).trans (b3.mono (Nat.le_trans z BW.out.size))
       go_wp2_with fail
       go_roundw
       case rel => exact ⟨j + 1, by omega, by go_num, NX2, bx⟩
       case measure => simp [intOf]; omega
  · obtain rfl : j = m := by omega
    have qj : ¬ (j : Int) < (j : Int) := by omega
    have Z : Hid Q := HQ.out.2 ⟨HM.out.symm, fun i h => HI.out i h (by rw [HM.out]; exact h)⟩
    clear HI HQ
    go_wp2_with fail
    go_ret
    exact tells_yes rfl Z.out bl2
def OneC (s : Sc) (t : V) : Prop := ∀ (p : Int), 0 ≤ p → p < (s.nodes.length : Int) → ∀ (w : World) (A A3 A4 A5 : Option Addr) (c c3 c4 c5 : Nat), Laid w → RowD w (· < w.heap.size) 10 (s.nodes.map Nd.enc) A → Lies w (· < w.heap.size) t.enc [.int .i64 t.k, .int .i64 t.n, .int .u64 t.bt, .slice A3 t.bs.length c3, .slice A4 t.its.length c4, .slice A5 t.ks.length c5] →
 Calls Tryz.prog 42 #[.slice A s.nodes.length c, .int .i64 p, .agg #[.int .i64 t.k, .int .i64 t.n, .int .u64 t.bt, .slice A3 t.bs.length c3, .slice A4 t.its.length c4, .slice A5 t.ks.length c5]] w (Tells (V.is s t p) w)
theorem vlist_any (s : Sc) (its : List V) (IHs : ∀ i (h : i < its.length), OneC s (its[i]'h)) (p : Int) (hp0 : 0 ≤ p) (hp1 : p < (s.nodes.length : Int)) (w : World) (hL0 : Laid w) (A A4 : Option Addr) (c c4 : Nat) (ra : RowD w (· < w.heap.size) 10 (s.nodes.map Nd.enc) A) (r4 : RowD w (· < w.heap.size) 6 (its.map V.enc) A4) (hl : its.length ≤ 100000000) :
 Calls Tryz.prog 89 #[.slice A s.nodes.length c, .int .i64 p, .slice A4 its.length c4] w (Tells (its.length ≤ 300 ∧ ∀ i (h : i < its.length), V.is s (its[i]'h) p) w) := by
 have CS := cell_set
 have RA := Lib.hid ra; have RT := Lib.hid r4; have HL := Lib.hid hL0; have IH := Lib.hid IHs
 have P0 := Lib.hid hp0; have P1 := Lib.hid hp1
 obtain ⟨Q, hQ⟩ : ∃ Q : Prop, Q = (its.length ≤ 300 ∧ ∀ i (h : i < its.length), V.is s (its[i]'h) p) := ⟨_, rfl⟩
 have HQ : Hid (Q ↔ its.length ≤ 300 ∧ ∀ i (h : i < its.length), V.is s (its[i]'h) p) := by show _ ↔ _; rw [hQ]
 rw [← hQ]
 obtain ⟨m, hm⟩ : ∃ m, m = its.length := ⟨_, rfl⟩
 have HM := Lib.hid hm
 obtain ⟨nn, hnn⟩ : ∃ m, m = s.nodes.length := ⟨_, rfl⟩
 have HNN := Lib.hid hnn
 rw [← hm] at hl ⊢
 rw [← hnn]
 clear ra r4 hL0 IHs hQ hm hp0 hp1 hnn
 have hb : m ≤ 9223372036854775807 := by omega
 by_cases h3 : (300 : Int) < (m : Int)
 · have Z : Hid (¬ Q) := fun q => by have := (HQ.out.1 q).1; have := HM.out; omega
   have q3 : decide ((300 : Int) < (m : Int)) = true := by simpa using h3
   clear HQ
   go_enter Tryz.func89, Tryz.ntmps89
   go_wp2_with fail
   go_ret
   exact tells_no rfl Z.out bqq
 have q3 : decide ((300 : Int) < (m : Int)) = false := by simpa using h3
 go_enter Tryz.func89, Tryz.ntmps89
 go_wp2_with fail
 go_loopw [14] (fun t wr => ∃ j : Nat, j ≤ m ∧ t = .int .i64 (j : Int) ∧ Hid (∀ i (h : i < its.length), i < j → V.is s (its[i]'h) p) ∧ Hid (Below w.heap.size w wr)) (fun t _ => m - (intOf t).toNat)
 case atStart => exact ⟨0, Nat.zero_le _, rfl, (fun i h g => absurd g (Nat.not_lt_zero _)), Below.refl _ _⟩
 case round =>
  obtain ⟨j, hj, rfl, HI, bl⟩ := hrel
  have bl2 := bl.out
  have z := bl2.size
  by_cases hjm : j < m
  · have h1 : j < its.length := by rw [← HM.out]; exact hjm
    have qj : (j : Int) < (m : Int) := by omega
    obtain ⟨b1, o1, X3, x3, X4, x4, X5, x5, e1, hb1, ⟨y0, y1, y2, y3, y4, y5⟩, ty⟩ := values_at (RT.out.below bl2) h1
    have lb1 : b1 < wr.heap.size := by omega
    have NOK : Hid (¬ V.is s (its[j]'h1) p → ¬ Q) := fun e q => e ((HQ.out.1 q).2 j h1)
    have NX : Hid (V.is s (its[j]'h1) p → ∀ i (h : i < its.length), i < j + 1 → V.is s (its[i]'h) p) := fun e i h g => by
     rcases Nat.lt_or_ge i j with k | k
     · exact HI.out i h k
     · obtain rfl : i = j := by omega
       exact e
    have CJ := Lib.hid (fun W (b : Below wr.heap.size wr W) => HNN.out ▸ IH.out j h1 p P0.out P1.out W A X3 X4 X5 c x3 x4 x5 (HL.out.below (bl2.trans (b.mono z)) HL.out.top) ((RA.out.below (bl2.trans (b.mono z))).more (Nat.le_trans z b.size)) (((ty.more z).below b).more b.size))
    generalize hT : its[j]'h1 = T at *
    generalize hO : V.is s T p = OK at *
    subst e1
    clear h1 ty HI hT hO
    go_wp2_with fail
    with_reducible refine (CJ.out _ bqq).mono ?_
    rintro e w3 ⟨b, rfl, hbb, b3'⟩
    have b3 : Below wr.heap.size wr w3 := bqq
    have bw3 : Below w.heap.size w w3 := bl2.trans (b3.mono z)
    have HB2 := Lib.hid hbb
    clear hbb
    cases b with
    | false =>
     have Z : Hid (¬ Q) := NOK.out (fun o => by have := HB2.out.2 o; simp at this)
     go_wp2_with fail
     go_ret
     exact tells_no rfl Z.out bw3
    | true =>
     have HI2 := Lib.hid (NX.out (HB2.out.1 (by first | rfl | trivial)))
     go_wp2_with fail
     go_roundw
     case rel => exact ⟨j + 1, by omega, by go_num, HI2, bw3⟩
     case measure => simp [intOf]; omega
  · obtain rfl : j = m := by omega
    have qj : ¬ (j : Int) < (j : Int) := by omega
    have Z : Hid Q := HQ.out.2 ⟨by rw [← HM.out]; omega, fun i h => HI.out i h (by rw [HM.out]; exact h)⟩
    clear HI HQ
    go_wp2_with fail
    go_ret
    exact tells_yes rfl Z.out bl2
theorem vrecord_any (s : Sc) (fs : List Fd) (its : List V) (IHs : ∀ i (h : i < its.length), OneC s (its[i]'h)) (hf : ∀ i (h : i < fs.length), 0 ≤ (fs[i]'h).ty ∧ (fs[i]'h).ty < (s.nodes.length : Int)) (w : World) (hL0 : Laid w) (A A4 AF : Option Addr) (c c4 cF : Nat) (ra : RowD w (· < w.heap.size) 10 (s.nodes.map Nd.enc) A) (rf : RowD w (· < w.heap.size) 9 (fs.map Fd.enc) AF) (r4 : RowD w (· < w.heap.size) 6 (its.map V.enc) A4) (hl : its.length ≤ 100000000) (hfl : fs.length ≤ 100000000) :
 Calls Tryz.prog 87 #[.slice A s.nodes.length c, .slice AF fs.length cF, .slice A4 its.length c4] w (Tells (its.length = fs.length ∧ ∀ i (h : i < its.length) (g : i < fs.length), V.is s (its[i]'h) (fs[i]'g).ty) w) := by
 have CS := cell_set
 have RA := Lib.hid ra; have RF := Lib.hid rf; have RT := Lib.hid r4; have HL := Lib.hid hL0; have IH := Lib.hid IHs
 have HF := Lib.hid hf
 obtain ⟨Q, hQ⟩ : ∃ Q : Prop, Q = (its.length = fs.length ∧ ∀ i (h : i < its.length) (g : i < fs.length), V.is s (its[i]'h) (fs[i]'g).ty) := ⟨_, rfl⟩
 have HQ : Hid (Q ↔ its.length = fs.length ∧ ∀ i (h : i < its.length) (g : i < fs.length), V.is s (its[i]'h) (fs[i]'g).ty) := by show _ ↔ _; rw [hQ]
 rw [← hQ]
 obtain ⟨m, hm⟩ : ∃ m, m = its.length := ⟨_, rfl⟩
 have HM := Lib.hid hm
 obtain ⟨mf, hmf⟩ : ∃ m, m = fs.length := ⟨_, rfl⟩
 have HMF := Lib.hid hmf
 obtain ⟨nn, hnn⟩ : ∃ m, m = s.nodes.length := ⟨_, rfl⟩
 have HNN := Lib.hid hnn
 rw [← hm] at hl ⊢
 rw [← hmf] at hfl ⊢
 rw [← hnn]
 clear ra rf r4 hL0 IHs hQ hm hmf hnn hf
 have hb : m ≤ 9223372036854775807 := by omega
 by_cases he : m = mf
 rotate_left
 · have Z : Hid (¬ Q) := fun q => he (by rw [HM.out, HMF.out]; exact (HQ.out.1 q).1)
   have q : ((m : Int) != (mf : Int)) = true := by rw [bne_iff_ne]; omega
   clear he HQ
   go_enter Tryz.func87, Tryz.ntmps87
   go_wp2_with fail
   go_ret
   exact tells_no rfl Z.out bqq
 subst he
 have q : ((m : Int) != (m : Int)) = false := by rw [bne_eq_false_iff_eq]
 go_enter Tryz.func87, Tryz.ntmps87
 go_wp2_with fail
 go_loopw [16] (fun t wr => ∃ j : Nat, j ≤ m ∧ t = .int .i64 (j : Int) ∧ Hid (∀ i (h : i < its.length) (g : i < fs.length), i < j → V.is s (its[i]'h) (fs[i]'g).ty) ∧ Hid (Below w.heap.size w wr)) (fun t _ => m - (intOf t).toNat)
 case atStart => exact ⟨0, Nat.zero_le _, rfl, (fun i h _ g => absurd g (Nat.not_lt_zero _)), Below.refl _ _⟩
 case round =>
  obtain ⟨j, hj, rfl, HI, bl⟩ := hrel
  have bl2 := bl.out
  have z := bl2.size
  by_cases hjm : j < m
  · have h1 : j < its.length := by rw [← HM.out]; exact hjm
    have h2 : j < fs.length := by rw [← HMF.out]; exact hjm
    have qj : (j : Int) < (m : Int) := by omega
    obtain ⟨b1, o1, X3, x3, X4, x4, X5, x5, e1, hb1, ⟨y0, y1, y2, y3, y4, y5⟩, ty⟩ := values_at (RT.out.below bl2) h1
    obtain ⟨b2, o2, Z1, z1, Z3, z3, Z4, z4, e2, hb2, ⟨v0, v1, v2, v3, v4, v5, v6, v7, v8⟩, _⟩ := fields_at (RF.out.below bl2) h2
    have lb1 : b1 < wr.heap.size := by omega
    have lb2 : b2 < wr.heap.size := by omega
    have NOK : Hid (¬ V.is s (its[j]'h1) (fs[j]'h2).ty → ¬ Q) := fun e q => e ((HQ.out.1 q).2 j h1 h2)
    have NX : Hid (V.is s (its[j]'h1) (fs[j]'h2).ty → ∀ i (h : i < its.length) (g : i < fs.length), i < j + 1 → V.is s (its[i]'h) (fs[i]'g).ty) := fun e i h g k => by
     rcases Nat.lt_or_ge i j with k | k
     · exact HI.out i h g k
     · obtain rfl : i = j := by omega
       exact e
    have CJ := Lib.hid (fun W (b : Below wr.heap.size wr W) => HNN.out ▸ IH.out j h1 (fs[j]'h2).ty (HF.out j h2).1 (HF.out j h2).2 W A X3 X4 X5 c x3 x4 x5 (HL.out.below (bl2.trans (b.mono z)) HL.out.top) ((RA.out.below (bl2.trans (b.mono z))).more (Nat.le_trans z b.size)) (((ty.more z).below b).more b.size))
    generalize hT : its[j]'h1 = T at *
    generalize hF : fs[j]'h2 = F at *
    generalize hO : V.is s T F.ty = OK at *
    subst e1 e2
    have N0 := Lib.hid (B9.newat (w := wr) (t := 61) (x0 := .string F.name) (x1 := .slice Z1 F.al.length z1) (x2 := .int .i64 F.ty) (x3 := .bool F.has) (x4 := .int .i64 F.df.k) (x5 := .int .i64 F.df.n) (x6 := .string F.df.t) (x7 := .slice Z3 F.df.its.length z3) (x8 := .slice Z4 F.df.ks.length z4) rfl)
    have BN : Hid (Below wr.heap.size wr (wr.alloc (.cells #[.string F.name, .slice Z1 F.al.length z1, .int .i64 F.ty, .bool F.has, .int .i64 F.df.k, .int .i64 F.df.n, .string F.df.t, .slice Z3 F.df.its.length z3, .slice Z4 F.df.ks.length z4] 61))) := (Below.refl _ _).alloc (Nat.le_refl _) _
    clear h1 h2 ty HI hT hF hO
    go_wp2_with fail
    go_region_with (first | (go_at_call 42; (with_reducible refine (CJ.out _ BN.out.drew).mono ?_); rintro e w3 ⟨b, rfl, hbb, b3'⟩; have HB2 := Lib.hid hbb; clear hbb; have b3 := Lib.hid (BN.out.drew.trans (b3'.mono BN.out.size)); clear b3'))
    all_goals
     cases b
     all_goals first
      | (have Z : Hid (¬ Q) := NOK.out (fun o => by have := HB2.out.2 o; simp at this)
         have bw3 : Below w.heap.size w w3 := bl2.trans (b3.out.mono z)
         go_wp2_with fail
         go_ret
         exact tells_no rfl Z.out bw3)
      | (have HI2 := Lib.hid (NX.out (HB2.out.1 (by first | rfl | trivial)))
         have bw3 : Below w.heap.size w w3 := bl2.trans (b3.out.mono z)
         go_wp2_with fail
         go_roundw
         case rel => exact ⟨j + 1, by omega, by go_num, HI2, bw3⟩
         case measure => simp [intOf]; omega)
  · obtain rfl : j = m := by omega
    have qj : ¬ (j : Int) < (j : Int) := by omega
    have Z : Hid Q := HQ.out.2 ⟨by rw [← HM.out, ← HMF.out], fun i h g => HI.out i h g (by rw [HM.out]; exact h)⟩
    clear HI HQ
    go_wp2_with fail
    go_ret
    exact tells_yes rfl Z.out bl2
end Go.Proofs.YthfoomobicbcpaaGreatDoor
