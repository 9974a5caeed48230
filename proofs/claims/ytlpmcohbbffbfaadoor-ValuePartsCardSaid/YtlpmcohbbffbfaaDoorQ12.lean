/- Joined by tools/bundle.py: VCD. -/
import Derived.Deep.LoopGhost
import Derived.Deep.RegionHeldLaw
import Derived.BigQuiet
import Derived.Test.YtlpmcohbbffbfaaDoorQ5
import Derived.Test.YtlpmcohbbffbfaaDoorQ8
namespace Go.Proofs.YtlpmcohbbffbfaaDoor
open Go.ChangeShapes Go.WideShapes Go.ChangeAt Go.RowKit Mem
set_option maxRecDepth 100000 in
theorem among_pure (p c : Int) (w : World) : Calls Tryd.prog 31 #[.int .i64 p, .int .i64 c] w (fun e w' => e = .returned (.bool (decide (0 ≤ p ∧ p < c))) ∧ w' = w) := by
  by_cases h0 : 0 ≤ p
  · by_cases h1 : p < c
    · rw [show decide (0 ≤ p ∧ p < c) = true by simp [h0, h1]]
      go_enter Tryd.func31, Tryd.ntmps31
      go_wp2_with fail
      go_ret
      exact ⟨rfl, rfl⟩
    · rw [show decide (0 ≤ p ∧ p < c) = false by simp [h1]]
      go_enter Tryd.func31, Tryd.ntmps31
      go_wp2_with fail
      go_ret
      exact ⟨rfl, rfl⟩
  · rw [show decide (0 ≤ p ∧ p < c) = false by simp [h0]]
    go_enter Tryd.func31, Tryd.ntmps31
    go_wp2_with fail
    go_ret
    exact ⟨rfl, rfl⟩
set_option maxRecDepth 100000 in
set_option maxHeartbeats 2000000 in
theorem vjust_1 (n bt : Int) (nb ni nk : Nat) (A3 A4 A5 : Option Addr) (c3 c4 c5 : Nat) (w : World) :
    Calls Tryd.prog 46 #[.agg #[.int .i64 1, .int .i64 n, .int .u64 bt, .slice A3 nb c3, .slice A4 ni c4, .slice A5 nk c5]] w (Tells (VJust 1 n bt nb ni nk) w) := by
  have CS := cell_set
  have P : VJust 1 n bt nb ni nk ↔ n = 0 ∧ bt = 0 ∧ nb = 0 ∧ ni = 0 ∧ nk = 0 := by unfold VJust; omega
  generalize VJust 1 n bt nb ni nk = Q at *
  by_cases h0 : n = 0
  rotate_left
  · have Z : Hid (¬ Q) := fun p => h0 (have p := P.1 p; p.1)
    have q0 : (n == 0) = false := by rw [beq_eq_false_iff_ne]; omega
    clear P h0 
    go_enter Tryd.func46, Tryd.ntmps46
    go_wp2_with fail
    go_ret
    exact tells_no rfl Z.out (by (repeat' (first | with_reducible assumption | with_reducible exact Below.refl _ _ | (with_reducible refine Below.alloc ?_ ?_ _; rotate_left; focus ((first | exact Nat.le_refl _ | (simp; done) | (simp; omega) | omega | fail))) | (with_reducible refine Below.setCell ?_ ?_ _; rotate_left; focus ((first | exact Nat.le_refl _ | (simp; done) | (simp; omega) | omega | fail))) | with_reducible refine Mem.bel_drewN ?_ _ | with_reducible refine Below.drew ?_ | (with_reducible refine Mem.bel_call (by with_reducible assumption) ?_ ?_; focus ((first | exact Nat.le_refl _ | (simp; done) | (simp; omega) | omega | fail))) | fail)))
  have q0 : (n == 0) = true := by rw [beq_iff_eq]; omega
  by_cases h1 : bt = 0
  rotate_left
  · have Z : Hid (¬ Q) := fun p => h1 (have p := P.1 p; p.2.1)
    have q1 : (bt == 0) = false := by rw [beq_eq_false_iff_ne]; omega
    clear P h1 h0
    go_enter Tryd.func46, Tryd.ntmps46
    go_wp2_with fail
    go_ret
    exact tells_no rfl Z.out (by (repeat' (first | with_reducible assumption | with_reducible exact Below.refl _ _ | (with_reducible refine Below.alloc ?_ ?_ _; rotate_left; focus ((first | exact Nat.le_refl _ | (simp; done) | (simp; omega) | omega | fail))) | (with_reducible refine Below.setCell ?_ ?_ _; rotate_left; focus ((first | exact Nat.le_refl _ | (simp; done) | (simp; omega) | omega | fail))) | with_reducible refine Mem.bel_drewN ?_ _ | with_reducible refine Below.drew ?_ | (with_reducible refine Mem.bel_call (by with_reducible assumption) ?_ ?_; focus ((first | exact Nat.le_refl _ | (simp; done) | (simp; omega) | omega | fail))) | fail)))
  have q1 : (bt == 0) = true := by rw [beq_iff_eq]; omega
  by_cases h2 : nb = 0
  rotate_left
  · have Z : Hid (¬ Q) := fun p => h2 (have p := P.1 p; p.2.2.1)
    have q2 : ((nb : Int) == 0) = false := by rw [beq_eq_false_iff_ne]; omega
    clear P h2 h0 h1
    go_enter Tryd.func46, Tryd.ntmps46
    go_wp2_with fail
    go_ret
    exact tells_no rfl Z.out (by (repeat' (first | with_reducible assumption | with_reducible exact Below.refl _ _ | (with_reducible refine Below.alloc ?_ ?_ _; rotate_left; focus ((first | exact Nat.le_refl _ | (simp; done) | (simp; omega) | omega | fail))) | (with_reducible refine Below.setCell ?_ ?_ _; rotate_left; focus ((first | exact Nat.le_refl _ | (simp; done) | (simp; omega) | omega | fail))) | with_reducible refine Mem.bel_drewN ?_ _ | with_reducible refine Below.drew ?_ | (with_reducible refine Mem.bel_call (by with_reducible assumption) ?_ ?_; focus ((first | exact Nat.le_refl _ | (simp; done) | (simp; omega) | omega | fail))) | fail)))
  have q2 : ((nb : Int) == 0) = true := by rw [beq_iff_eq]; omega
  by_cases h3 : ni = 0
  rotate_left
  · have Z : Hid (¬ Q) := fun p => h3 (have p := P.1 p; p.2.2.2.1)
    have q3 : ((ni : Int) == 0) = false := by rw [beq_eq_false_iff_ne]; omega
    clear P h3 h0 h1 h2
    go_enter Tryd.func46, Tryd.ntmps46
    go_wp2_with fail
    go_ret
    exact tells_no rfl Z.out (by (repeat' (first | with_reducible assumption | with_reducible exact Below.refl _ _ | (with_reducible refine Below.alloc ?_ ?_ _; rotate_left; focus ((first | exact Nat.le_refl _ | (simp; done) | (simp; omega) | omega | fail))) | (with_reducible refine Below.setCell ?_ ?_ _; rotate_left; focus ((first | exact Nat.le_refl _ | (simp; done) | (simp; omega) | omega | fail))) | with_reducible refine Mem.bel_drewN ?_ _ | with_reducible refine Below.drew ?_ | (with_reducible refine Mem.bel_call (by with_reducible assumption) ?_ ?_; focus ((first | exact Nat.le_refl _ | (simp; done) | (simp; omega) | omega | fail))) | fail)))
  have q3 : ((ni : Int) == 0) = true := by rw [beq_iff_eq]; omega
  by_cases h4 : nk = 0
  rotate_left
  · have Z : Hid (¬ Q) := fun p => h4 (have p := P.1 p; p.2.2.2.2)
    have q4 : ((nk : Int) == 0) = false := by rw [beq_eq_false_iff_ne]; omega
    clear P h4 h0 h1 h2 h3
    go_enter Tryd.func46, Tryd.ntmps46
    go_wp2_with fail
    go_ret
    exact tells_no rfl Z.out (by (repeat' (first | with_reducible assumption | with_reducible exact Below.refl _ _ | (with_reducible refine Below.alloc ?_ ?_ _; rotate_left; focus ((first | exact Nat.le_refl _ | (simp; done) | (simp; omega) | omega | fail))) | (with_reducible refine Below.setCell ?_ ?_ _; rotate_left; focus ((first | exact Nat.le_refl _ | (simp; done) | (simp; omega) | omega | fail))) | with_reducible refine Mem.bel_drewN ?_ _ | with_reducible refine Below.drew ?_ | (with_reducible refine Mem.bel_call (by with_reducible assumption) ?_ ?_; focus ((first | exact Nat.le_refl _ | (simp; done) | (simp; omega) | omega | fail))) | fail)))
  have q4 : ((nk : Int) == 0) = true := by rw [beq_iff_eq]; omega
  have Z : Hid Q := P.2 ⟨h0, h1, h2, h3, h4⟩
  clear P h0 h1 h2 h3 h4
  go_enter Tryd.func46, Tryd.ntmps46
  go_wp2_with fail
  go_ret
  exact tells_yes rfl Z.out (by (repeat' (first | with_reducible assumption | with_reducible exact Below.refl _ _ | (with_reducible refine Below.alloc ?_ ?_ _; rotate_left; focus ((first | exact Nat.le_refl _ | (simp; done) | (simp; omega) | omega | fail))) | (with_reducible refine Below.setCell ?_ ?_ _; rotate_left; focus ((first | exact Nat.le_refl _ | (simp; done) | (simp; omega) | omega | fail))) | with_reducible refine Mem.bel_drewN ?_ _ | with_reducible refine Below.drew ?_ | (with_reducible refine Mem.bel_call (by with_reducible assumption) ?_ ?_; focus ((first | exact Nat.le_refl _ | (simp; done) | (simp; omega) | omega | fail))) | fail)))
set_option maxRecDepth 100000 in
set_option maxHeartbeats 2000000 in
theorem vjust_2 (n bt : Int) (nb ni nk : Nat) (A3 A4 A5 : Option Addr) (c3 c4 c5 : Nat) (w : World) :
    Calls Tryd.prog 46 #[.agg #[.int .i64 2, .int .i64 n, .int .u64 bt, .slice A3 nb c3, .slice A4 ni c4, .slice A5 nk c5]] w (Tells (VJust 2 n bt nb ni nk) w) := by
  have CS := cell_set
  have P : VJust 2 n bt nb ni nk ↔ bt = 0 ∧ nb = 0 ∧ ni = 0 ∧ nk = 0 := by unfold VJust; omega
  generalize VJust 2 n bt nb ni nk = Q at *
  by_cases h0 : bt = 0
  rotate_left
  · have Z : Hid (¬ Q) := fun p => h0 (have p := P.1 p; p.1)
    have q0 : (bt == 0) = false := by rw [beq_eq_false_iff_ne]; omega
    clear P h0 
    go_enter Tryd.func46, Tryd.ntmps46
    go_wp2_with fail
    go_ret
    exact tells_no rfl Z.out (by (repeat' (first | with_reducible assumption | with_reducible exact Below.refl _ _ | (with_reducible refine Below.alloc ?_ ?_ _; rotate_left; focus ((first | exact Nat.le_refl _ | (simp; done) | (simp; omega) | omega | fail))) | (with_reducible refine Below.setCell ?_ ?_ _; rotate_left; focus ((first | exact Nat.le_refl _ | (simp; done) | (simp; omega) | omega | fail))) | with_reducible refine Mem.bel_drewN ?_ _ | with_reducible refine Below.drew ?_ | (with_reducible refine Mem.bel_call (by with_reducible assumption) ?_ ?_; focus ((first | exact Nat.le_refl _ | (simp; done) | (simp; omega) | omega | fail))) | fail)))
  have q0 : (bt == 0) = true := by rw [beq_iff_eq]; omega
  by_cases h1 : nb = 0
  rotate_left
  · have Z : Hid (¬ Q) := fun p => h1 (have p := P.1 p; p.2.1)
    have q1 : ((nb : Int) == 0) = false := by rw [beq_eq_false_iff_ne]; omega
    clear P h1 h0
    go_enter Tryd.func46, Tryd.ntmps46
    go_wp2_with fail
    go_ret
    exact tells_no rfl Z.out (by (repeat' (first | with_reducible assumption | with_reducible exact Below.refl _ _ | (with_reducible refine Below.alloc ?_ ?_ _; rotate_left; focus ((first | exact Nat.le_refl _ | (simp; done) | (simp; omega) | omega | fail))) | (with_reducible refine Below.setCell ?_ ?_ _; rotate_left; focus ((first | exact Nat.le_refl _ | (simp; done) | (simp; omega) | omega | fail))) | with_reducible refine Mem.bel_drewN ?_ _ | with_reducible refine Below.drew ?_ | (with_reducible refine Mem.bel_call (by with_reducible assumption) ?_ ?_; focus ((first | exact Nat.le_refl _ | (simp; done) | (simp; omega) | omega | fail))) | fail)))
  have q1 : ((nb : Int) == 0) = true := by rw [beq_iff_eq]; omega
  by_cases h2 : ni = 0
  rotate_left
  · have Z : Hid (¬ Q) := fun p => h2 (have p := P.1 p; p.2.2.1)
    have q2 : ((ni : Int) == 0) = false := by rw [beq_eq_false_iff_ne]; omega
    clear P h2 h0 h1
    go_enter Tryd.func46, Tryd.ntmps46
    go_wp2_with fail
    go_ret
    exact tells_no rfl Z.out (by (repeat' (first | with_reducible assumption | with_reducible exact Below.refl _ _ | (with_reducible refine Below.alloc ?_ ?_ _; rotate_left; focus ((first | exact Nat.le_refl _ | (simp; done) | (simp; omega) | omega | fail))) | (with_reducible refine Below.setCell ?_ ?_ _; rotate_left; focus ((first | exact Nat.le_refl _ | (simp; done) | (simp; omega) | omega | fail))) | with_reducible refine Mem.bel_drewN ?_ _ | with_reducible refine Below.drew ?_ | (with_reducible refine Mem.bel_call (by with_reducible assumption) ?_ ?_; focus ((first | exact Nat.le_refl _ | (simp; done) | (simp; omega) | omega | fail))) | fail)))
  have q2 : ((ni : Int) == 0) = true := by rw [beq_iff_eq]; omega
  by_cases h3 : nk = 0
  rotate_left
  · have Z : Hid (¬ Q) := fun p => h3 (have p := P.1 p; p.2.2.2)
    have q3 : ((nk : Int) == 0) = false := by rw [beq_eq_false_iff_ne]; omega
    clear P h3 h0 h1 h2
    go_enter Tryd.func46, Tryd.ntmps46
    go_wp2_with fail
    go_ret
    exact tells_no rfl Z.out (by (repeat' (first | with_reducible assumption | with_reducible exact Below.refl _ _ | (with_reducible refine Below.alloc ?_ ?_ _; rotate_left; focus ((first | exact Nat.le_refl _ | (simp; done) | (simp; omega) | omega | fail))) | (with_reducible refine Below.setCell ?_ ?_ _; rotate_left; focus ((first | exact Nat.le_refl _ | (simp; done) | (simp; omega) | omega | fail))) | with_reducible refine Mem.bel_drewN ?_ _ | with_reducible refine Below.drew ?_ | (with_reducible refine Mem.bel_call (by with_reducible assumption) ?_ ?_; focus ((first | exact Nat.le_refl _ | (simp; done) | (simp; omega) | omega | fail))) | fail)))
  have q3 : ((nk : Int) == 0) = true := by rw [beq_iff_eq]; omega
  have Z : Hid Q := P.2 ⟨h0, h1, h2, h3⟩
  clear P h0 h1 h2 h3
  go_enter Tryd.func46, Tryd.ntmps46
  go_wp2_with fail
  go_ret
  exact tells_yes rfl Z.out (by (repeat' (first | with_reducible assumption | with_reducible exact Below.refl _ _ | (with_reducible refine Below.alloc ?_ ?_ _; rotate_left; focus ((first | exact Nat.le_refl _ | (simp; done) | (simp; omega) | omega | fail))) | (with_reducible refine Below.setCell ?_ ?_ _; rotate_left; focus ((first | exact Nat.le_refl _ | (simp; done) | (simp; omega) | omega | fail))) | with_reducible refine Mem.bel_drewN ?_ _ | with_reducible refine Below.drew ?_ | (with_reducible refine Mem.bel_call (by with_reducible assumption) ?_ ?_; focus ((first | exact Nat.le_refl _ | (simp; done) | (simp; omega) | omega | fail))) | fail)))
set_option maxRecDepth 100000 in
set_option maxHeartbeats 2000000 in
theorem vjust_3 (n bt : Int) (nb ni nk : Nat) (A3 A4 A5 : Option Addr) (c3 c4 c5 : Nat) (w : World) :
    Calls Tryd.prog 46 #[.agg #[.int .i64 3, .int .i64 n, .int .u64 bt, .slice A3 nb c3, .slice A4 ni c4, .slice A5 nk c5]] w (Tells (VJust 3 n bt nb ni nk) w) := by
  have CS := cell_set
  have P : VJust 3 n bt nb ni nk ↔ bt = 0 ∧ nb = 0 ∧ ni = 0 ∧ nk = 0 := by unfold VJust; omega
  generalize VJust 3 n bt nb ni nk = Q at *
  by_cases h0 : bt = 0
  rotate_left
  · have Z : Hid (¬ Q) := fun p => h0 (have p := P.1 p; p.1)
    have q0 : (bt == 0) = false := by rw [beq_eq_false_iff_ne]; omega
    clear P h0 
    go_enter Tryd.func46, Tryd.ntmps46
    go_wp2_with fail
    go_ret
    exact tells_no rfl Z.out (by (repeat' (first | with_reducible assumption | with_reducible exact Below.refl _ _ | (with_reducible refine Below.alloc ?_ ?_ _; rotate_left; focus ((first | exact Nat.le_refl _ | (simp; done) | (simp; omega) | omega | fail))) | (with_reducible refine Below.setCell ?_ ?_ _; rotate_left; focus ((first | exact Nat.le_refl _ | (simp; done) | (simp; omega) | omega | fail))) | with_reducible refine Mem.bel_drewN ?_ _ | with_reducible refine Below.drew ?_ | (with_reducible refine Mem.bel_call (by with_reducible assumption) ?_ ?_; focus ((first | exact Nat.le_refl _ | (simp; done) | (simp; omega) | omega | fail))) | fail)))
  have q0 : (bt == 0) = true := by rw [beq_iff_eq]; omega
  by_cases h1 : nb = 0
  rotate_left
  · have Z : Hid (¬ Q) := fun p => h1 (have p := P.1 p; p.2.1)
    have q1 : ((nb : Int) == 0) = false := by rw [beq_eq_false_iff_ne]; omega
    clear P h1 h0
    go_enter Tryd.func46, Tryd.ntmps46
    go_wp2_with fail
    go_ret
    exact tells_no rfl Z.out (by (repeat' (first | with_reducible assumption | with_reducible exact Below.refl _ _ | (with_reducible refine Below.alloc ?_ ?_ _; rotate_left; focus ((first | exact Nat.le_refl _ | (simp; done) | (simp; omega) | omega | fail))) | (with_reducible refine Below.setCell ?_ ?_ _; rotate_left; focus ((first | exact Nat.le_refl _ | (simp; done) | (simp; omega) | omega | fail))) | with_reducible refine Mem.bel_drewN ?_ _ | with_reducible refine Below.drew ?_ | (with_reducible refine Mem.bel_call (by with_reducible assumption) ?_ ?_; focus ((first | exact Nat.le_refl _ | (simp; done) | (simp; omega) | omega | fail))) | fail)))
  have q1 : ((nb : Int) == 0) = true := by rw [beq_iff_eq]; omega
  by_cases h2 : ni = 0
  rotate_left
  · have Z : Hid (¬ Q) := fun p => h2 (have p := P.1 p; p.2.2.1)
    have q2 : ((ni : Int) == 0) = false := by rw [beq_eq_false_iff_ne]; omega
    clear P h2 h0 h1
    go_enter Tryd.func46, Tryd.ntmps46
    go_wp2_with fail
    go_ret
    exact tells_no rfl Z.out (by (repeat' (first | with_reducible assumption | with_reducible exact Below.refl _ _ | (with_reducible refine Below.alloc ?_ ?_ _; rotate_left; focus ((first | exact Nat.le_refl _ | (simp; done) | (simp; omega) | omega | fail))) | (with_reducible refine Below.setCell ?_ ?_ _; rotate_left; focus ((first | exact Nat.le_refl _ | (simp; done) | (simp; omega) | omega | fail))) | with_reducible refine Mem.bel_drewN ?_ _ | with_reducible refine Below.drew ?_ | (with_reducible refine Mem.bel_call (by with_reducible assumption) ?_ ?_; focus ((first | exact Nat.le_refl _ | (simp; done) | (simp; omega) | omega | fail))) | fail)))
  have q2 : ((ni : Int) == 0) = true := by rw [beq_iff_eq]; omega
  by_cases h3 : nk = 0
  rotate_left
  · have Z : Hid (¬ Q) := fun p => h3 (have p := P.1 p; p.2.2.2)
    have q3 : ((nk : Int) == 0) = false := by rw [beq_eq_false_iff_ne]; omega
    clear P h3 h0 h1 h2
    go_enter Tryd.func46, Tryd.ntmps46
    go_wp2_with fail
    go_ret
    exact tells_no rfl Z.out (by (repeat' (first | with_reducible assumption | with_reducible exact Below.refl _ _ | (with_reducible refine Below.alloc ?_ ?_ _; rotate_left; focus ((first | exact Nat.le_refl _ | (simp; done) | (simp; omega) | omega | fail))) | (with_reducible refine Below.setCell ?_ ?_ _; rotate_left; focus ((first | exact Nat.le_refl _ | (simp; done) | (simp; omega) | omega | fail))) | with_reducible refine Mem.bel_drewN ?_ _ | with_reducible refine Below.drew ?_ | (with_reducible refine Mem.bel_call (by with_reducible assumption) ?_ ?_; focus ((first | exact Nat.le_refl _ | (simp; done) | (simp; omega) | omega | fail))) | fail)))
  have q3 : ((nk : Int) == 0) = true := by rw [beq_iff_eq]; omega
  have Z : Hid Q := P.2 ⟨h0, h1, h2, h3⟩
  clear P h0 h1 h2 h3
  go_enter Tryd.func46, Tryd.ntmps46
  go_wp2_with fail
  go_ret
  exact tells_yes rfl Z.out (by (repeat' (first | with_reducible assumption | with_reducible exact Below.refl _ _ | (with_reducible refine Below.alloc ?_ ?_ _; rotate_left; focus ((first | exact Nat.le_refl _ | (simp; done) | (simp; omega) | omega | fail))) | (with_reducible refine Below.setCell ?_ ?_ _; rotate_left; focus ((first | exact Nat.le_refl _ | (simp; done) | (simp; omega) | omega | fail))) | with_reducible refine Mem.bel_drewN ?_ _ | with_reducible refine Below.drew ?_ | (with_reducible refine Mem.bel_call (by with_reducible assumption) ?_ ?_; focus ((first | exact Nat.le_refl _ | (simp; done) | (simp; omega) | omega | fail))) | fail)))
set_option maxRecDepth 100000 in
set_option maxHeartbeats 2000000 in
theorem vjust_4 (n bt : Int) (nb ni nk : Nat) (A3 A4 A5 : Option Addr) (c3 c4 c5 : Nat) (w : World) :
    Calls Tryd.prog 46 #[.agg #[.int .i64 4, .int .i64 n, .int .u64 bt, .slice A3 nb c3, .slice A4 ni c4, .slice A5 nk c5]] w (Tells (VJust 4 n bt nb ni nk) w) := by
  have CS := cell_set
  have P : VJust 4 n bt nb ni nk ↔ bt = 0 ∧ nb = 0 ∧ ni = 0 ∧ nk = 0 := by unfold VJust; omega
  generalize VJust 4 n bt nb ni nk = Q at *
  by_cases h0 : bt = 0
  rotate_left
  · have Z : Hid (¬ Q) := fun p => h0 (have p := P.1 p; p.1)
    have q0 : (bt == 0) = false := by rw [beq_eq_false_iff_ne]; omega
    clear P h0 
    go_enter Tryd.func46, Tryd.ntmps46
    go_wp2_with fail
    go_ret
    exact tells_no rfl Z.out (by (repeat' (first | with_reducible assumption | with_reducible exact Below.refl _ _ | (with_reducible refine Below.alloc ?_ ?_ _; rotate_left; focus ((first | exact Nat.le_refl _ | (simp; done) | (simp; omega) | omega | fail))) | (with_reducible refine Below.setCell ?_ ?_ _; rotate_left; focus ((first | exact Nat.le_refl _ | (simp; done) | (simp; omega) | omega | fail))) | with_reducible refine Mem.bel_drewN ?_ _ | with_reducible refine Below.drew ?_ | (with_reducible refine Mem.bel_call (by with_reducible assumption) ?_ ?_; focus ((first | exact Nat.le_refl _ | (simp; done) | (simp; omega) | omega | fail))) | fail)))
  have q0 : (bt == 0) = true := by rw [beq_iff_eq]; omega
  by_cases h1 : nb = 0
  rotate_left
  · have Z : Hid (¬ Q) := fun p => h1 (have p := P.1 p; p.2.1)
    have q1 : ((nb : Int) == 0) = false := by rw [beq_eq_false_iff_ne]; omega
    clear P h1 h0
    go_enter Tryd.func46, Tryd.ntmps46
    go_wp2_with fail
    go_ret
    exact tells_no rfl Z.out (by (repeat' (first | with_reducible assumption | with_reducible exact Below.refl _ _ | (with_reducible refine Below.alloc ?_ ?_ _; rotate_left; focus ((first | exact Nat.le_refl _ | (simp; done) | (simp; omega) | omega | fail))) | (with_reducible refine Below.setCell ?_ ?_ _; rotate_left; focus ((first | exact Nat.le_refl _ | (simp; done) | (simp; omega) | omega | fail))) | with_reducible refine Mem.bel_drewN ?_ _ | with_reducible refine Below.drew ?_ | (with_reducible refine Mem.bel_call (by with_reducible assumption) ?_ ?_; focus ((first | exact Nat.le_refl _ | (simp; done) | (simp; omega) | omega | fail))) | fail)))
  have q1 : ((nb : Int) == 0) = true := by rw [beq_iff_eq]; omega
  by_cases h2 : ni = 0
  rotate_left
  · have Z : Hid (¬ Q) := fun p => h2 (have p := P.1 p; p.2.2.1)
    have q2 : ((ni : Int) == 0) = false := by rw [beq_eq_false_iff_ne]; omega
    clear P h2 h0 h1
    go_enter Tryd.func46, Tryd.ntmps46
    go_wp2_with fail
    go_ret
    exact tells_no rfl Z.out (by (repeat' (first | with_reducible assumption | with_reducible exact Below.refl _ _ | (with_reducible refine Below.alloc ?_ ?_ _; rotate_left; focus ((first | exact Nat.le_refl _ | (simp; done) | (simp; omega) | omega | fail))) | (with_reducible refine Below.setCell ?_ ?_ _; rotate_left; focus ((first | exact Nat.le_refl _ | (simp; done) | (simp; omega) | omega | fail))) | with_reducible refine Mem.bel_drewN ?_ _ | with_reducible refine Below.drew ?_ | (with_reducible refine Mem.bel_call (by with_reducible assumption) ?_ ?_; focus ((first | exact Nat.le_refl _ | (simp; done) | (simp; omega) | omega | fail))) | fail)))
  have q2 : ((ni : Int) == 0) = true := by rw [beq_iff_eq]; omega
  by_cases h3 : nk = 0
  rotate_left
  · have Z : Hid (¬ Q) := fun p => h3 (have p := P.1 p; p.2.2.2)
    have q3 : ((nk : Int) == 0) = false := by rw [beq_eq_false_iff_ne]; omega
    clear P h3 h0 h1 h2
    go_enter Tryd.func46, Tryd.ntmps46
    go_wp2_with fail
    go_ret
    exact tells_no rfl Z.out (by (repeat' (first | with_reducible assumption | with_reducible exact Below.refl _ _ | (with_reducible refine Below.alloc ?_ ?_ _; rotate_left; focus ((first | exact Nat.le_refl _ | (simp; done) | (simp; omega) | omega | fail))) | (with_reducible refine Below.setCell ?_ ?_ _; rotate_left; focus ((first | exact Nat.le_refl _ | (simp; done) | (simp; omega) | omega | fail))) | with_reducible refine Mem.bel_drewN ?_ _ | with_reducible refine Below.drew ?_ | (with_reducible refine Mem.bel_call (by with_reducible assumption) ?_ ?_; focus ((first | exact Nat.le_refl _ | (simp; done) | (simp; omega) | omega | fail))) | fail)))
  have q3 : ((nk : Int) == 0) = true := by rw [beq_iff_eq]; omega
  have Z : Hid Q := P.2 ⟨h0, h1, h2, h3⟩
  clear P h0 h1 h2 h3
  go_enter Tryd.func46, Tryd.ntmps46
  go_wp2_with fail
  go_ret
  exact tells_yes rfl Z.out (by (repeat' (first | with_reducible assumption | with_reducible exact Below.refl _ _ | (with_reducible refine Below.alloc ?_ ?_ _; rotate_left; focus ((first | exact Nat.le_refl _ | (simp; done) | (simp; omega) | omega | fail))) | (with_reducible refine Below.setCell ?_ ?_ _; rotate_left; focus ((first | exact Nat.le_refl _ | (simp; done) | (simp; omega) | omega | fail))) | with_reducible refine Mem.bel_drewN ?_ _ | with_reducible refine Below.drew ?_ | (with_reducible refine Mem.bel_call (by with_reducible assumption) ?_ ?_; focus ((first | exact Nat.le_refl _ | (simp; done) | (simp; omega) | omega | fail))) | fail)))
set_option maxRecDepth 100000 in
set_option maxHeartbeats 2000000 in
theorem vjust_5 (n bt : Int) (nb ni nk : Nat) (A3 A4 A5 : Option Addr) (c3 c4 c5 : Nat) (w : World) :
    Calls Tryd.prog 46 #[.agg #[.int .i64 5, .int .i64 n, .int .u64 bt, .slice A3 nb c3, .slice A4 ni c4, .slice A5 nk c5]] w (Tells (VJust 5 n bt nb ni nk) w) := by
  have CS := cell_set
  have P : VJust 5 n bt nb ni nk ↔ n = 0 ∧ nb = 0 ∧ ni = 0 ∧ nk = 0 := by unfold VJust; omega
  generalize VJust 5 n bt nb ni nk = Q at *
  by_cases h0 : n = 0
  rotate_left
  · have Z : Hid (¬ Q) := fun p => h0 (have p := P.1 p; p.1)
    have q0 : (n == 0) = false := by rw [beq_eq_false_iff_ne]; omega
    clear P h0 
    go_enter Tryd.func46, Tryd.ntmps46
    go_wp2_with fail
    go_ret
    exact tells_no rfl Z.out (by (repeat' (first | with_reducible assumption | with_reducible exact Below.refl _ _ | (with_reducible refine Below.alloc ?_ ?_ _; rotate_left; focus ((first | exact Nat.le_refl _ | (simp; done) | (simp; omega) | omega | fail))) | (with_reducible refine Below.setCell ?_ ?_ _; rotate_left; focus ((first | exact Nat.le_refl _ | (simp; done) | (simp; omega) | omega | fail))) | with_reducible refine Mem.bel_drewN ?_ _ | with_reducible refine Below.drew ?_ | (with_reducible refine Mem.bel_call (by with_reducible assumption) ?_ ?_; focus ((first | exact Nat.le_refl _ | (simp; done) | (simp; omega) | omega | fail))) | fail)))
  have q0 : (n == 0) = true := by rw [beq_iff_eq]; omega
  by_cases h1 : nb = 0
  rotate_left
  · have Z : Hid (¬ Q) := fun p => h1 (have p := P.1 p; p.2.1)
    have q1 : ((nb : Int) == 0) = false := by rw [beq_eq_false_iff_ne]; omega
    clear P h1 h0
    go_enter Tryd.func46, Tryd.ntmps46
    go_wp2_with fail
    go_ret
    exact tells_no rfl Z.out (by (repeat' (first | with_reducible assumption | with_reducible exact Below.refl _ _ | (with_reducible refine Below.alloc ?_ ?_ _; rotate_left; focus ((first | exact Nat.le_refl _ | (simp; done) | (simp; omega) | omega | fail))) | (with_reducible refine Below.setCell ?_ ?_ _; rotate_left; focus ((first | exact Nat.le_refl _ | (simp; done) | (simp; omega) | omega | fail))) | with_reducible refine Mem.bel_drewN ?_ _ | with_reducible refine Below.drew ?_ | (with_reducible refine Mem.bel_call (by with_reducible assumption) ?_ ?_; focus ((first | exact Nat.le_refl _ | (simp; done) | (simp; omega) | omega | fail))) | fail)))
  have q1 : ((nb : Int) == 0) = true := by rw [beq_iff_eq]; omega
  by_cases h2 : ni = 0
  rotate_left
  · have Z : Hid (¬ Q) := fun p => h2 (have p := P.1 p; p.2.2.1)
    have q2 : ((ni : Int) == 0) = false := by rw [beq_eq_false_iff_ne]; omega
    clear P h2 h0 h1
    go_enter Tryd.func46, Tryd.ntmps46
    go_wp2_with fail
    go_ret
    exact tells_no rfl Z.out (by (repeat' (first | with_reducible assumption | with_reducible exact Below.refl _ _ | (with_reducible refine Below.alloc ?_ ?_ _; rotate_left; focus ((first | exact Nat.le_refl _ | (simp; done) | (simp; omega) | omega | fail))) | (with_reducible refine Below.setCell ?_ ?_ _; rotate_left; focus ((first | exact Nat.le_refl _ | (simp; done) | (simp; omega) | omega | fail))) | with_reducible refine Mem.bel_drewN ?_ _ | with_reducible refine Below.drew ?_ | (with_reducible refine Mem.bel_call (by with_reducible assumption) ?_ ?_; focus ((first | exact Nat.le_refl _ | (simp; done) | (simp; omega) | omega | fail))) | fail)))
  have q2 : ((ni : Int) == 0) = true := by rw [beq_iff_eq]; omega
  by_cases h3 : nk = 0
  rotate_left
  · have Z : Hid (¬ Q) := fun p => h3 (have p := P.1 p; p.2.2.2)
    have q3 : ((nk : Int) == 0) = false := by rw [beq_eq_false_iff_ne]; omega
    clear P h3 h0 h1 h2
    go_enter Tryd.func46, Tryd.ntmps46
    go_wp2_with fail
    go_ret
    exact tells_no rfl Z.out (by (repeat' (first | with_reducible assumption | with_reducible exact Below.refl _ _ | (with_reducible refine Below.alloc ?_ ?_ _; rotate_left; focus ((first | exact Nat.le_refl _ | (simp; done) | (simp; omega) | omega | fail))) | (with_reducible refine Below.setCell ?_ ?_ _; rotate_left; focus ((first | exact Nat.le_refl _ | (simp; done) | (simp; omega) | omega | fail))) | with_reducible refine Mem.bel_drewN ?_ _ | with_reducible refine Below.drew ?_ | (with_reducible refine Mem.bel_call (by with_reducible assumption) ?_ ?_; focus ((first | exact Nat.le_refl _ | (simp; done) | (simp; omega) | omega | fail))) | fail)))
  have q3 : ((nk : Int) == 0) = true := by rw [beq_iff_eq]; omega
  have Z : Hid Q := P.2 ⟨h0, h1, h2, h3⟩
  clear P h0 h1 h2 h3
  go_enter Tryd.func46, Tryd.ntmps46
  go_wp2_with fail
  go_ret
  exact tells_yes rfl Z.out (by (repeat' (first | with_reducible assumption | with_reducible exact Below.refl _ _ | (with_reducible refine Below.alloc ?_ ?_ _; rotate_left; focus ((first | exact Nat.le_refl _ | (simp; done) | (simp; omega) | omega | fail))) | (with_reducible refine Below.setCell ?_ ?_ _; rotate_left; focus ((first | exact Nat.le_refl _ | (simp; done) | (simp; omega) | omega | fail))) | with_reducible refine Mem.bel_drewN ?_ _ | with_reducible refine Below.drew ?_ | (with_reducible refine Mem.bel_call (by with_reducible assumption) ?_ ?_; focus ((first | exact Nat.le_refl _ | (simp; done) | (simp; omega) | omega | fail))) | fail)))
set_option maxRecDepth 100000 in
set_option maxHeartbeats 2000000 in
theorem vjust_6 (n bt : Int) (nb ni nk : Nat) (A3 A4 A5 : Option Addr) (c3 c4 c5 : Nat) (w : World) :
    Calls Tryd.prog 46 #[.agg #[.int .i64 6, .int .i64 n, .int .u64 bt, .slice A3 nb c3, .slice A4 ni c4, .slice A5 nk c5]] w (Tells (VJust 6 n bt nb ni nk) w) := by
  have CS := cell_set
  have P : VJust 6 n bt nb ni nk ↔ n = 0 ∧ nb = 0 ∧ ni = 0 ∧ nk = 0 := by unfold VJust; omega
  generalize VJust 6 n bt nb ni nk = Q at *
  by_cases h0 : n = 0
  rotate_left
  · have Z : Hid (¬ Q) := fun p => h0 (have p := P.1 p; p.1)
    have q0 : (n == 0) = false := by rw [beq_eq_false_iff_ne]; omega
    clear P h0 
    go_enter Tryd.func46, Tryd.ntmps46
    go_wp2_with fail
    go_ret
    exact tells_no rfl Z.out (by (repeat' (first | with_reducible assumption | with_reducible exact Below.refl _ _ | (with_reducible refine Below.alloc ?_ ?_ _; rotate_left; focus ((first | exact Nat.le_refl _ | (simp; done) | (simp; omega) | omega | fail))) | (with_reducible refine Below.setCell ?_ ?_ _; rotate_left; focus ((first | exact Nat.le_refl _ | (simp; done) | (simp; omega) | omega | fail))) | with_reducible refine Mem.bel_drewN ?_ _ | with_reducible refine Below.drew ?_ | (with_reducible refine Mem.bel_call (by with_reducible assumption) ?_ ?_; focus ((first | exact Nat.le_refl _ | (simp; done) | (simp; omega) | omega | fail))) | fail)))
  have q0 : (n == 0) = true := by rw [beq_iff_eq]; omega
  by_cases h1 : nb = 0
  rotate_left
  · have Z : Hid (¬ Q) := fun p => h1 (have p := P.1 p; p.2.1)
    have q1 : ((nb : Int) == 0) = false := by rw [beq_eq_false_iff_ne]; omega
    clear P h1 h0
    go_enter Tryd.func46, Tryd.ntmps46
    go_wp2_with fail
    go_ret
    exact tells_no rfl Z.out (by (repeat' (first | with_reducible assumption | with_reducible exact Below.refl _ _ | (with_reducible refine Below.alloc ?_ ?_ _; rotate_left; focus ((first | exact Nat.le_refl _ | (simp; done) | (simp; omega) | omega | fail))) | (with_reducible refine Below.setCell ?_ ?_ _; rotate_left; focus ((first | exact Nat.le_refl _ | (simp; done) | (simp; omega) | omega | fail))) | with_reducible refine Mem.bel_drewN ?_ _ | with_reducible refine Below.drew ?_ | (with_reducible refine Mem.bel_call (by with_reducible assumption) ?_ ?_; focus ((first | exact Nat.le_refl _ | (simp; done) | (simp; omega) | omega | fail))) | fail)))
  have q1 : ((nb : Int) == 0) = true := by rw [beq_iff_eq]; omega
  by_cases h2 : ni = 0
  rotate_left
  · have Z : Hid (¬ Q) := fun p => h2 (have p := P.1 p; p.2.2.1)
    have q2 : ((ni : Int) == 0) = false := by rw [beq_eq_false_iff_ne]; omega
    clear P h2 h0 h1
    go_enter Tryd.func46, Tryd.ntmps46
    go_wp2_with fail
    go_ret
    exact tells_no rfl Z.out (by (repeat' (first | with_reducible assumption | with_reducible exact Below.refl _ _ | (with_reducible refine Below.alloc ?_ ?_ _; rotate_left; focus ((first | exact Nat.le_refl _ | (simp; done) | (simp; omega) | omega | fail))) | (with_reducible refine Below.setCell ?_ ?_ _; rotate_left; focus ((first | exact Nat.le_refl _ | (simp; done) | (simp; omega) | omega | fail))) | with_reducible refine Mem.bel_drewN ?_ _ | with_reducible refine Below.drew ?_ | (with_reducible refine Mem.bel_call (by with_reducible assumption) ?_ ?_; focus ((first | exact Nat.le_refl _ | (simp; done) | (simp; omega) | omega | fail))) | fail)))
  have q2 : ((ni : Int) == 0) = true := by rw [beq_iff_eq]; omega
  by_cases h3 : nk = 0
  rotate_left
  · have Z : Hid (¬ Q) := fun p => h3 (have p := P.1 p; p.2.2.2)
    have q3 : ((nk : Int) == 0) = false := by rw [beq_eq_false_iff_ne]; omega
    clear P h3 h0 h1 h2
    go_enter Tryd.func46, Tryd.ntmps46
    go_wp2_with fail
    go_ret
    exact tells_no rfl Z.out (by (repeat' (first | with_reducible assumption | with_reducible exact Below.refl _ _ | (with_reducible refine Below.alloc ?_ ?_ _; rotate_left; focus ((first | exact Nat.le_refl _ | (simp; done) | (simp; omega) | omega | fail))) | (with_reducible refine Below.setCell ?_ ?_ _; rotate_left; focus ((first | exact Nat.le_refl _ | (simp; done) | (simp; omega) | omega | fail))) | with_reducible refine Mem.bel_drewN ?_ _ | with_reducible refine Below.drew ?_ | (with_reducible refine Mem.bel_call (by with_reducible assumption) ?_ ?_; focus ((first | exact Nat.le_refl _ | (simp; done) | (simp; omega) | omega | fail))) | fail)))
  have q3 : ((nk : Int) == 0) = true := by rw [beq_iff_eq]; omega
  have Z : Hid Q := P.2 ⟨h0, h1, h2, h3⟩
  clear P h0 h1 h2 h3
  go_enter Tryd.func46, Tryd.ntmps46
  go_wp2_with fail
  go_ret
  exact tells_yes rfl Z.out (by (repeat' (first | with_reducible assumption | with_reducible exact Below.refl _ _ | (with_reducible refine Below.alloc ?_ ?_ _; rotate_left; focus ((first | exact Nat.le_refl _ | (simp; done) | (simp; omega) | omega | fail))) | (with_reducible refine Below.setCell ?_ ?_ _; rotate_left; focus ((first | exact Nat.le_refl _ | (simp; done) | (simp; omega) | omega | fail))) | with_reducible refine Mem.bel_drewN ?_ _ | with_reducible refine Below.drew ?_ | (with_reducible refine Mem.bel_call (by with_reducible assumption) ?_ ?_; focus ((first | exact Nat.le_refl _ | (simp; done) | (simp; omega) | omega | fail))) | fail)))
set_option maxRecDepth 100000 in
set_option maxHeartbeats 2000000 in
theorem vjust_7 (n bt : Int) (nb ni nk : Nat) (A3 A4 A5 : Option Addr) (c3 c4 c5 : Nat) (w : World) :
    Calls Tryd.prog 46 #[.agg #[.int .i64 7, .int .i64 n, .int .u64 bt, .slice A3 nb c3, .slice A4 ni c4, .slice A5 nk c5]] w (Tells (VJust 7 n bt nb ni nk) w) := by
  have CS := cell_set
  have P : VJust 7 n bt nb ni nk ↔ n = 0 ∧ bt = 0 ∧ ni = 0 ∧ nk = 0 := by unfold VJust; omega
  generalize VJust 7 n bt nb ni nk = Q at *
  by_cases h0 : n = 0
  rotate_left
  · have Z : Hid (¬ Q) := fun p => h0 (have p := P.1 p; p.1)
    have q0 : (n == 0) = false := by rw [beq_eq_false_iff_ne]; omega
    clear P h0 
    go_enter Tryd.func46, Tryd.ntmps46
    go_wp2_with fail
    go_ret
    exact tells_no rfl Z.out (by (repeat' (first | with_reducible assumption | with_reducible exact Below.refl _ _ | (with_reducible refine Below.alloc ?_ ?_ _; rotate_left; focus ((first | exact Nat.le_refl _ | (simp; done) | (simp; omega) | omega | fail))) | (with_reducible refine Below.setCell ?_ ?_ _; rotate_left; focus ((first | exact Nat.le_refl _ | (simp; done) | (simp; omega) | omega | fail))) | with_reducible refine Mem.bel_drewN ?_ _ | with_reducible refine Below.drew ?_ | (with_reducible refine Mem.bel_call (by with_reducible assumption) ?_ ?_; focus ((first | exact Nat.le_refl _ | (simp; done) | (simp; omega) | omega | fail))) | fail)))
  have q0 : (n == 0) = true := by rw [beq_iff_eq]; omega
  by_cases h1 : bt = 0
  rotate_left
  · have Z : Hid (¬ Q) := fun p => h1 (have p := P.1 p; p.2.1)
    have q1 : (bt == 0) = false := by rw [beq_eq_false_iff_ne]; omega
    clear P h1 h0
    go_enter Tryd.func46, Tryd.ntmps46
    go_wp2_with fail
    go_ret
    exact tells_no rfl Z.out (by (repeat' (first | with_reducible assumption | with_reducible exact Below.refl _ _ | (with_reducible refine Below.alloc ?_ ?_ _; rotate_left; focus ((first | exact Nat.le_refl _ | (simp; done) | (simp; omega) | omega | fail))) | (with_reducible refine Below.setCell ?_ ?_ _; rotate_left; focus ((first | exact Nat.le_refl _ | (simp; done) | (simp; omega) | omega | fail))) | with_reducible refine Mem.bel_drewN ?_ _ | with_reducible refine Below.drew ?_ | (with_reducible refine Mem.bel_call (by with_reducible assumption) ?_ ?_; focus ((first | exact Nat.le_refl _ | (simp; done) | (simp; omega) | omega | fail))) | fail)))
  have q1 : (bt == 0) = true := by rw [beq_iff_eq]; omega
  by_cases h2 : ni = 0
  rotate_left
  · have Z : Hid (¬ Q) := fun p => h2 (have p := P.1 p; p.2.2.1)
    have q2 : ((ni : Int) == 0) = false := by rw [beq_eq_false_iff_ne]; omega
    clear P h2 h0 h1
    go_enter Tryd.func46, Tryd.ntmps46
    go_wp2_with fail
    go_ret
    exact tells_no rfl Z.out (by (repeat' (first | with_reducible assumption | with_reducible exact Below.refl _ _ | (with_reducible refine Below.alloc ?_ ?_ _; rotate_left; focus ((first | exact Nat.le_refl _ | (simp; done) | (simp; omega) | omega | fail))) | (with_reducible refine Below.setCell ?_ ?_ _; rotate_left; focus ((first | exact Nat.le_refl _ | (simp; done) | (simp; omega) | omega | fail))) | with_reducible refine Mem.bel_drewN ?_ _ | with_reducible refine Below.drew ?_ | (with_reducible refine Mem.bel_call (by with_reducible assumption) ?_ ?_; focus ((first | exact Nat.le_refl _ | (simp; done) | (simp; omega) | omega | fail))) | fail)))
  have q2 : ((ni : Int) == 0) = true := by rw [beq_iff_eq]; omega
  by_cases h3 : nk = 0
  rotate_left
  · have Z : Hid (¬ Q) := fun p => h3 (have p := P.1 p; p.2.2.2)
    have q3 : ((nk : Int) == 0) = false := by rw [beq_eq_false_iff_ne]; omega
    clear P h3 h0 h1 h2
    go_enter Tryd.func46, Tryd.ntmps46
    go_wp2_with fail
    go_ret
    exact tells_no rfl Z.out (by (repeat' (first | with_reducible assumption | with_reducible exact Below.refl _ _ | (with_reducible refine Below.alloc ?_ ?_ _; rotate_left; focus ((first | exact Nat.le_refl _ | (simp; done) | (simp; omega) | omega | fail))) | (with_reducible refine Below.setCell ?_ ?_ _; rotate_left; focus ((first | exact Nat.le_refl _ | (simp; done) | (simp; omega) | omega | fail))) | with_reducible refine Mem.bel_drewN ?_ _ | with_reducible refine Below.drew ?_ | (with_reducible refine Mem.bel_call (by with_reducible assumption) ?_ ?_; focus ((first | exact Nat.le_refl _ | (simp; done) | (simp; omega) | omega | fail))) | fail)))
  have q3 : ((nk : Int) == 0) = true := by rw [beq_iff_eq]; omega
  have Z : Hid Q := P.2 ⟨h0, h1, h2, h3⟩
  clear P h0 h1 h2 h3
  go_enter Tryd.func46, Tryd.ntmps46
  go_wp2_with fail
  go_ret
  exact tells_yes rfl Z.out (by (repeat' (first | with_reducible assumption | with_reducible exact Below.refl _ _ | (with_reducible refine Below.alloc ?_ ?_ _; rotate_left; focus ((first | exact Nat.le_refl _ | (simp; done) | (simp; omega) | omega | fail))) | (with_reducible refine Below.setCell ?_ ?_ _; rotate_left; focus ((first | exact Nat.le_refl _ | (simp; done) | (simp; omega) | omega | fail))) | with_reducible refine Mem.bel_drewN ?_ _ | with_reducible refine Below.drew ?_ | (with_reducible refine Mem.bel_call (by with_reducible assumption) ?_ ?_; focus ((first | exact Nat.le_refl _ | (simp; done) | (simp; omega) | omega | fail))) | fail)))
set_option maxRecDepth 100000 in
set_option maxHeartbeats 2000000 in
theorem vjust_8 (n bt : Int) (nb ni nk : Nat) (A3 A4 A5 : Option Addr) (c3 c4 c5 : Nat) (w : World) :
    Calls Tryd.prog 46 #[.agg #[.int .i64 8, .int .i64 n, .int .u64 bt, .slice A3 nb c3, .slice A4 ni c4, .slice A5 nk c5]] w (Tells (VJust 8 n bt nb ni nk) w) := by
  have CS := cell_set
  have P : VJust 8 n bt nb ni nk ↔ n = 0 ∧ bt = 0 ∧ ni = 0 ∧ nk = 0 := by unfold VJust; omega
  generalize VJust 8 n bt nb ni nk = Q at *
  by_cases h0 : n = 0
  rotate_left
  · have Z : Hid (¬ Q) := fun p => h0 (have p := P.1 p; p.1)
    have q0 : (n == 0) = false := by rw [beq_eq_false_iff_ne]; omega
    clear P h0 
    go_enter Tryd.func46, Tryd.ntmps46
    go_wp2_with fail
    go_ret
    exact tells_no rfl Z.out (by (repeat' (first | with_reducible assumption | with_reducible exact Below.refl _ _ | (with_reducible refine Below.alloc ?_ ?_ _; rotate_left; focus ((first | exact Nat.le_refl _ | (simp; done) | (simp; omega) | omega | fail))) | (with_reducible refine Below.setCell ?_ ?_ _; rotate_left; focus ((first | exact Nat.le_refl _ | (simp; done) | (simp; omega) | omega | fail))) | with_reducible refine Mem.bel_drewN ?_ _ | with_reducible refine Below.drew ?_ | (with_reducible refine Mem.bel_call (by with_reducible assumption) ?_ ?_; focus ((first | exact Nat.le_refl _ | (simp; done) | (simp; omega) | omega | fail))) | fail)))
  have q0 : (n == 0) = true := by rw [beq_iff_eq]; omega
  by_cases h1 : bt = 0
  rotate_left
  · have Z : Hid (¬ Q) := fun p => h1 (have p := P.1 p; p.2.1)
    have q1 : (bt == 0) = false := by rw [beq_eq_false_iff_ne]; omega
    clear P h1 h0
    go_enter Tryd.func46, Tryd.ntmps46
    go_wp2_with fail
    go_ret
    exact tells_no rfl Z.out (by (repeat' (first | with_reducible assumption | with_reducible exact Below.refl _ _ | (with_reducible refine Below.alloc ?_ ?_ _; rotate_left; focus ((first | exact Nat.le_refl _ | (simp; done) | (simp; omega) | omega | fail))) | (with_reducible refine Below.setCell ?_ ?_ _; rotate_left; focus ((first | exact Nat.le_refl _ | (simp; done) | (simp; omega) | omega | fail))) | with_reducible refine Mem.bel_drewN ?_ _ | with_reducible refine Below.drew ?_ | (with_reducible refine Mem.bel_call (by with_reducible assumption) ?_ ?_; focus ((first | exact Nat.le_refl _ | (simp; done) | (simp; omega) | omega | fail))) | fail)))
  have q1 : (bt == 0) = true := by rw [beq_iff_eq]; omega
  by_cases h2 : ni = 0
  rotate_left
  · have Z : Hid (¬ Q) := fun p => h2 (have p := P.1 p; p.2.2.1)
    have q2 : ((ni : Int) == 0) = false := by rw [beq_eq_false_iff_ne]; omega
    clear P h2 h0 h1
    go_enter Tryd.func46, Tryd.ntmps46
    go_wp2_with fail
    go_ret
    exact tells_no rfl Z.out (by (repeat' (first | with_reducible assumption | with_reducible exact Below.refl _ _ | (with_reducible refine Below.alloc ?_ ?_ _; rotate_left; focus ((first | exact Nat.le_refl _ | (simp; done) | (simp; omega) | omega | fail))) | (with_reducible refine Below.setCell ?_ ?_ _; rotate_left; focus ((first | exact Nat.le_refl _ | (simp; done) | (simp; omega) | omega | fail))) | with_reducible refine Mem.bel_drewN ?_ _ | with_reducible refine Below.drew ?_ | (with_reducible refine Mem.bel_call (by with_reducible assumption) ?_ ?_; focus ((first | exact Nat.le_refl _ | (simp; done) | (simp; omega) | omega | fail))) | fail)))
  have q2 : ((ni : Int) == 0) = true := by rw [beq_iff_eq]; omega
  by_cases h3 : nk = 0
  rotate_left
  · have Z : Hid (¬ Q) := fun p => h3 (have p := P.1 p; p.2.2.2)
    have q3 : ((nk : Int) == 0) = false := by rw [beq_eq_false_iff_ne]; omega
    clear P h3 h0 h1 h2
    go_enter Tryd.func46, Tryd.ntmps46
    go_wp2_with fail
    go_ret
    exact tells_no rfl Z.out (by (repeat' (first | with_reducible assumption | with_reducible exact Below.refl _ _ | (with_reducible refine Below.alloc ?_ ?_ _; rotate_left; focus ((first | exact Nat.le_refl _ | (simp; done) | (simp; omega) | omega | fail))) | (with_reducible refine Below.setCell ?_ ?_ _; rotate_left; focus ((first | exact Nat.le_refl _ | (simp; done) | (simp; omega) | omega | fail))) | with_reducible refine Mem.bel_drewN ?_ _ | with_reducible refine Below.drew ?_ | (with_reducible refine Mem.bel_call (by with_reducible assumption) ?_ ?_; focus ((first | exact Nat.le_refl _ | (simp; done) | (simp; omega) | omega | fail))) | fail)))
  have q3 : ((nk : Int) == 0) = true := by rw [beq_iff_eq]; omega
  have Z : Hid Q := P.2 ⟨h0, h1, h2, h3⟩
  clear P h0 h1 h2 h3
  go_enter Tryd.func46, Tryd.ntmps46
  go_wp2_with fail
  go_ret
  exact tells_yes rfl Z.out (by (repeat' (first | with_reducible assumption | with_reducible exact Below.refl _ _ | (with_reducible refine Below.alloc ?_ ?_ _; rotate_left; focus ((first | exact Nat.le_refl _ | (simp; done) | (simp; omega) | omega | fail))) | (with_reducible refine Below.setCell ?_ ?_ _; rotate_left; focus ((first | exact Nat.le_refl _ | (simp; done) | (simp; omega) | omega | fail))) | with_reducible refine Mem.bel_drewN ?_ _ | with_reducible refine Below.drew ?_ | (with_reducible refine Mem.bel_call (by with_reducible assumption) ?_ ?_; focus ((first | exact Nat.le_refl _ | (simp; done) | (simp; omega) | omega | fail))) | fail)))
set_option maxRecDepth 100000 in
set_option maxHeartbeats 2000000 in
theorem vjust_9 (n bt : Int) (nb ni nk : Nat) (A3 A4 A5 : Option Addr) (c3 c4 c5 : Nat) (w : World) :
    Calls Tryd.prog 46 #[.agg #[.int .i64 9, .int .i64 n, .int .u64 bt, .slice A3 nb c3, .slice A4 ni c4, .slice A5 nk c5]] w (Tells (VJust 9 n bt nb ni nk) w) := by
  have CS := cell_set
  have P : VJust 9 n bt nb ni nk ↔ n = 0 ∧ bt = 0 ∧ nb = 0 ∧ nk = 0 := by unfold VJust; omega
  generalize VJust 9 n bt nb ni nk = Q at *
  by_cases h0 : n = 0
  rotate_left
  · have Z : Hid (¬ Q) := fun p => h0 (have p := P.1 p; p.1)
    have q0 : (n == 0) = false := by rw [beq_eq_false_iff_ne]; omega
    clear P h0 
    go_enter Tryd.func46, Tryd.ntmps46
    go_wp2_with fail
    go_ret
    exact tells_no rfl Z.out (by (repeat' (first | with_reducible assumption | with_reducible exact Below.refl _ _ | (with_reducible refine Below.alloc ?_ ?_ _; rotate_left; focus ((first | exact Nat.le_refl _ | (simp; done) | (simp; omega) | omega | fail))) | (with_reducible refine Below.setCell ?_ ?_ _; rotate_left; focus ((first | exact Nat.le_refl _ | (simp; done) | (simp; omega) | omega | fail))) | with_reducible refine Mem.bel_drewN ?_ _ | with_reducible refine Below.drew ?_ | (with_reducible refine Mem.bel_call (by with_reducible assumption) ?_ ?_; focus ((first | exact Nat.le_refl _ | (simp; done) | (simp; omega) | omega | fail))) | fail)))
  have q0 : (n == 0) = true := by rw [beq_iff_eq]; omega
  by_cases h1 : bt = 0
  rotate_left
  · have Z : Hid (¬ Q) := fun p => h1 (have p := P.1 p; p.2.1)
    have q1 : (bt == 0) = false := by rw [beq_eq_false_iff_ne]; omega
    clear P h1 h0
    go_enter Tryd.func46, Tryd.ntmps46
    go_wp2_with fail
    go_ret
    exact tells_no rfl Z.out (by (repeat' (first | with_reducible assumption | with_reducible exact Below.refl _ _ | (with_reducible refine Below.alloc ?_ ?_ _; rotate_left; focus ((first | exact Nat.le_refl _ | (simp; done) | (simp; omega) | omega | fail))) | (with_reducible refine Below.setCell ?_ ?_ _; rotate_left; focus ((first | exact Nat.le_refl _ | (simp; done) | (simp; omega) | omega | fail))) | with_reducible refine Mem.bel_drewN ?_ _ | with_reducible refine Below.drew ?_ | (with_reducible refine Mem.bel_call (by with_reducible assumption) ?_ ?_; focus ((first | exact Nat.le_refl _ | (simp; done) | (simp; omega) | omega | fail))) | fail)))
  have q1 : (bt == 0) = true := by rw [beq_iff_eq]; omega
  by_cases h2 : nb = 0
  rotate_left
  · have Z : Hid (¬ Q) := fun p => h2 (have p := P.1 p; p.2.2.1)
    have q2 : ((nb : Int) == 0) = false := by rw [beq_eq_false_iff_ne]; omega
    clear P h2 h0 h1
    go_enter Tryd.func46, Tryd.ntmps46
    go_wp2_with fail
    go_ret
    exact tells_no rfl Z.out (by (repeat' (first | with_reducible assumption | with_reducible exact Below.refl _ _ | (with_reducible refine Below.alloc ?_ ?_ _; rotate_left; focus ((first | exact Nat.le_refl _ | (simp; done) | (simp; omega) | omega | fail))) | (with_reducible refine Below.setCell ?_ ?_ _; rotate_left; focus ((first | exact Nat.le_refl _ | (simp; done) | (simp; omega) | omega | fail))) | with_reducible refine Mem.bel_drewN ?_ _ | with_reducible refine Below.drew ?_ | (with_reducible refine Mem.bel_call (by with_reducible assumption) ?_ ?_; focus ((first | exact Nat.le_refl _ | (simp; done) | (simp; omega) | omega | fail))) | fail)))
  have q2 : ((nb : Int) == 0) = true := by rw [beq_iff_eq]; omega
  by_cases h3 : nk = 0
  rotate_left
  · have Z : Hid (¬ Q) := fun p => h3 (have p := P.1 p; p.2.2.2)
    have q3 : ((nk : Int) == 0) = false := by rw [beq_eq_false_iff_ne]; omega
    clear P h3 h0 h1 h2
    go_enter Tryd.func46, Tryd.ntmps46
    go_wp2_with fail
    go_ret
    exact tells_no rfl Z.out (by (repeat' (first | with_reducible assumption | with_reducible exact Below.refl _ _ | (with_reducible refine Below.alloc ?_ ?_ _; rotate_left; focus ((first | exact Nat.le_refl _ | (simp; done) | (simp; omega) | omega | fail))) | (with_reducible refine Below.setCell ?_ ?_ _; rotate_left; focus ((first | exact Nat.le_refl _ | (simp; done) | (simp; omega) | omega | fail))) | with_reducible refine Mem.bel_drewN ?_ _ | with_reducible refine Below.drew ?_ | (with_reducible refine Mem.bel_call (by with_reducible assumption) ?_ ?_; focus ((first | exact Nat.le_refl _ | (simp; done) | (simp; omega) | omega | fail))) | fail)))
  have q3 : ((nk : Int) == 0) = true := by rw [beq_iff_eq]; omega
  have Z : Hid Q := P.2 ⟨h0, h1, h2, h3⟩
  clear P h0 h1 h2 h3
  go_enter Tryd.func46, Tryd.ntmps46
  go_wp2_with fail
  go_ret
  exact tells_yes rfl Z.out (by (repeat' (first | with_reducible assumption | with_reducible exact Below.refl _ _ | (with_reducible refine Below.alloc ?_ ?_ _; rotate_left; focus ((first | exact Nat.le_refl _ | (simp; done) | (simp; omega) | omega | fail))) | (with_reducible refine Below.setCell ?_ ?_ _; rotate_left; focus ((first | exact Nat.le_refl _ | (simp; done) | (simp; omega) | omega | fail))) | with_reducible refine Mem.bel_drewN ?_ _ | with_reducible refine Below.drew ?_ | (with_reducible refine Mem.bel_call (by with_reducible assumption) ?_ ?_; focus ((first | exact Nat.le_refl _ | (simp; done) | (simp; omega) | omega | fail))) | fail)))
set_option maxRecDepth 100000 in
set_option maxHeartbeats 2000000 in
theorem vjust_10 (n bt : Int) (nb ni nk : Nat) (A3 A4 A5 : Option Addr) (c3 c4 c5 : Nat) (w : World) :
    Calls Tryd.prog 46 #[.agg #[.int .i64 10, .int .i64 n, .int .u64 bt, .slice A3 nb c3, .slice A4 ni c4, .slice A5 nk c5]] w (Tells (VJust 10 n bt nb ni nk) w) := by
  have CS := cell_set
  have P : VJust 10 n bt nb ni nk ↔ bt = 0 ∧ nb = 0 ∧ ni = 0 ∧ nk = 0 := by unfold VJust; omega
  generalize VJust 10 n bt nb ni nk = Q at *
  by_cases h0 : bt = 0
  rotate_left
  · have Z : Hid (¬ Q) := fun p => h0 (have p := P.1 p; p.1)
    have q0 : (bt == 0) = false := by rw [beq_eq_false_iff_ne]; omega
    clear P h0 
    go_enter Tryd.func46, Tryd.ntmps46
    go_wp2_with fail
    go_ret
    exact tells_no rfl Z.out (by (repeat' (first | with_reducible assumption | with_reducible exact Below.refl _ _ | (with_reducible refine Below.alloc ?_ ?_ _; rotate_left; focus ((first | exact Nat.le_refl _ | (simp; done) | (simp; omega) | omega | fail))) | (with_reducible refine Below.setCell ?_ ?_ _; rotate_left; focus ((first | exact Nat.le_refl _ | (simp; done) | (simp; omega) | omega | fail))) | with_reducible refine Mem.bel_drewN ?_ _ | with_reducible refine Below.drew ?_ | (with_reducible refine Mem.bel_call (by with_reducible assumption) ?_ ?_; focus ((first | exact Nat.le_refl _ | (simp; done) | (simp; omega) | omega | fail))) | fail)))
  have q0 : (bt == 0) = true := by rw [beq_iff_eq]; omega
  by_cases h1 : nb = 0
  rotate_left
  · have Z : Hid (¬ Q) := fun p => h1 (have p := P.1 p; p.2.1)
    have q1 : ((nb : Int) == 0) = false := by rw [beq_eq_false_iff_ne]; omega
    clear P h1 h0
    go_enter Tryd.func46, Tryd.ntmps46
    go_wp2_with fail
    go_ret
    exact tells_no rfl Z.out (by (repeat' (first | with_reducible assumption | with_reducible exact Below.refl _ _ | (with_reducible refine Below.alloc ?_ ?_ _; rotate_left; focus ((first | exact Nat.le_refl _ | (simp; done) | (simp; omega) | omega | fail))) | (with_reducible refine Below.setCell ?_ ?_ _; rotate_left; focus ((first | exact Nat.le_refl _ | (simp; done) | (simp; omega) | omega | fail))) | with_reducible refine Mem.bel_drewN ?_ _ | with_reducible refine Below.drew ?_ | (with_reducible refine Mem.bel_call (by with_reducible assumption) ?_ ?_; focus ((first | exact Nat.le_refl _ | (simp; done) | (simp; omega) | omega | fail))) | fail)))
  have q1 : ((nb : Int) == 0) = true := by rw [beq_iff_eq]; omega
  by_cases h2 : ni = 0
  rotate_left
  · have Z : Hid (¬ Q) := fun p => h2 (have p := P.1 p; p.2.2.1)
    have q2 : ((ni : Int) == 0) = false := by rw [beq_eq_false_iff_ne]; omega
    clear P h2 h0 h1
    go_enter Tryd.func46, Tryd.ntmps46
    go_wp2_with fail
    go_ret
    exact tells_no rfl Z.out (by (repeat' (first | with_reducible assumption | with_reducible exact Below.refl _ _ | (with_reducible refine Below.alloc ?_ ?_ _; rotate_left; focus ((first | exact Nat.le_refl _ | (simp; done) | (simp; omega) | omega | fail))) | (with_reducible refine Below.setCell ?_ ?_ _; rotate_left; focus ((first | exact Nat.le_refl _ | (simp; done) | (simp; omega) | omega | fail))) | with_reducible refine Mem.bel_drewN ?_ _ | with_reducible refine Below.drew ?_ | (with_reducible refine Mem.bel_call (by with_reducible assumption) ?_ ?_; focus ((first | exact Nat.le_refl _ | (simp; done) | (simp; omega) | omega | fail))) | fail)))
  have q2 : ((ni : Int) == 0) = true := by rw [beq_iff_eq]; omega
  by_cases h3 : nk = 0
  rotate_left
  · have Z : Hid (¬ Q) := fun p => h3 (have p := P.1 p; p.2.2.2)
    have q3 : ((nk : Int) == 0) = false := by rw [beq_eq_false_iff_ne]; omega
    clear P h3 h0 h1 h2
    go_enter Tryd.func46, Tryd.ntmps46
    go_wp2_with fail
    go_ret
    exact tells_no rfl Z.out (by (repeat' (first | with_reducible assumption | with_reducible exact Below.refl _ _ | (with_reducible refine Below.alloc ?_ ?_ _; rotate_left; focus ((first | exact Nat.le_refl _ | (simp; done) | (simp; omega) | omega | fail))) | (with_reducible refine Below.setCell ?_ ?_ _; rotate_left; focus ((first | exact Nat.le_refl _ | (simp; done) | (simp; omega) | omega | fail))) | with_reducible refine Mem.bel_drewN ?_ _ | with_reducible refine Below.drew ?_ | (with_reducible refine Mem.bel_call (by with_reducible assumption) ?_ ?_; focus ((first | exact Nat.le_refl _ | (simp; done) | (simp; omega) | omega | fail))) | fail)))
  have q3 : ((nk : Int) == 0) = true := by rw [beq_iff_eq]; omega
  have Z : Hid Q := P.2 ⟨h0, h1, h2, h3⟩
  clear P h0 h1 h2 h3
  go_enter Tryd.func46, Tryd.ntmps46
  go_wp2_with fail
  go_ret
  exact tells_yes rfl Z.out (by (repeat' (first | with_reducible assumption | with_reducible exact Below.refl _ _ | (with_reducible refine Below.alloc ?_ ?_ _; rotate_left; focus ((first | exact Nat.le_refl _ | (simp; done) | (simp; omega) | omega | fail))) | (with_reducible refine Below.setCell ?_ ?_ _; rotate_left; focus ((first | exact Nat.le_refl _ | (simp; done) | (simp; omega) | omega | fail))) | with_reducible refine Mem.bel_drewN ?_ _ | with_reducible refine Below.drew ?_ | (with_reducible refine Mem.bel_call (by with_reducible assumption) ?_ ?_; focus ((first | exact Nat.le_refl _ | (simp; done) | (simp; omega) | omega | fail))) | fail)))
set_option maxRecDepth 100000 in
set_option maxHeartbeats 2000000 in
theorem vjust_11 (n bt : Int) (nb ni nk : Nat) (A3 A4 A5 : Option Addr) (c3 c4 c5 : Nat) (w : World) :
    Calls Tryd.prog 46 #[.agg #[.int .i64 11, .int .i64 n, .int .u64 bt, .slice A3 nb c3, .slice A4 ni c4, .slice A5 nk c5]] w (Tells (VJust 11 n bt nb ni nk) w) := by
  have CS := cell_set
  have P : VJust 11 n bt nb ni nk ↔ n = 0 ∧ bt = 0 ∧ nb = 0 ∧ nk = 0 := by unfold VJust; omega
  generalize VJust 11 n bt nb ni nk = Q at *
  by_cases h0 : n = 0
  rotate_left
  · have Z : Hid (¬ Q) := fun p => h0 (have p := P.1 p; p.1)
    have q0 : (n == 0) = false := by rw [beq_eq_false_iff_ne]; omega
    clear P h0 
    go_enter Tryd.func46, Tryd.ntmps46
    go_wp2_with fail
    go_ret
    exact tells_no rfl Z.out (by (repeat' (first | with_reducible assumption | with_reducible exact Below.refl _ _ | (with_reducible refine Below.alloc ?_ ?_ _; rotate_left; focus ((first | exact Nat.le_refl _ | (simp; done) | (simp; omega) | omega | fail))) | (with_reducible refine Below.setCell ?_ ?_ _; rotate_left; focus ((first | exact Nat.le_refl _ | (simp; done) | (simp; omega) | omega | fail))) | with_reducible refine Mem.bel_drewN ?_ _ | with_reducible refine Below.drew ?_ | (with_reducible refine Mem.bel_call (by with_reducible assumption) ?_ ?_; focus ((first | exact Nat.le_refl _ | (simp; done) | (simp; omega) | omega | fail))) | fail)))
  have q0 : (n == 0) = true := by rw [beq_iff_eq]; omega
  by_cases h1 : bt = 0
  rotate_left
  · have Z : Hid (¬ Q) := fun p => h1 (have p := P.1 p; p.2.1)
    have q1 : (bt == 0) = false := by rw [beq_eq_false_iff_ne]; omega
    clear P h1 h0
    go_enter Tryd.func46, Tryd.ntmps46
    go_wp2_with fail
    go_ret
    exact tells_no rfl Z.out (by (repeat' (first | with_reducible assumption | with_reducible exact Below.refl _ _ | (with_reducible refine Below.alloc ?_ ?_ _; rotate_left; focus ((first | exact Nat.le_refl _ | (simp; done) | (simp; omega) | omega | fail))) | (with_reducible refine Below.setCell ?_ ?_ _; rotate_left; focus ((first | exact Nat.le_refl _ | (simp; done) | (simp; omega) | omega | fail))) | with_reducible refine Mem.bel_drewN ?_ _ | with_reducible refine Below.drew ?_ | (with_reducible refine Mem.bel_call (by with_reducible assumption) ?_ ?_; focus ((first | exact Nat.le_refl _ | (simp; done) | (simp; omega) | omega | fail))) | fail)))
  have q1 : (bt == 0) = true := by rw [beq_iff_eq]; omega
  by_cases h2 : nb = 0
  rotate_left
  · have Z : Hid (¬ Q) := fun p => h2 (have p := P.1 p; p.2.2.1)
    have q2 : ((nb : Int) == 0) = false := by rw [beq_eq_false_iff_ne]; omega
    clear P h2 h0 h1
    go_enter Tryd.func46, Tryd.ntmps46
    go_wp2_with fail
    go_ret
    exact tells_no rfl Z.out (by (repeat' (first | with_reducible assumption | with_reducible exact Below.refl _ _ | (with_reducible refine Below.alloc ?_ ?_ _; rotate_left; focus ((first | exact Nat.le_refl _ | (simp; done) | (simp; omega) | omega | fail))) | (with_reducible refine Below.setCell ?_ ?_ _; rotate_left; focus ((first | exact Nat.le_refl _ | (simp; done) | (simp; omega) | omega | fail))) | with_reducible refine Mem.bel_drewN ?_ _ | with_reducible refine Below.drew ?_ | (with_reducible refine Mem.bel_call (by with_reducible assumption) ?_ ?_; focus ((first | exact Nat.le_refl _ | (simp; done) | (simp; omega) | omega | fail))) | fail)))
  have q2 : ((nb : Int) == 0) = true := by rw [beq_iff_eq]; omega
  by_cases h3 : nk = 0
  rotate_left
  · have Z : Hid (¬ Q) := fun p => h3 (have p := P.1 p; p.2.2.2)
    have q3 : ((nk : Int) == 0) = false := by rw [beq_eq_false_iff_ne]; omega
    clear P h3 h0 h1 h2
    go_enter Tryd.func46, Tryd.ntmps46
    go_wp2_with fail
    go_ret
    exact tells_no rfl Z.out (by (repeat' (first | with_reducible assumption | with_reducible exact Below.refl _ _ | (with_reducible refine Below.alloc ?_ ?_ _; rotate_left; focus ((first | exact Nat.le_refl _ | (simp; done) | (simp; omega) | omega | fail))) | (with_reducible refine Below.setCell ?_ ?_ _; rotate_left; focus ((first | exact Nat.le_refl _ | (simp; done) | (simp; omega) | omega | fail))) | with_reducible refine Mem.bel_drewN ?_ _ | with_reducible refine Below.drew ?_ | (with_reducible refine Mem.bel_call (by with_reducible assumption) ?_ ?_; focus ((first | exact Nat.le_refl _ | (simp; done) | (simp; omega) | omega | fail))) | fail)))
  have q3 : ((nk : Int) == 0) = true := by rw [beq_iff_eq]; omega
  have Z : Hid Q := P.2 ⟨h0, h1, h2, h3⟩
  clear P h0 h1 h2 h3
  go_enter Tryd.func46, Tryd.ntmps46
  go_wp2_with fail
  go_ret
  exact tells_yes rfl Z.out (by (repeat' (first | with_reducible assumption | with_reducible exact Below.refl _ _ | (with_reducible refine Below.alloc ?_ ?_ _; rotate_left; focus ((first | exact Nat.le_refl _ | (simp; done) | (simp; omega) | omega | fail))) | (with_reducible refine Below.setCell ?_ ?_ _; rotate_left; focus ((first | exact Nat.le_refl _ | (simp; done) | (simp; omega) | omega | fail))) | with_reducible refine Mem.bel_drewN ?_ _ | with_reducible refine Below.drew ?_ | (with_reducible refine Mem.bel_call (by with_reducible assumption) ?_ ?_; focus ((first | exact Nat.le_refl _ | (simp; done) | (simp; omega) | omega | fail))) | fail)))
set_option maxRecDepth 100000 in
set_option maxHeartbeats 2000000 in
theorem vjust_12 (n bt : Int) (nb ni nk : Nat) (A3 A4 A5 : Option Addr) (c3 c4 c5 : Nat) (w : World) :
    Calls Tryd.prog 46 #[.agg #[.int .i64 12, .int .i64 n, .int .u64 bt, .slice A3 nb c3, .slice A4 ni c4, .slice A5 nk c5]] w (Tells (VJust 12 n bt nb ni nk) w) := by
  have CS := cell_set
  have P : VJust 12 n bt nb ni nk ↔ n = 0 ∧ bt = 0 ∧ nb = 0 := by unfold VJust; omega
  generalize VJust 12 n bt nb ni nk = Q at *
  by_cases h0 : n = 0
  rotate_left
  · have Z : Hid (¬ Q) := fun p => h0 (have p := P.1 p; p.1)
    have q0 : (n == 0) = false := by rw [beq_eq_false_iff_ne]; omega
    clear P h0 
    go_enter Tryd.func46, Tryd.ntmps46
    go_wp2_with fail
    go_ret
    exact tells_no rfl Z.out (by (repeat' (first | with_reducible assumption | with_reducible exact Below.refl _ _ | (with_reducible refine Below.alloc ?_ ?_ _; rotate_left; focus ((first | exact Nat.le_refl _ | (simp; done) | (simp; omega) | omega | fail))) | (with_reducible refine Below.setCell ?_ ?_ _; rotate_left; focus ((first | exact Nat.le_refl _ | (simp; done) | (simp; omega) | omega | fail))) | with_reducible refine Mem.bel_drewN ?_ _ | with_reducible refine Below.drew ?_ | (with_reducible refine Mem.bel_call (by with_reducible assumption) ?_ ?_; focus ((first | exact Nat.le_refl _ | (simp; done) | (simp; omega) | omega | fail))) | fail)))
  have q0 : (n == 0) = true := by rw [beq_iff_eq]; omega
  by_cases h1 : bt = 0
  rotate_left
  · have Z : Hid (¬ Q) := fun p => h1 (have p := P.1 p; p.2.1)
    have q1 : (bt == 0) = false := by rw [beq_eq_false_iff_ne]; omega
    clear P h1 h0
    go_enter Tryd.func46, Tryd.ntmps46
    go_wp2_with fail
    go_ret
    exact tells_no rfl Z.out (by (repeat' (first | with_reducible assumption | with_reducible exact Below.refl _ _ | (with_reducible refine Below.alloc ?_ ?_ _; rotate_left; focus ((first | exact Nat.le_refl _ | (simp; done) | (simp; omega) | omega | fail))) | (with_reducible refine Below.setCell ?_ ?_ _; rotate_left; focus ((first | exact Nat.le_refl _ | (simp; done) | (simp; omega) | omega | fail))) | with_reducible refine Mem.bel_drewN ?_ _ | with_reducible refine Below.drew ?_ | (with_reducible refine Mem.bel_call (by with_reducible assumption) ?_ ?_; focus ((first | exact Nat.le_refl _ | (simp; done) | (simp; omega) | omega | fail))) | fail)))
  have q1 : (bt == 0) = true := by rw [beq_iff_eq]; omega
  by_cases h2 : nb = 0
  rotate_left
  · have Z : Hid (¬ Q) := fun p => h2 (have p := P.1 p; p.2.2)
    have q2 : ((nb : Int) == 0) = false := by rw [beq_eq_false_iff_ne]; omega
    clear P h2 h0 h1
    go_enter Tryd.func46, Tryd.ntmps46
    go_wp2_with fail
    go_ret
    exact tells_no rfl Z.out (by (repeat' (first | with_reducible assumption | with_reducible exact Below.refl _ _ | (with_reducible refine Below.alloc ?_ ?_ _; rotate_left; focus ((first | exact Nat.le_refl _ | (simp; done) | (simp; omega) | omega | fail))) | (with_reducible refine Below.setCell ?_ ?_ _; rotate_left; focus ((first | exact Nat.le_refl _ | (simp; done) | (simp; omega) | omega | fail))) | with_reducible refine Mem.bel_drewN ?_ _ | with_reducible refine Below.drew ?_ | (with_reducible refine Mem.bel_call (by with_reducible assumption) ?_ ?_; focus ((first | exact Nat.le_refl _ | (simp; done) | (simp; omega) | omega | fail))) | fail)))
  have q2 : ((nb : Int) == 0) = true := by rw [beq_iff_eq]; omega
  have Z : Hid Q := P.2 ⟨h0, h1, h2⟩
  clear P h0 h1 h2
  go_enter Tryd.func46, Tryd.ntmps46
  go_wp2_with fail
  go_ret
  exact tells_yes rfl Z.out (by (repeat' (first | with_reducible assumption | with_reducible exact Below.refl _ _ | (with_reducible refine Below.alloc ?_ ?_ _; rotate_left; focus ((first | exact Nat.le_refl _ | (simp; done) | (simp; omega) | omega | fail))) | (with_reducible refine Below.setCell ?_ ?_ _; rotate_left; focus ((first | exact Nat.le_refl _ | (simp; done) | (simp; omega) | omega | fail))) | with_reducible refine Mem.bel_drewN ?_ _ | with_reducible refine Below.drew ?_ | (with_reducible refine Mem.bel_call (by with_reducible assumption) ?_ ?_; focus ((first | exact Nat.le_refl _ | (simp; done) | (simp; omega) | omega | fail))) | fail)))
set_option maxRecDepth 100000 in
set_option maxHeartbeats 2000000 in
theorem vjust_13 (n bt : Int) (nb ni nk : Nat) (A3 A4 A5 : Option Addr) (c3 c4 c5 : Nat) (w : World) :
    Calls Tryd.prog 46 #[.agg #[.int .i64 13, .int .i64 n, .int .u64 bt, .slice A3 nb c3, .slice A4 ni c4, .slice A5 nk c5]] w (Tells (VJust 13 n bt nb ni nk) w) := by
  have CS := cell_set
  have P : VJust 13 n bt nb ni nk ↔ bt = 0 ∧ nb = 0 ∧ nk = 0 := by unfold VJust; omega
  generalize VJust 13 n bt nb ni nk = Q at *
  by_cases h0 : bt = 0
  rotate_left
  · have Z : Hid (¬ Q) := fun p => h0 (have p := P.1 p; p.1)
    have q0 : (bt == 0) = false := by rw [beq_eq_false_iff_ne]; omega
    clear P h0 
    go_enter Tryd.func46, Tryd.ntmps46
    go_wp2_with fail
    go_ret
    exact tells_no rfl Z.out (by (repeat' (first | with_reducible assumption | with_reducible exact Below.refl _ _ | (with_reducible refine Below.alloc ?_ ?_ _; rotate_left; focus ((first | exact Nat.le_refl _ | (simp; done) | (simp; omega) | omega | fail))) | (with_reducible refine Below.setCell ?_ ?_ _; rotate_left; focus ((first | exact Nat.le_refl _ | (simp; done) | (simp; omega) | omega | fail))) | with_reducible refine Mem.bel_drewN ?_ _ | with_reducible refine Below.drew ?_ | (with_reducible refine Mem.bel_call (by with_reducible assumption) ?_ ?_; focus ((first | exact Nat.le_refl _ | (simp; done) | (simp; omega) | omega | fail))) | fail)))
  have q0 : (bt == 0) = true := by rw [beq_iff_eq]; omega
  by_cases h1 : nb = 0
  rotate_left
  · have Z : Hid (¬ Q) := fun p => h1 (have p := P.1 p; p.2.1)
    have q1 : ((nb : Int) == 0) = false := by rw [beq_eq_false_iff_ne]; omega
    clear P h1 h0
    go_enter Tryd.func46, Tryd.ntmps46
    go_wp2_with fail
    go_ret
    exact tells_no rfl Z.out (by (repeat' (first | with_reducible assumption | with_reducible exact Below.refl _ _ | (with_reducible refine Below.alloc ?_ ?_ _; rotate_left; focus ((first | exact Nat.le_refl _ | (simp; done) | (simp; omega) | omega | fail))) | (with_reducible refine Below.setCell ?_ ?_ _; rotate_left; focus ((first | exact Nat.le_refl _ | (simp; done) | (simp; omega) | omega | fail))) | with_reducible refine Mem.bel_drewN ?_ _ | with_reducible refine Below.drew ?_ | (with_reducible refine Mem.bel_call (by with_reducible assumption) ?_ ?_; focus ((first | exact Nat.le_refl _ | (simp; done) | (simp; omega) | omega | fail))) | fail)))
  have q1 : ((nb : Int) == 0) = true := by rw [beq_iff_eq]; omega
  by_cases h2 : nk = 0
  rotate_left
  · have Z : Hid (¬ Q) := fun p => h2 (have p := P.1 p; p.2.2)
    have q2 : ((nk : Int) == 0) = false := by rw [beq_eq_false_iff_ne]; omega
    clear P h2 h0 h1
    go_enter Tryd.func46, Tryd.ntmps46
    go_wp2_with fail
    go_ret
    exact tells_no rfl Z.out (by (repeat' (first | with_reducible assumption | with_reducible exact Below.refl _ _ | (with_reducible refine Below.alloc ?_ ?_ _; rotate_left; focus ((first | exact Nat.le_refl _ | (simp; done) | (simp; omega) | omega | fail))) | (with_reducible refine Below.setCell ?_ ?_ _; rotate_left; focus ((first | exact Nat.le_refl _ | (simp; done) | (simp; omega) | omega | fail))) | with_reducible refine Mem.bel_drewN ?_ _ | with_reducible refine Below.drew ?_ | (with_reducible refine Mem.bel_call (by with_reducible assumption) ?_ ?_; focus ((first | exact Nat.le_refl _ | (simp; done) | (simp; omega) | omega | fail))) | fail)))
  have q2 : ((nk : Int) == 0) = true := by rw [beq_iff_eq]; omega
  have Z : Hid Q := P.2 ⟨h0, h1, h2⟩
  clear P h0 h1 h2
  go_enter Tryd.func46, Tryd.ntmps46
  go_wp2_with fail
  go_ret
  exact tells_yes rfl Z.out (by (repeat' (first | with_reducible assumption | with_reducible exact Below.refl _ _ | (with_reducible refine Below.alloc ?_ ?_ _; rotate_left; focus ((first | exact Nat.le_refl _ | (simp; done) | (simp; omega) | omega | fail))) | (with_reducible refine Below.setCell ?_ ?_ _; rotate_left; focus ((first | exact Nat.le_refl _ | (simp; done) | (simp; omega) | omega | fail))) | with_reducible refine Mem.bel_drewN ?_ _ | with_reducible refine Below.drew ?_ | (with_reducible refine Mem.bel_call (by with_reducible assumption) ?_ ?_; focus ((first | exact Nat.le_refl _ | (simp; done) | (simp; omega) | omega | fail))) | fail)))
set_option maxRecDepth 100000 in
set_option maxHeartbeats 2000000 in
theorem vjust_14 (n bt : Int) (nb ni nk : Nat) (A3 A4 A5 : Option Addr) (c3 c4 c5 : Nat) (w : World) :
    Calls Tryd.prog 46 #[.agg #[.int .i64 14, .int .i64 n, .int .u64 bt, .slice A3 nb c3, .slice A4 ni c4, .slice A5 nk c5]] w (Tells (VJust 14 n bt nb ni nk) w) := by
  have CS := cell_set
  have P : VJust 14 n bt nb ni nk ↔ n = 0 ∧ bt = 0 ∧ ni = 0 ∧ nk = 0 := by unfold VJust; omega
  generalize VJust 14 n bt nb ni nk = Q at *
  by_cases h0 : n = 0
  rotate_left
  · have Z : Hid (¬ Q) := fun p => h0 (have p := P.1 p; p.1)
    have q0 : (n == 0) = false := by rw [beq_eq_false_iff_ne]; omega
    clear P h0 
    go_enter Tryd.func46, Tryd.ntmps46
    go_wp2_with fail
    go_ret
    exact tells_no rfl Z.out (by (repeat' (first | with_reducible assumption | with_reducible exact Below.refl _ _ | (with_reducible refine Below.alloc ?_ ?_ _; rotate_left; focus ((first | exact Nat.le_refl _ | (simp; done) | (simp; omega) | omega | fail))) | (with_reducible refine Below.setCell ?_ ?_ _; rotate_left; focus ((first | exact Nat.le_refl _ | (simp; done) | (simp; omega) | omega | fail))) | with_reducible refine Mem.bel_drewN ?_ _ | with_reducible refine Below.drew ?_ | (with_reducible refine Mem.bel_call (by with_reducible assumption) ?_ ?_; focus ((first | exact Nat.le_refl _ | (simp; done) | (simp; omega) | omega | fail))) | fail)))
  have q0 : (n == 0) = true := by rw [beq_iff_eq]; omega
  by_cases h1 : bt = 0
  rotate_left
  · have Z : Hid (¬ Q) := fun p => h1 (have p := P.1 p; p.2.1)
    have q1 : (bt == 0) = false := by rw [beq_eq_false_iff_ne]; omega
    clear P h1 h0
    go_enter Tryd.func46, Tryd.ntmps46
    go_wp2_with fail
    go_ret
    exact tells_no rfl Z.out (by (repeat' (first | with_reducible assumption | with_reducible exact Below.refl _ _ | (with_reducible refine Below.alloc ?_ ?_ _; rotate_left; focus ((first | exact Nat.le_refl _ | (simp; done) | (simp; omega) | omega | fail))) | (with_reducible refine Below.setCell ?_ ?_ _; rotate_left; focus ((first | exact Nat.le_refl _ | (simp; done) | (simp; omega) | omega | fail))) | with_reducible refine Mem.bel_drewN ?_ _ | with_reducible refine Below.drew ?_ | (with_reducible refine Mem.bel_call (by with_reducible assumption) ?_ ?_; focus ((first | exact Nat.le_refl _ | (simp; done) | (simp; omega) | omega | fail))) | fail)))
  have q1 : (bt == 0) = true := by rw [beq_iff_eq]; omega
  by_cases h2 : ni = 0
  rotate_left
  · have Z : Hid (¬ Q) := fun p => h2 (have p := P.1 p; p.2.2.1)
    have q2 : ((ni : Int) == 0) = false := by rw [beq_eq_false_iff_ne]; omega
    clear P h2 h0 h1
    go_enter Tryd.func46, Tryd.ntmps46
    go_wp2_with fail
    go_ret
    exact tells_no rfl Z.out (by (repeat' (first | with_reducible assumption | with_reducible exact Below.refl _ _ | (with_reducible refine Below.alloc ?_ ?_ _; rotate_left; focus ((first | exact Nat.le_refl _ | (simp; done) | (simp; omega) | omega | fail))) | (with_reducible refine Below.setCell ?_ ?_ _; rotate_left; focus ((first | exact Nat.le_refl _ | (simp; done) | (simp; omega) | omega | fail))) | with_reducible refine Mem.bel_drewN ?_ _ | with_reducible refine Below.drew ?_ | (with_reducible refine Mem.bel_call (by with_reducible assumption) ?_ ?_; focus ((first | exact Nat.le_refl _ | (simp; done) | (simp; omega) | omega | fail))) | fail)))
  have q2 : ((ni : Int) == 0) = true := by rw [beq_iff_eq]; omega
  by_cases h3 : nk = 0
  rotate_left
  · have Z : Hid (¬ Q) := fun p => h3 (have p := P.1 p; p.2.2.2)
    have q3 : ((nk : Int) == 0) = false := by rw [beq_eq_false_iff_ne]; omega
    clear P h3 h0 h1 h2
    go_enter Tryd.func46, Tryd.ntmps46
    go_wp2_with fail
    go_ret
    exact tells_no rfl Z.out (by (repeat' (first | with_reducible assumption | with_reducible exact Below.refl _ _ | (with_reducible refine Below.alloc ?_ ?_ _; rotate_left; focus ((first | exact Nat.le_refl _ | (simp; done) | (simp; omega) | omega | fail))) | (with_reducible refine Below.setCell ?_ ?_ _; rotate_left; focus ((first | exact Nat.le_refl _ | (simp; done) | (simp; omega) | omega | fail))) | with_reducible refine Mem.bel_drewN ?_ _ | with_reducible refine Below.drew ?_ | (with_reducible refine Mem.bel_call (by with_reducible assumption) ?_ ?_; focus ((first | exact Nat.le_refl _ | (simp; done) | (simp; omega) | omega | fail))) | fail)))
  have q3 : ((nk : Int) == 0) = true := by rw [beq_iff_eq]; omega
  have Z : Hid Q := P.2 ⟨h0, h1, h2, h3⟩
  clear P h0 h1 h2 h3
  go_enter Tryd.func46, Tryd.ntmps46
  go_wp2_with fail
  go_ret
  exact tells_yes rfl Z.out (by (repeat' (first | with_reducible assumption | with_reducible exact Below.refl _ _ | (with_reducible refine Below.alloc ?_ ?_ _; rotate_left; focus ((first | exact Nat.le_refl _ | (simp; done) | (simp; omega) | omega | fail))) | (with_reducible refine Below.setCell ?_ ?_ _; rotate_left; focus ((first | exact Nat.le_refl _ | (simp; done) | (simp; omega) | omega | fail))) | with_reducible refine Mem.bel_drewN ?_ _ | with_reducible refine Below.drew ?_ | (with_reducible refine Mem.bel_call (by with_reducible assumption) ?_ ?_; focus ((first | exact Nat.le_refl _ | (simp; done) | (simp; omega) | omega | fail))) | fail)))
end Go.Proofs.YtlpmcohbbffbfaaDoor
