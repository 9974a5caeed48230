/- Layer 7, the document's own answers: what is too great. -/
import Derived.Test.YtheeahnhdehloaaDoorJRBulk
namespace Go.Proofs.YtheeahnhdehloaaDoor
open Go.ChangeShapes Go.WideShapes Go.ChangeAt Go.RowKit Mem

/-- Great: if it denies, the tree is at most 61 deep. -/
theorem great_any (t : J) (w : World) (A3 A4 : Option Addr) (c3 c4 : Nat) (ht : TreeC w w.heap.size t [.int .i64 t.k, .int .i64 t.n, .string t.t, .slice A3 t.its.length c3, .slice A4 t.ks.length c4]) :
    Calls Tryd.prog 10 #[.agg #[.int .i64 t.k, .int .i64 t.n, .string t.t, .slice A3 t.its.length c3, .slice A4 t.ks.length c4]] w (fun e w' => ∃ b : Bool, e = .returned (.bool b) ∧ (b = false → t.deep ≤ 61) ∧ Below w.heap.size w w') := by
  have CS := cell_set
  have W1 : Below w.heap.size w (w.alloc (.cells #[.int .i64 t.k, .int .i64 t.n, .string t.t, .slice A3 t.its.length c3, .slice A4 t.ks.length c4] 27)) := by (repeat' (first | with_reducible assumption | with_reducible exact Below.refl _ _ | (with_reducible refine Below.alloc ?_ ?_ _; rotate_left; focus ((first | exact Nat.le_refl _ | (simp; done) | (simp; omega) | omega | fail))) | (with_reducible refine Below.setCell ?_ ?_ _; rotate_left; focus ((first | exact Nat.le_refl _ | (simp; done) | (simp; omega) | omega | fail))) | with_reducible refine Mem.bel_drewN ?_ _ | with_reducible refine Below.drew ?_ | (with_reducible refine Mem.bel_call (by with_reducible assumption) ?_ ?_; focus ((first | exact Nat.le_refl _ | (simp; done) | (simp; omega) | omega | fail))) | fail))
  have b0 := bulk_any t 0 _ A3 A4 c3 c4 (by omega) ((ht.below W1).more W1.size)
  rw [show ((0 : Nat) : Int) = 0 from rfl] at b0
  have B0 := Lib.hid b0
  clear b0
  go_enter Tryd.func10, Tryd.ntmps10
  go_wp2_with fail
  with_reducible refine B0.out.mono ?_
  rintro e w3 ⟨n, rfl, hn, hd, b3⟩
  have bw : Below w.heap.size w w3 := by (repeat' (first | with_reducible assumption | with_reducible exact Below.refl _ _ | (with_reducible refine Below.alloc ?_ ?_ _; rotate_left; focus ((first | exact Nat.le_refl _ | (simp; done) | (simp; omega) | omega | fail))) | (with_reducible refine Below.setCell ?_ ?_ _; rotate_left; focus ((first | exact Nat.le_refl _ | (simp; done) | (simp; omega) | omega | fail))) | with_reducible refine Mem.bel_drewN ?_ _ | with_reducible refine Below.drew ?_ | (with_reducible refine Mem.bel_call (by with_reducible assumption) ?_ ?_; focus ((first | exact Nat.le_refl _ | (simp; done) | (simp; omega) | omega | fail))) | fail))
  have HD := Lib.hid hd
  clear hd
  by_cases h : (2000 : Int) < (n : Int)
  · go_wp2_with fail
    go_ret
    exact ⟨true, rfl, (fun h => by cases h), bw⟩
  · go_wp2_with fail
    go_ret
    have q : decide ((2000 : Int) < (n : Int)) = false := by simpa using h
    exact ⟨false, by first | rfl | exact congrArg (fun b => Ending.returned (.bool b)) q, (fun _ => by have := HD.out (by omega); omega), bw⟩
end Go.Proofs.YtheeahnhdehloaaDoor
