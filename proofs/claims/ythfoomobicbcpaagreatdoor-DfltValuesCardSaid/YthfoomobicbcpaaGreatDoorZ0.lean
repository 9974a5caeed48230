/- Side proofs that the texts behind ask for again and again, said once. -/
import Derived.WalkKit
import Derived.Below
import Derived.OwnWalk
import Derived.Test.YthfoomobicbcpaaGreatDoorProg
namespace Go.Proofs.YthfoomobicbcpaaGreatDoor
open Go.RowKit
theorem bqq {P : Prop} (h : P := by (repeat' (first | with_reducible assumption | with_reducible exact Below.refl _ _ | (with_reducible refine Below.alloc ?_ ?_ _; rotate_left; focus ((first | exact Nat.le_refl _ | (simp; done) | (simp; omega) | omega | fail))) | (with_reducible refine Below.setCell ?_ ?_ _; rotate_left; focus ((first | exact Nat.le_refl _ | (simp; done) | (simp; omega) | omega | fail))) | with_reducible refine Mem.bel_drewN ?_ _ | with_reducible refine Below.drew ?_ | (with_reducible refine Mem.bel_call (by with_reducible assumption) ?_ ?_; focus ((first | exact Nat.le_refl _ | (simp; done) | (simp; omega) | omega | fail))) | fail))) : P := h
theorem sdd {P : Prop} (h : P := by first | exact Nat.le_refl _ | assumption | (simp; done) | (simp; omega) | omega) : P := h
theorem ocl {B : Nat} {w w' : World} (b : Below B w w') (g i : Nat) {v : Option Value} (hg : g < B := by first | exact Nat.le_refl _ | assumption | (simp; done) | (simp; omega) | omega) (h : w.cell? ⟨g, i, none⟩ = v := by go_simp; rfl) : w'.cell? ⟨g, i, none⟩ = v := (b.cell (p := ⟨g, i, none⟩) hg).trans h
theorem ofr {B : Nat} {w w' : World} (b : Below B w w') (g i : Nat) {v : Bool} (hg : g < B := by first | exact Nat.le_refl _ | assumption | (simp; done) | (simp; omega) | omega) (h : w.frozen? ⟨g, i, none⟩ = v := by go_simp; rfl) : w'.frozen? ⟨g, i, none⟩ = v := (b.frozen (p := ⟨g, i, none⟩) hg).trans h
end Go.Proofs.YthfoomobicbcpaaGreatDoor
