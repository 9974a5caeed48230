/- Plain: may a tree be? -/
import Derived.Test.YtnfhikgfcdcpoaaDoorJPar
import Derived.Test.YtnfhikgfcdcpoaaDoorUNum
import Derived.Test.YtnfhikgfcdcpoaaDoorJTSame
namespace Go.Proofs.YtnfhikgfcdcpoaaDoor
open Num
mutual
/-- May a tree be, but for how deep it is? -/
def J.frm : J → Prop
  | .mk k n t its ks => 1 ≤ k ∧ k ≤ 6 ∧ (k ≠ 2 → k ≠ 3 → n = 0) ∧ (k = 2 → n = 0 ∨ n = 1) ∧ (k ≠ 4 → t = Jp.nil_) ∧ (cU t.data.toList).isSome = true ∧ (k < 5 → its = []) ∧ (k ≠ 6 → ks = []) ∧ (k = 6 → ks.length = its.length) ∧ (∀ x ∈ ks, (cU x.data.toList).isSome = true) ∧ ks.Nodup ∧ J.frms its
def J.frms : List J → Prop
  | [] => True
  | j :: r => J.frm j ∧ J.frms r
end
theorem J.frms_snoc {l : List J} {j : J} (h : J.frms l) (hj : j.frm) : J.frms (l ++ [j]) := by
  induction l with
  | nil => unfold J.frms; exact ⟨hj, by unfold J.frms; trivial⟩
  | cons x r ih => unfold J.frms at h; rw [List.cons_append]; unfold J.frms; exact ⟨h.1, ih h.2⟩
theorem J.frms_nil : J.frms [] := by unfold J.frms; trivial
theorem J.frms_iff : ∀ {l : List J}, J.frms l ↔ ∀ i (h : i < l.length), (l[i]'h).frm
  | [] => ⟨fun _ i h => absurd h (Nat.not_lt_zero _), fun _ => by unfold J.frms; trivial⟩
  | j :: r => by
    unfold J.frms
    rw [J.frms_iff (l := r)]
    constructor
    · intro h i hi
      cases i with
      | zero => exact h.1
      | succ i => exact h.2 i (by simpa using hi)
    · intro h
      exact ⟨h 0 (by simp), fun i hi => by have := h (i + 1) (by simpa using hi); simpa using this⟩
/-- May a tree be, but for how deep it is? -/
noncomputable def J.frmb (t : J) : Bool := @decide t.frm (Classical.propDecidable _)
theorem J.frmb_no {t : J} (h : ¬ t.frm) : t.frmb = false := by unfold J.frmb; simpa using h
theorem J.frmb_yes {t : J} (h : t.frm) : t.frmb = true := by unfold J.frmb; simpa using h
theorem J.frmb_iff {t : J} : t.frmb = true ↔ t.frm := by unfold J.frmb; simp
/-- May a tree be? -/
noncomputable def J.rightb (t : J) : Bool := decide (t.deep ≤ 32) && t.frmb
theorem J.rightb_iff {t : J} : t.rightb = true ↔ t.deep ≤ 32 ∧ t.frm := by unfold J.rightb; rw [Bool.and_eq_true, decide_eq_true_eq, J.frmb_iff]
end Go.Proofs.YtnfhikgfcdcpoaaDoor
