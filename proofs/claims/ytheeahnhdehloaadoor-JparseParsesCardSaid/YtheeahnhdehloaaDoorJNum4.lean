/- Plain mathematics of layer 6: what Take tells, by the first byte behind the white ones. -/
import Derived.Test.YtheeahnhdehloaaDoorJNum
namespace Go.Proofs.YtheeahnhdehloaaDoor.Jx
open Num

section
variable {l : List UInt8} {k q : Nat} (hq : q = k + cnt isW (l.drop k)) (hl : q < l.length)
include hq hl
theorem tak_p (h : punct (byt l q) ≠ 0) : tak l k = (⟨punct (byt l q), 0, [], 0 + q, 1 + q⟩, 0) := by
  have b : byt (l.drop q) 0 = byt l q := byt_drop l q 0
  have := word_p (l := l.drop q) (by rw [b]; exact h)
  rw [b] at this
  exact tak_word hq (by omega) this
theorem tak_t0 (h : byt l q = 34) (ht : txt (l.drop (q + 1)) = none) : tak l k = (Wd.zero, 20) := by
  have b : byt (l.drop q) 0 = byt l q := byt_drop l q 0
  exact tak_err hq (by omega) (word_t0 (by rw [b]; exact h) (by rw [List.drop_drop]; exact ht)) (by decide)
theorem tak_t {s : List UInt8} {n : Nat} (h : byt l q = 34) (ht : txt (l.drop (q + 1)) = some (s, n)) : tak l k = (⟨10, 0, s, 0 + q, n + 1 + q⟩, 0) := by
  have b : byt (l.drop q) 0 = byt l q := byt_drop l q 0
  exact tak_word hq (by omega) (word_t (by rw [b]; exact h) (by rw [List.drop_drop]; exact ht))
theorem tak_n (h : byt l q = 45 ∨ isD (byt l q) = true) (hn : (num (l.drop q)).2.2 = 0) : tak l k = (⟨9, (num (l.drop q)).1, [], 0 + q, (num (l.drop q)).2.1 + q⟩, 0) := by
  have b : byt (l.drop q) 0 = byt l q := byt_drop l q 0
  exact tak_word hq (by omega) (by rw [word_n (by rw [b]; exact h), if_pos hn])
theorem tak_n0 (h : byt l q = 45 ∨ isD (byt l q) = true) (hn : (num (l.drop q)).2.2 ≠ 0) : tak l k = (Wd.zero, (num (l.drop q)).2.2) := by
  have b : byt (l.drop q) 0 = byt l q := byt_drop l q 0
  exact tak_err hq (by omega) (by rw [word_n (by rw [b]; exact h), if_neg hn]) hn
theorem tak_l (h : punct (byt l q) = 0) (h1 : byt l q ≠ 34) (h2 : ¬ (byt l q = 45 ∨ isD (byt l q) = true)) :
    tak l k = if named (l.drop q) sT = true then (⟨7, 1, [], 0 + q, 4 + q⟩, 0) else if named (l.drop q) sF = true then (⟨7, 0, [], 0 + q, 5 + q⟩, 0) else if named (l.drop q) sN = true then (⟨8, 0, [], 0 + q, 4 + q⟩, 0) else (Wd.zero, 20) := by
  have b : byt (l.drop q) 0 = byt l q := byt_drop l q 0
  have e := word_l (l := l.drop q) (by rw [b]; exact h) (by rw [b]; exact h1) (by rw [b]; exact h2)
  split at e
  · rename_i a; rw [if_pos a]; exact tak_word hq (by omega) e
  · rename_i a; rw [if_neg a]
    split at e
    · rename_i a; rw [if_pos a]; exact tak_word hq (by omega) e
    · rename_i a; rw [if_neg a]
      split at e
      · rename_i a; rw [if_pos a]; exact tak_word hq (by omega) e
      · rename_i a; rw [if_neg a]; exact tak_err hq (by omega) e (by decide)
end
theorem tak_e {l : List UInt8} {k q : Nat} (hq : q = k + cnt isW (l.drop k)) (h : q = l.length) : tak l k = (⟨11, 0, [], q, q⟩, 0) := by
  rw [tak_end (by omega), h]

/-- The six signs. -/
def ones : List Nat := [123, 125, 91, 93, 58, 44]
/-- A byte that is none of the first j signs. -/
def NoP (X j : Nat) : Prop := ∀ i, i < j → ones.getD i 0 ≠ X
theorem NoP.go {X j : Nat} (h : NoP X j) (k : ones.getD j 0 ≠ X) : NoP X (j + 1) := fun i hi => by
  rcases Nat.lt_or_ge i j with a | a
  · exact h i a
  · obtain rfl : i = j := by omega
    exact k
theorem NoP.done {X : Nat} (h : NoP X 6) : punct X = 0 := by
  have a := h 0 (by omega); have b := h 1 (by omega); have c := h 2 (by omega); have d := h 3 (by omega); have e := h 4 (by omega); have f := h 5 (by omega)
  simp only [ones, List.getD, List.getElem?_cons_zero, List.getElem?_cons_succ, Option.getD_some] at a b c d e f
  have := punct_is X
  omega
end Go.Proofs.YtheeahnhdehloaaDoor.Jx
