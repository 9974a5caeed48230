/- Plain mathematics of layer 2, more: a number from its highest part on. -/
import Derived.Test.YtjebhbjffofjnaaDoorVarNum
namespace Go.Proofs.YtjebhbjffofjnaaDoor.Num

theorem val_nil (k : Nat) : val k [] = 0 := by cases k <;> rfl
theorem val_tail_le (l : List UInt8) (m : Nat) : ∀ i : Nat, val m (l.drop i) ≤ val (m + i) l
  | 0 => by simp
  | i + 1 => by
    have h1 : val m (l.drop (i + 1)) ≤ val (m + 1) (l.drop i) := by
      by_cases h : l.drop i = []
      · rw [← List.drop_drop, h]; simp [val_nil]
      · have := val_cons m (l.drop i) h
        rw [List.drop_drop] at this
        omega
    have h2 := val_tail_le l (m + 1) i
    rw [show m + (i + 1) = m + 1 + i by omega]
    omega
/-- One part more, ahead: as the document reckons it. -/
theorem val_back {l : List UInt8} {N i : Nat} (h : i < N) (hN : N < l.length) : val (N + 1 - i) (l.drop i) = val (N - i) (l.drop (i + 1)) * 128 + (l.getD i 0).toNat % 128 := by
  have hne : l.drop i ≠ [] := by intro e; have := congrArg List.length e; simp at this; omega
  have := val_cons (N - i) (l.drop i) hne
  rw [show N + 1 - i = N - i + 1 by omega, this, List.drop_drop]
  simp only [List.getD, List.getElem?_drop, Nat.add_zero]
  omega

end Go.Proofs.YtjebhbjffofjnaaDoor.Num
