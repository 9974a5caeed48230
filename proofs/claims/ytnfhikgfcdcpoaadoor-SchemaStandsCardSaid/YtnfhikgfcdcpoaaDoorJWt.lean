/- Plain: how deep a tree is, and how many parts and bytes it has. -/
import Derived.Test.YtnfhikgfcdcpoaaDoorJTSame
namespace Go.Proofs.YtnfhikgfcdcpoaaDoor

theorem J.deeps_bound {M : Nat} (hM : 1 ≤ M) : ∀ {l : List J}, (∀ i (h : i < l.length), (l[i]'h).deep + 1 ≤ M) → J.deeps l ≤ M
  | [], _ => by unfold J.deeps; exact hM
  | j :: r, h => by
    unfold J.deeps
    have h0 := h 0 (by simp)
    have hr := J.deeps_bound hM (l := r) (fun i hi => by have := h (i + 1) (by simpa using hi); simpa using this)
    simp at h0
    omega
theorem J.deep_bound {j : J} {M : Nat} (hM : 1 ≤ M) (h : ∀ i (g : i < j.its.length), (j.its[i]'g).deep + 1 ≤ M) : j.deep ≤ M := by
  by_cases hk : j.k = 5 ∨ j.k = 6
  · rw [J.deep_in hk]; exact J.deeps_bound hM h
  · rw [J.deep_out hk]; omega
/-- How much keys weigh. -/
def kwt : List ByteArray → Nat
  | [] => 0
  | k :: r => 1 + k.size + kwt r
mutual
/-- How many parts and bytes a tree has. -/
def J.wt : J → Nat
  | .mk _ _ t its ks => 1 + t.size + kwt ks + J.wts its
def J.wts : List J → Nat
  | [] => 0
  | j :: r => J.wt j + J.wts r
end
theorem kwt_take : ∀ {l : List ByteArray} {i : Nat} (h : i < l.length), kwt (l.take (i + 1)) = kwt (l.take i) + 1 + (l[i]'h).size
  | [], _, h => absurd h (Nat.not_lt_zero _)
  | k :: r, 0, _ => by simp [kwt]
  | k :: r, i + 1, h => by
    have := kwt_take (l := r) (i := i) (by simpa using h)
    simp only [List.take_succ_cons, kwt, List.getElem_cons_succ]; omega
theorem J.wts_take : ∀ {l : List J} {i : Nat} (h : i < l.length), J.wts (l.take (i + 1)) = J.wts (l.take i) + (l[i]'h).wt
  | [], _, h => absurd h (Nat.not_lt_zero _)
  | k :: r, 0, _ => by simp [J.wts]
  | k :: r, i + 1, h => by
    have := J.wts_take (l := r) (i := i) (by simpa using h)
    simp only [List.take_succ_cons, J.wts, List.getElem_cons_succ]; omega
theorem kwt_at : ∀ {l : List ByteArray} {i : Nat} (h : i < l.length), (l[i]'h).size ≤ kwt l
  | [], _, h => absurd h (Nat.not_lt_zero _)
  | k :: r, 0, _ => by simp [kwt]; omega
  | k :: r, i + 1, h => by
    have := kwt_at (l := r) (i := i) (by simpa using h)
    simp only [kwt, List.getElem_cons_succ]; omega
theorem wts_at : ∀ {l : List J} {i : Nat} (h : i < l.length), (l[i]'h).wt ≤ J.wts l
  | [], _, h => absurd h (Nat.not_lt_zero _)
  | k :: r, 0, _ => by simp [J.wts]
  | k :: r, i + 1, h => by
    have := wts_at (l := r) (i := i) (by simpa using h)
    simp only [J.wts, List.getElem_cons_succ]; omega
end Go.Proofs.YtnfhikgfcdcpoaaDoor
