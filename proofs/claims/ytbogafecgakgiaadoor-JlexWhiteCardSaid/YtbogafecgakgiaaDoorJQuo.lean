/- Plain mathematics of layer 6: what a text is quoted as. -/
import Derived.Test.YtbogafecgakgiaaDoorJNum3
namespace Go.Proofs.YtbogafecgakgiaaDoor.Jx
open Num

def hexd : List UInt8 := [48, 49, 50, 51, 52, 53, 54, 55, 56, 57, 97, 98, 99, 100, 101, 102]
/-- A byte, quoted. -/
def qc (x : UInt8) : List UInt8 :=
  if x.toNat = 34 ∨ x.toNat = 92 then [92, x] else if x.toNat = 8 then [92, 98] else if x.toNat = 12 then [92, 102] else if x.toNat = 10 then [92, 110] else if x.toNat = 13 then [92, 114] else if x.toNat = 9 then [92, 116]
  else if x.toNat < 32 then [92, 117, 48, 48, hexd.getD (x.toNat / 16) 0, hexd.getD (x.toNat % 16) 0] else [x]
def qb (s : List UInt8) : List UInt8 := s.flatMap qc
def quo (s : List UInt8) : List UInt8 := 34 :: (qb s ++ [34])
theorem qb_nil : qb [] = [] := rfl
theorem qb_cons (x : UInt8) (s : List UInt8) : qb (x :: s) = qc x ++ qb s := rfl
theorem qb_app (s t : List UInt8) : qb (s ++ t) = qb s ++ qb t := by unfold qb; simp
theorem qc_len (x : UInt8) : 1 ≤ (qc x).length ∧ (qc x).length ≤ 6 := by
  unfold qc; split
  · simp
  · split
    · simp
    · split
      · simp
      · split
        · simp
        · split
          · simp
          · split
            · simp
            · split <;> simp
theorem qb_len (s : List UInt8) : (qb s).length ≤ 6 * s.length := by
  induction s with
  | nil => simp [qb]
  | cons x r ih => rw [qb_cons]; have := qc_len x; simp; omega
/-- The loop of quoting: what stands when k bytes are done. -/
theorem qb_snoc {s : List UInt8} {k : Nat} (h : k < s.length) : qb (s.take (k + 1)) = qb (s.take k) ++ qc (s.getD k 0) := by
  rw [take_snoc h, qb_app]; simp [qb]
theorem qc_ways (x : UInt8) (c : Nat) (hc : c = x.toNat) :
    ((c = 34 ∨ c = 92) ∧ qc x = [92, x]) ∨ (c = 8 ∧ qc x = [92, 98]) ∨ (c = 12 ∧ qc x = [92, 102]) ∨ (c = 10 ∧ qc x = [92, 110]) ∨ (c = 13 ∧ qc x = [92, 114]) ∨ (c = 9 ∧ qc x = [92, 116]) ∨
    (c < 32 ∧ c ≠ 34 ∧ c ≠ 92 ∧ c ≠ 8 ∧ c ≠ 12 ∧ c ≠ 10 ∧ c ≠ 13 ∧ c ≠ 9 ∧ qc x = [92, 117, 48, 48, hexd.getD (c / 16) 0, hexd.getD (c % 16) 0]) ∨ (32 ≤ c ∧ c ≠ 34 ∧ c ≠ 92 ∧ qc x = [x]) := by
  subst hc
  unfold qc
  split
  · exact .inl ⟨by assumption, rfl⟩
  · split
    · exact .inr (.inl ⟨by assumption, rfl⟩)
    · split
      · exact .inr (.inr (.inl ⟨by assumption, rfl⟩))
      · split
        · exact .inr (.inr (.inr (.inl ⟨by assumption, rfl⟩)))
        · split
          · exact .inr (.inr (.inr (.inr (.inl ⟨by assumption, rfl⟩))))
          · split
            · exact .inr (.inr (.inr (.inr (.inr (.inl ⟨by assumption, rfl⟩)))))
            · split
              · exact .inr (.inr (.inr (.inr (.inr (.inr (.inl ⟨by assumption, by omega, by omega, by omega, by omega, by omega, by omega, by omega, rfl⟩))))))
              · exact .inr (.inr (.inr (.inr (.inr (.inr (.inr ⟨by omega, by omega, by omega, rfl⟩))))))
end Go.Proofs.YtbogafecgakgiaaDoor.Jx
