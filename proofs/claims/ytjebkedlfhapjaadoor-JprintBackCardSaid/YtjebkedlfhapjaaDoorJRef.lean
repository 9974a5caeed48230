/- The document's own answers for layer 6, at every input: bytes, digits, letters, hexadecimal numbers. -/
import Derived.Test.YtjebkedlfhapjaaDoorBase
import Derived.Test.YtjebkedlfhapjaaDoorJNum
namespace Go.Proofs.YtjebkedlfhapjaaDoor
open Go.ChangeShapes Go.WideShapes Go.ChangeAt Go.RowKit Mem

theorem retI64 {a b : Int} (h : a = b) : Ending.returned (.int .i64 a) = .returned (.int .i64 b) := by rw [h]
theorem retU8 {a b : Int} (h : a = b) : Ending.returned (.int .u8 a) = .returned (.int .u8 b) := by rw [h]
theorem retBool {a b : Bool} (h : a = b) : Ending.returned (.bool a) = .returned (.bool b) := by rw [h]
theorem bys_cell {w : World} {B : Nat} {A : Option Addr} {l : List UInt8} (h : Bys w B A l) {k : Nat} (hk : k < l.length) : ∃ b off, A = some ⟨b, off, none⟩ ∧ b < B ∧ w.cell? ⟨b, off + k, none⟩ = some (.int .u8 (Jx.byt l k : Int)) := by
  rcases h with h | ⟨b, off, rfl, hb, hc⟩
  · subst h; simp at hk
  · exact ⟨b, off, rfl, hb, hc k hk⟩




/-- The number that hexadecimal digits are. -/
def acc (l : List UInt8) : Nat → Int
  | 0 => 0
  | j + 1 => acc l j * 16 + Jx.hex (Jx.byt l j)
theorem acc_le (l : List UInt8) (j : Nat) (hj : j ≤ 4) (h : ∀ i, i < j → 0 ≤ Jx.hex (Jx.byt l i)) : 0 ≤ acc l j ∧ acc l j ≤ 65535 := by
  obtain rfl | rfl | rfl | rfl | rfl : j = 0 ∨ j = 1 ∨ j = 2 ∨ j = 3 ∨ j = 4 := by omega
  all_goals
    have a := Jx.hex_le (Jx.byt l 0); have b := Jx.hex_le (Jx.byt l 1); have c := Jx.hex_le (Jx.byt l 2); have d := Jx.hex_le (Jx.byt l 3)
    have x0 := h 0; have x1 := h 1; have x2 := h 2; have x3 := h 3
    simp only [acc]
    omega
/-- What the loop of four knows. -/
def Hx (l : List UInt8) (j : Nat) : Prop := ∀ i, i < j → 0 ≤ Jx.hex (Jx.byt l i)
theorem Hx.done {l : List UInt8} (h : Hx l 4) : Jx.four l = acc l 4 := by
  have x0 := h 0 (by omega); have x1 := h 1 (by omega); have x2 := h 2 (by omega); have x3 := h 3 (by omega)
  unfold Jx.four
  rw [if_neg (by omega)]
  simp only [acc]
  omega
theorem Hx.bad {l : List UInt8} {j : Nat} (hj : j < 4) (h : Jx.hex (Jx.byt l j) < 0) : Jx.four l = -1 := by
  unfold Jx.four
  rw [if_pos]
  obtain rfl | rfl | rfl | rfl : j = 0 ∨ j = 1 ∨ j = 2 ∨ j = 3 := by omega
  · exact .inl h
  · exact .inr (.inl h)
  · exact .inr (.inr (.inl h))
  · exact .inr (.inr (.inr h))
theorem Hx.go {l : List UInt8} {j : Nat} (h : Hx l j) (k : 0 ≤ Jx.hex (Jx.byt l j)) : Hx l (j + 1) := fun i hi => by
  rcases Nat.lt_or_ge i j with a | a
  · exact h i a
  · obtain rfl : i = j := by omega
    exact k

end Go.Proofs.YtjebkedlfhapjaaDoor
