/- The tables that the code reads, where they lie. -/
import Derived.Test.YtnfhikgfcdcpoaaDoorUNum
import Derived.Test.YtnfhikgfcdcpoaaDoorBase
namespace Go.Proofs.YtnfhikgfcdcpoaaDoor
open Go.ChangeShapes Go.WideShapes Go.ChangeAt Go.RowKit Mem

/-- The tables, where they lie: the number of the last one; utf's marks; jlex's words of letters. -/
def spells : List Value := [.string ⟨#[116, 114, 117, 101]⟩, .int .i64 7, .int .i64 1, .string ⟨#[102, 97, 108, 115, 101]⟩, .int .i64 7, .int .i64 0, .string ⟨#[110, 117, 108, 108]⟩, .int .i64 8, .int .i64 0]
/-- The words of kinds, as they lie. -/
def kwords : List Value := [.string ⟨#[]⟩, .string ⟨#[110, 117, 108, 108]⟩, .string ⟨#[98, 111, 111, 108, 101, 97, 110]⟩, .string ⟨#[105, 110, 116]⟩, .string ⟨#[108, 111, 110, 103]⟩, .string ⟨#[102, 108, 111, 97, 116]⟩, .string ⟨#[100, 111, 117, 98, 108, 101]⟩, .string ⟨#[98, 121, 116, 101, 115]⟩, .string ⟨#[115, 116, 114, 105, 110, 103]⟩, .string ⟨#[114, 101, 99, 111, 114, 100]⟩, .string ⟨#[101, 110, 117, 109]⟩, .string ⟨#[97, 114, 114, 97, 121]⟩, .string ⟨#[109, 97, 112]⟩, .string ⟨#[]⟩, .string ⟨#[102, 105, 120, 101, 100]⟩]
structure Laid (w : World) : Prop where
  top : 4 < w.heap.size
  marks : ∀ n, n < 5 → w.cell? ⟨4, n, none⟩ = some (.int .u8 (Num.mark n : Int))
  words : ∀ n, n < 15 → w.cell? ⟨0, n, none⟩ = kwords[n]?
theorem Laid.below {B : Nat} {w w' : World} (h : Laid w) (hb : Below B w w') (hB : 4 < B) : Laid w' where
  top := Nat.lt_of_lt_of_le h.top hb.size
  marks := fun n hn => (hb.cell (p := ⟨4, n, none⟩) (Nat.lt_of_le_of_lt (by show 4 ≤ 4; decide) hB)).trans (h.marks n hn)
  words := fun n hn => (hb.cell (p := ⟨0, n, none⟩) (Nat.lt_of_le_of_lt (by show 0 ≤ 4; decide) hB)).trans (h.words n hn)
theorem Laid.alloc {w : World} (h : Laid w) (o : Obj) : Laid (w.alloc o) := h.below ((Below.refl w.heap.size w).alloc (Nat.le_refl _) o) h.1
theorem Laid.drewN {w : World} (h : Laid w) (k : Nat) : Laid (w.drewN k) := h.below (B := w.heap.size) (bel_drewN (Below.refl _ _) k) h.1
theorem Laid.drew {w : World} (h : Laid w) : Laid w.drew := h.below (B := w.heap.size) (Below.refl _ _).drew h.1
end Go.Proofs.YtnfhikgfcdcpoaaDoor
