/- The bytes of a string, as a conversion lays them. -/
import Derived.Test.YtheeahnhdehloaaDoorBase
import Derived.Lib.ConvBytes
namespace Go.Proofs.YtheeahnhdehloaaDoor
open Go.ChangeShapes Go.WideShapes Go.ChangeAt Go.RowKit Mem

/-- The bytes of a string, as a conversion lays them. -/
def Laysb (s : ByteArray) (W W' : World) : Prop := Below W.heap.size W W' ∧ Bys W' W'.heap.size (some ⟨W.heap.size, 0, none⟩) s.data.toList
theorem conv_lays (s : ByteArray) (W : World) : ∃ c W', (convert 9 22 (.string s)).run Tryd.prog W = .ok (.slice (some ⟨W.heap.size, 0, none⟩) s.size c) W' ∧ s.size ≤ c ∧ Laysb s W W' := by
  refine ⟨_, _, Lib.run_convert_string_bytes W 9 22 5 s strT byteT.sl byteT.el, ?_, ?_, ?_⟩
  · exact grownCap_ge W s.size 0 _
  · exact ⟨rfl, rfl, rfl, by rw [Lib.bytesWorld_size]; omega, fun g hg => Lib.bytesWorld_at_old W 5 s g hg⟩
  · refine .inr ⟨_, 0, rfl, by rw [Lib.bytesWorld_size]; omega, fun k hk => ?_⟩
    rw [Nat.zero_add]
    exact Lib.bytesWorld_cell W 5 s k (by simpa using hk)
theorem conv_all (s : ByteArray) : ∃ (F : World → World) (G : World → Nat), (∀ W, (convert 9 22 (.string s)).run Tryd.prog W = .ok (.slice (some ⟨W.heap.size, 0, none⟩) s.size (G W)) (F W)) ∧ (∀ W, s.size ≤ G W) ∧ ∀ W, Laysb s W (F W) :=
  ⟨fun W => (conv_lays s W).choose_spec.choose, fun W => (conv_lays s W).choose, fun W => (conv_lays s W).choose_spec.choose_spec.1, fun W => (conv_lays s W).choose_spec.choose_spec.2.1, fun W => (conv_lays s W).choose_spec.choose_spec.2.2⟩
theorem bys_spot {w : World} {B g h : Nat} {l : List UInt8} (y : Bys w B (some ⟨g, 0, none⟩) l) (e : g = h) : Bys w B (some ⟨h, 0, none⟩) l := e ▸ y
end Go.Proofs.YtheeahnhdehloaaDoor
