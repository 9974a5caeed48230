/- The document's own answers for layer 7: value and items, by induction; so Parse. -/
import Derived.Test.YtheeahnhdehloaaDoorJTIts2
import Derived.Test.YtheeahnhdehloaaDoorJTPar
namespace Go.Proofs.YtheeahnhdehloaaDoor
open Go.ChangeShapes Go.WideShapes Go.ChangeAt Go.RowKit Mem

theorem items_step (f : Nat) (hV : ∀ g, g ≤ f → ValC g) : ItsC (f + 1) := by
  intro ws l i p d e w A c hf hll ha hd he hc hwl hF
  rcases he with rfl | rfl
  · exact items_2 f hV ws l i p d w A c hf hll ha hd hc hwl hF
  · exact items_4 f hV ws l i p d w A c hf hll ha hd hc hwl hF
theorem val_its (f : Nat) : ValC f ∧ ItsC f := by
  induction f using Nat.strongRecOn with
  | ind f ih =>
    cases f with
    | zero => exact ⟨fun ws l i p d w A c hf => absurd hf (Nat.not_lt_zero _), fun ws l i p d e w A c hf => absurd hf (Nat.not_lt_zero _)⟩
    | succ f => exact ⟨value_step f (ih f (Nat.lt_succ_self f)).2, items_step f fun g hg => (ih g (Nat.lt_succ_of_le hg)).1⟩
theorem rParse_any (A : Option Addr) (c : Nat) (l : List UInt8) (w : World) (hb : Bys w w.heap.size A l) (hl : l.length ≤ 100000000) (hc : l.length ≤ c) :
    Calls Tryd.prog 8 #[.slice A l.length c] w (Prs (Jp.parse l) w) := rparse_any (fun f => (val_its f).1) A c l w hb hl hc
end Go.Proofs.YtheeahnhdehloaaDoor
