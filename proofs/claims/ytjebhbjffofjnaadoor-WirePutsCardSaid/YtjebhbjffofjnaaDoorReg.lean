/- Regions that draw their order: a condition on the world that grows. -/
import Derived.Test.YtjebhbjffofjnaaDoorBox
import Derived.Deep.RegionHeldLaw
namespace Go.Proofs.YtjebhbjffofjnaaDoor.Mem
open Go Go.RowKit

section
variable {P : Program} {md : Region.Mode} {ops : Array Oper} {Q : Exit → Act → World → Prop}
/-- A condition that says more may stand in the place of one that says less. -/
theorem wpAnyH_narrow {S S' : World → Prop} (h : ∀ w, S' w → S w) : ∀ (fuel : Nat) (listed : Array Bool) (a : Act) (w : World), wpAnyH P md ops Q S' fuel listed a w → wpAnyH P md ops Q S fuel listed a w
  | 0, _, _, _, k => k
  | fuel + 1, _, _, _, k => ⟨k.1, fun i hi => wpOp_mono (fun _ _ k' => ⟨h _ k'.1, wpAnyH_narrow h fuel _ _ _ k'.2⟩) (k.2 i hi)⟩
/-- These rows read as these bytes. -/
def Keeps (L : List (Option Addr × List UInt8)) (u : World) : Prop := ∀ p ∈ L, Bys u u.heap.size p.1 p.2
theorem Keeps.nil (u : World) : Keeps [] u := fun _ h => by cases h
theorem Keeps.cons {L : List (Option Addr × List UInt8)} {u : World} {A : Option Addr} {l : List UInt8} (k : Bys u u.heap.size A l) (h : Keeps L u) : Keeps ((A, l) :: L) u := fun p hp => by
  rcases List.mem_cons.1 hp with rfl | hp
  · exact k
  · exact h p hp
theorem Keeps.now {L : List (Option Addr × List UInt8)} {w W : World} (h : Keeps L w) (b : Below w.heap.size w W) : Keeps L W := fun p hp => (h p hp).now b
theorem Keeps.grow {L : List (Option Addr × List UInt8)} {A : Option Addr} {l : List UInt8} {fuel : Nat} {listed : Array Bool} {a : Act} {w : World} (k : Bys w w.heap.size A l) (h : Keeps L w)
    (g : Keeps ((A, l) :: L) w → wpAnyH P md ops Q (Keeps ((A, l) :: L)) fuel listed a w) : wpAnyH P md ops Q (Keeps L) fuel listed a w :=
  wpAnyH_narrow (fun _ h p hp => h p (List.mem_cons_of_mem _ hp)) _ _ _ _ (g (Keeps.cons k h))
end
end Go.Proofs.YtjebhbjffofjnaaDoor.Mem
