/-
  No cell of these rows narrows 'for every input' (looked for: loops, veiled, ifaces, maps, wideKeys, modest, calm, conditions, laid).
  DERIVED. THE GIVEN ROWS OF THIS SEAT. 3 by the template 'for every input the law returns true; each argument reads behind the call as it read before'; 0 by the template 'total and deterministic' (their statements: YtaagnbengnggkaaTotals.lean).
  GIVEN WITH THE SEED: the statements are not yours to turn. If you find one false, say at which input.
  Laid BY PROGRAM, IN A SANDBOX (cutbox-rows.mjs): the forced cells as the released guide's own fill.sh prints them over the translation d15232fff3f343cf… (all of the seat's roots in one cut). By AI agents, Wed Nov 11 2026. No macro, syntax, notation, axiom, sorry.
-/
import Derived.Test.YtaagnbengnggkaaChecked
import GoSem.Claim
import GoSem.ClaimJoined
import GoSem.ClaimMapViews
import Derived.JoinedTies
import Derived.KernelRfl
namespace Go.Proofs.Ytaagnbengnggkaa
/- THE CELL 'sum', in the pinned program and in every row, IS THE sha256 OF THE DUMP (.gsa) THAT YtaagnbengnggkaaProg.lean LOADS. Nothing in Lean hashes anything: it is a label: what it is worth is what the hold of that sum in a sandbox is worth. -/
noncomputable def Try.pinned : Pinned := { name := "ytaagnbengnggkaa", sum := "d15232fff3f343cf3c1ed8592476e3e8a1c1a023d0e53d79d4ff9b1acf5e0bb2", checked := Try.checked }
namespace Rows
def none {H : Type} : Left H := { results := [], args := [] }

/-- 'avocetlaw05.PromoteNumbers': WHATEVER THE INPUT: true; the input reads as it did. -/
def promoteNumbersSpec : ChangeSpec := { name := "promoteNumbers", fn := fun _ => fun
  | [d] => { results := [.lit (.bool true)], args := [d] }
  | _ => none }
def promoteNumbersRow : OpenClaim := { program := "ytaagnbengnggkaa", sum := "d15232fff3f343cf3c1ed8592476e3e8a1c1a023d0e53d79d4ff9b1acf5e0bb2", func := "avocet/avocetlaw05.PromoteNumbers", spec := "promoteNumbers", inPlace := ["math.Float64bits", "math.Float32bits"], unfollowed := true, recurses := true, apart := false }
def PromoteNumbersSaid : Prop := promoteNumbersRow.holds Try.pinned (OpenSpec.ofChange promoteNumbersSpec)

/-- ITS FALSE NEIGHBOUR: 'it returns false'. Refute it at one input. -/
def promoteNumbersWrong : ChangeSpec := { name := "promoteNumbers", fn := fun _ => fun
  | [d] => { results := [.lit (.bool false)], args := [d] }
  | _ => none }
def PromoteNumbersWrongFalsely : Prop := promoteNumbersRow.holds Try.pinned (OpenSpec.ofChange promoteNumbersWrong)

/-- 'avocetlaw05.PromoteRises': WHATEVER THE INPUT: true; the input reads as it did. -/
def promoteRisesSpec : ChangeSpec := { name := "promoteRises", fn := fun _ => fun
  | [d1, d2] => { results := [.lit (.bool true)], args := [d1, d2] }
  | _ => none }
def promoteRisesRow : OpenClaim := { program := "ytaagnbengnggkaa", sum := "d15232fff3f343cf3c1ed8592476e3e8a1c1a023d0e53d79d4ff9b1acf5e0bb2", func := "avocet/avocetlaw05.PromoteRises", spec := "promoteRises", unfollowed := true, recurses := true, apart := false }
def PromoteRisesSaid : Prop := promoteRisesRow.holds Try.pinned (OpenSpec.ofChange promoteRisesSpec)

/-- ITS FALSE NEIGHBOUR: 'it returns false'. Refute it at one input. -/
def promoteRisesWrong : ChangeSpec := { name := "promoteRises", fn := fun _ => fun
  | [d1, d2] => { results := [.lit (.bool false)], args := [d1, d2] }
  | _ => none }
def PromoteRisesWrongFalsely : Prop := promoteRisesRow.holds Try.pinned (OpenSpec.ofChange promoteRisesWrong)

/-- 'avocetlaw05.PromoteExact': WHATEVER THE INPUT: true; the input reads as it did. -/
def promoteExactSpec : ChangeSpec := { name := "promoteExact", fn := fun _ => fun
  | [d1, d2, d3] => { results := [.lit (.bool true)], args := [d1, d2, d3] }
  | _ => none }
def promoteExactRow : OpenClaim := { program := "ytaagnbengnggkaa", sum := "d15232fff3f343cf3c1ed8592476e3e8a1c1a023d0e53d79d4ff9b1acf5e0bb2", func := "avocet/avocetlaw05.PromoteExact", spec := "promoteExact", unfollowed := true, recurses := true, apart := false }
def PromoteExactSaid : Prop := promoteExactRow.holds Try.pinned (OpenSpec.ofChange promoteExactSpec)

/-- ITS FALSE NEIGHBOUR: 'it returns false'. Refute it at one input. -/
def promoteExactWrong : ChangeSpec := { name := "promoteExact", fn := fun _ => fun
  | [d1, d2, d3] => { results := [.lit (.bool false)], args := [d1, d2, d3] }
  | _ => none }
def PromoteExactWrongFalsely : Prop := promoteExactRow.holds Try.pinned (OpenSpec.ofChange promoteExactWrong)

/- THE SECOND FORM. 'bulk': how many values and letters a reading holds, each counted each time it is reached (what is shared counts as often as it is met; a slice's spare places count too). A statement '..UptoSaid' is the law's where the arguments, and the package variables that the reading takes, are together of bulk at most 1048576: NARROWER than '..Said'. Prove '..Said' where nothing that the law and all that it calls make is longer than what came in: it says more and counts as full. Else prove '..UptoSaid'. A law counts once. -/
mutual
def uptoBulk {H : Type} : DataW H → Nat
  | .lit (.string bytes) => bytes.length + 1
  | .lit _ => 1
  | .nil => 1
  | .ptr d => uptoBulk d + 1
  | .slice elems spare => uptoBulkAll elems + uptoBulkAll spare + 1
  | .agg parts => uptoBulkAll parts + 1
  | .iface _ d => uptoBulk d + 1
  | .map entries => uptoBulkEntries entries + 1
  | .held _ => 1
def uptoBulkAll {H : Type} : List (DataW H) → Nat
  | [] => 0
  | d :: r => uptoBulk d + uptoBulkAll r
def uptoBulkEntries {H : Type} : List (Lit × DataW H) → Nat
  | [] => 0
  | x :: r => uptoBulkEntry x + uptoBulkEntries r
def uptoBulkEntry {H : Type} : Lit × DataW H → Nat
  | (.string bytes, d) => bytes.length + uptoBulk d + 1
  | (_, d) => uptoBulk d + 1
 end
def uptoSmall : (H : Type) → List (DataW H) → Bool := fun _ ds => decide (uptoBulkAll ds ≤ 1048576)
def OpenSpec.upto (s : _root_.Go.ChangeSpec) : _root_.Go.OpenSpec := { _root_.Go.OpenSpec.ofChange s with cond := some uptoSmall }

/-- 'avocetlaw05.PromoteNumbers', WHERE WHAT IT READS IS OF BULK AT MOST 1048576: true; the input reads as it did. -/
def promoteNumbersUptoRow : OpenClaim := { program := "ytaagnbengnggkaa", sum := "d15232fff3f343cf3c1ed8592476e3e8a1c1a023d0e53d79d4ff9b1acf5e0bb2", func := "avocet/avocetlaw05.PromoteNumbers", spec := "promoteNumbers", inPlace := ["math.Float64bits", "math.Float32bits"], unfollowed := true, recurses := true, apart := false, narrowed := true }
def PromoteNumbersUptoSaid : Prop := promoteNumbersUptoRow.holds Try.pinned (OpenSpec.upto promoteNumbersSpec)

/-- 'avocetlaw05.PromoteRises', WHERE WHAT IT READS IS OF BULK AT MOST 1048576: true; the input reads as it did. -/
def promoteRisesUptoRow : OpenClaim := { program := "ytaagnbengnggkaa", sum := "d15232fff3f343cf3c1ed8592476e3e8a1c1a023d0e53d79d4ff9b1acf5e0bb2", func := "avocet/avocetlaw05.PromoteRises", spec := "promoteRises", unfollowed := true, recurses := true, apart := false, narrowed := true }
def PromoteRisesUptoSaid : Prop := promoteRisesUptoRow.holds Try.pinned (OpenSpec.upto promoteRisesSpec)

/-- 'avocetlaw05.PromoteExact', WHERE WHAT IT READS IS OF BULK AT MOST 1048576: true; the input reads as it did. -/
def promoteExactUptoRow : OpenClaim := { program := "ytaagnbengnggkaa", sum := "d15232fff3f343cf3c1ed8592476e3e8a1c1a023d0e53d79d4ff9b1acf5e0bb2", func := "avocet/avocetlaw05.PromoteExact", spec := "promoteExact", unfollowed := true, recurses := true, apart := false, narrowed := true }
def PromoteExactUptoSaid : Prop := promoteExactUptoRow.holds Try.pinned (OpenSpec.upto promoteExactSpec)

end Rows
end Go.Proofs.Ytaagnbengnggkaa
