/-
  No cell of these rows narrows 'for every input' (looked for: loops, veiled, ifaces, maps, wideKeys, modest, calm, conditions, laid).
  DERIVED. THE GIVEN ROWS OF THIS SEAT. 4 by the template 'for every input the law returns true; each argument reads behind the call as it read before'; 0 by the template 'total and deterministic' (their statements: YtcnalkbedcgknaaTotals.lean).
  GIVEN WITH THE SEED: the statements are not yours to turn. If you find one false, say at which input.
  Laid BY PROGRAM, IN A SANDBOX (cutbox-rows.mjs): the forced cells as the released guide's own fill.sh prints them over the translation 1553e51cf1505419… (all of the seat's roots in one cut). By AI agents, Wed Nov 11 2026. No macro, syntax, notation, axiom, sorry.
-/
import Derived.Test.YtcnalkbedcgknaaChecked
import GoSem.Claim
import GoSem.ClaimJoined
import GoSem.ClaimMapViews
import Derived.JoinedTies
import Derived.KernelRfl
namespace Go.Proofs.Ytcnalkbedcgknaa
/- THE CELL 'sum', in the pinned program and in every row, IS THE sha256 OF THE DUMP (.gsa) THAT YtcnalkbedcgknaaProg.lean LOADS. Nothing in Lean hashes anything: it is a label: what it is worth is what the hold of that sum in a sandbox is worth. -/
noncomputable def Try.pinned : Pinned := { name := "ytcnalkbedcgknaa", sum := "1553e51cf15054192ff806f164b49f692debe0626ef8850c5a90f4f993b167e7", checked := Try.checked }
namespace Rows
def none {H : Type} : Left H := { results := [], args := [] }

/-- 'avocetlaw05.PromoteNumbers': WHATEVER THE INPUT: true; the input reads as it did. -/
def promoteNumbersSpec : ChangeSpec := { name := "promoteNumbers", fn := fun _ => fun
  | [d] => { results := [.lit (.bool true)], args := [d] }
  | _ => none }
def promoteNumbersRow : OpenClaim := { program := "ytcnalkbedcgknaa", sum := "1553e51cf15054192ff806f164b49f692debe0626ef8850c5a90f4f993b167e7", func := "avocet/avocetlaw05.PromoteNumbers", spec := "promoteNumbers", inPlace := ["math.Float64bits", "math.Float32bits"], unfollowed := true, recurses := true, apart := false }
def PromoteNumbersSaid : Prop := promoteNumbersRow.holds Try.pinned (OpenSpec.ofChange promoteNumbersSpec)

/-- ITS FALSE NEIGHBOUR: 'it returns false'. Refute it at one input. -/
def promoteNumbersWrong : ChangeSpec := { name := "promoteNumbers", fn := fun _ => fun
  | [d] => { results := [.lit (.bool false)], args := [d] }
  | _ => none }
def PromoteNumbersWrongFalsely : Prop := promoteNumbersRow.holds Try.pinned (OpenSpec.ofChange promoteNumbersWrong)

/-- 'avocetlaw05.PromoteBits': WHATEVER THE INPUT: true; the input reads as it did. -/
def promoteBitsSpec : ChangeSpec := { name := "promoteBits", fn := fun _ => fun
  | [d1, d2, d3] => { results := [.lit (.bool true)], args := [d1, d2, d3] }
  | _ => none }
def promoteBitsRow : OpenClaim := { program := "ytcnalkbedcgknaa", sum := "1553e51cf15054192ff806f164b49f692debe0626ef8850c5a90f4f993b167e7", func := "avocet/avocetlaw05.PromoteBits", spec := "promoteBits", inPlace := ["math.Float64frombits", "math.archTrunc", "math.Float64bits", "math.Float32frombits"], unfollowed := true, recurses := true, apart := false }
def PromoteBitsSaid : Prop := promoteBitsRow.holds Try.pinned (OpenSpec.ofChange promoteBitsSpec)

/-- ITS FALSE NEIGHBOUR: 'it returns false'. Refute it at one input. -/
def promoteBitsWrong : ChangeSpec := { name := "promoteBits", fn := fun _ => fun
  | [d1, d2, d3] => { results := [.lit (.bool false)], args := [d1, d2, d3] }
  | _ => none }
def PromoteBitsWrongFalsely : Prop := promoteBitsRow.holds Try.pinned (OpenSpec.ofChange promoteBitsWrong)

/-- 'avocetlaw05.PromoteRises': WHATEVER THE INPUT: true; the input reads as it did. -/
def promoteRisesSpec : ChangeSpec := { name := "promoteRises", fn := fun _ => fun
  | [d1, d2] => { results := [.lit (.bool true)], args := [d1, d2] }
  | _ => none }
def promoteRisesRow : OpenClaim := { program := "ytcnalkbedcgknaa", sum := "1553e51cf15054192ff806f164b49f692debe0626ef8850c5a90f4f993b167e7", func := "avocet/avocetlaw05.PromoteRises", spec := "promoteRises", unfollowed := true, recurses := true, apart := false }
def PromoteRisesSaid : Prop := promoteRisesRow.holds Try.pinned (OpenSpec.ofChange promoteRisesSpec)

/-- ITS FALSE NEIGHBOUR: 'it returns false'. Refute it at one input. -/
def promoteRisesWrong : ChangeSpec := { name := "promoteRises", fn := fun _ => fun
  | [d1, d2] => { results := [.lit (.bool false)], args := [d1, d2] }
  | _ => none }
def PromoteRisesWrongFalsely : Prop := promoteRisesRow.holds Try.pinned (OpenSpec.ofChange promoteRisesWrong)

/-- 'avocetlaw05.PromoteExact': WHATEVER THE INPUT: true; the input reads as it did. -/
def promoteExactSpec : ChangeSpec := { name := "promoteExact", fn := fun _ => fun
  | [d1, d2, d3] => { results := [.lit (.bool true)], args := [d1, d2, d3] }
  | _ => none }
def promoteExactRow : OpenClaim := { program := "ytcnalkbedcgknaa", sum := "1553e51cf15054192ff806f164b49f692debe0626ef8850c5a90f4f993b167e7", func := "avocet/avocetlaw05.PromoteExact", spec := "promoteExact", unfollowed := true, recurses := true, apart := false }
def PromoteExactSaid : Prop := promoteExactRow.holds Try.pinned (OpenSpec.ofChange promoteExactSpec)

/-- ITS FALSE NEIGHBOUR: 'it returns false'. Refute it at one input. -/
def promoteExactWrong : ChangeSpec := { name := "promoteExact", fn := fun _ => fun
  | [d1, d2, d3] => { results := [.lit (.bool false)], args := [d1, d2, d3] }
  | _ => none }
def PromoteExactWrongFalsely : Prop := promoteExactRow.holds Try.pinned (OpenSpec.ofChange promoteExactWrong)

/- THE SECOND FORM. 'bulk': how many values and letters a reading holds, each counted each time it is reached (what is shared counts as often as it is met; a slice's spare places count too). A statement '..UptoSaid' is the law's where the arguments, and the package variables that the reading takes, are together of bulk at most 1048576: NARROWER than '..Said'. Prove '..Said' where nothing that the law and all that it calls make is longer than what came in: it says more and counts as full. Else prove '..UptoSaid'. A law counts once. -/
mutual
def uptoBulk {H : Type} : DataW H → Nat
  | .lit (.string bytes) => bytes.length + 1
  | .lit _ => 1
  | .nil => 1
  | .ptr d => uptoBulk d + 1
  | .slice elems spare => uptoBulkAll elems + uptoBulkAll spare + 1
  | .agg parts => uptoBulkAll parts + 1
  | .iface _ d => uptoBulk d + 1
  | .map entries => uptoBulkEntries entries + 1
  | .held _ => 1
def uptoBulkAll {H : Type} : List (DataW H) → Nat
  | [] => 0
  | d :: r => uptoBulk d + uptoBulkAll r
def uptoBulkEntries {H : Type} : List (Lit × DataW H) → Nat
  | [] => 0
  | x :: r => uptoBulkEntry x + uptoBulkEntries r
def uptoBulkEntry {H : Type} : Lit × DataW H → Nat
  | (.string bytes, d) => bytes.length + uptoBulk d + 1
  | (_, d) => uptoBulk d + 1
 end
def uptoSmall : (H : Type) → List (DataW H) → Bool := fun _ ds => decide (uptoBulkAll ds ≤ 1048576)
def OpenSpec.upto (s : _root_.Go.ChangeSpec) : _root_.Go.OpenSpec := { _root_.Go.OpenSpec.ofChange s with cond := some uptoSmall }

/-- 'avocetlaw05.PromoteNumbers', WHERE WHAT IT READS IS OF BULK AT MOST 1048576: true; the input reads as it did. -/
def promoteNumbersUptoRow : OpenClaim := { program := "ytcnalkbedcgknaa", sum := "1553e51cf15054192ff806f164b49f692debe0626ef8850c5a90f4f993b167e7", func := "avocet/avocetlaw05.PromoteNumbers", spec := "promoteNumbers", inPlace := ["math.Float64bits", "math.Float32bits"], unfollowed := true, recurses := true, apart := false, narrowed := true }
def PromoteNumbersUptoSaid : Prop := promoteNumbersUptoRow.holds Try.pinned (OpenSpec.upto promoteNumbersSpec)

/-- 'avocetlaw05.PromoteBits', WHERE WHAT IT READS IS OF BULK AT MOST 1048576: true; the input reads as it did. -/
def promoteBitsUptoRow : OpenClaim := { program := "ytcnalkbedcgknaa", sum := "1553e51cf15054192ff806f164b49f692debe0626ef8850c5a90f4f993b167e7", func := "avocet/avocetlaw05.PromoteBits", spec := "promoteBits", inPlace := ["math.Float64frombits", "math.archTrunc", "math.Float64bits", "math.Float32frombits"], unfollowed := true, recurses := true, apart := false, narrowed := true }
def PromoteBitsUptoSaid : Prop := promoteBitsUptoRow.holds Try.pinned (OpenSpec.upto promoteBitsSpec)

/-- 'avocetlaw05.PromoteRises', WHERE WHAT IT READS IS OF BULK AT MOST 1048576: true; the input reads as it did. -/
def promoteRisesUptoRow : OpenClaim := { program := "ytcnalkbedcgknaa", sum := "1553e51cf15054192ff806f164b49f692debe0626ef8850c5a90f4f993b167e7", func := "avocet/avocetlaw05.PromoteRises", spec := "promoteRises", unfollowed := true, recurses := true, apart := false, narrowed := true }
def PromoteRisesUptoSaid : Prop := promoteRisesUptoRow.holds Try.pinned (OpenSpec.upto promoteRisesSpec)

/-- 'avocetlaw05.PromoteExact', WHERE WHAT IT READS IS OF BULK AT MOST 1048576: true; the input reads as it did. -/
def promoteExactUptoRow : OpenClaim := { program := "ytcnalkbedcgknaa", sum := "1553e51cf15054192ff806f164b49f692debe0626ef8850c5a90f4f993b167e7", func := "avocet/avocetlaw05.PromoteExact", spec := "promoteExact", unfollowed := true, recurses := true, apart := false, narrowed := true }
def PromoteExactUptoSaid : Prop := promoteExactUptoRow.holds Try.pinned (OpenSpec.upto promoteExactSpec)

end Rows
end Go.Proofs.Ytcnalkbedcgknaa
