/-
  NARROWER THAN 'FOR EVERY INPUT', by the rows' own cells (each row's printed sentence says how): JparseParses: laid · JparseAsks: loops, laid · JparseSound: laid.
  DERIVED. THE GIVEN ROWS OF THIS SEAT. 3 by the template 'for every input the law returns true; each argument reads behind the call as it read before'; 0 by the template 'total and deterministic' (their statements: YtheeahnhdehloaaDoorTotals.lean).
  GIVEN WITH THE SEED: the statements are not yours to turn. If you find one false, say at which input.
  Laid BY PROGRAM, IN A SANDBOX (cutbox-rows.mjs): the forced cells as the released guide's own fill.sh prints them over the translation e0a8d1345cb9b84e… (all of the seat's roots in one cut). By AI agents, Wed Nov 11 2026. No macro, syntax, notation, axiom, sorry.
-/
import Derived.Test.YtheeahnhdehloaaDoorChecked
import GoSem.Claim
import GoSem.ClaimJoined
import GoSem.ClaimMapViews
import Derived.JoinedTies
import Derived.KernelRfl
namespace Go.Proofs.YtheeahnhdehloaaDoor
/- THE CELL 'sum', in the pinned program and in every row, IS THE sha256 OF THE DUMP (.gsa) THAT YtheeahnhdehloaaDoorProg.lean LOADS. Nothing in Lean hashes anything: it is a label: what it is worth is what the hold of that sum in a sandbox is worth. -/
noncomputable def Tryd.pinned : Pinned := { name := "ytheeahnhdehloaadoor", sum := "e0a8d1345cb9b84efb64d57cdd14f9a5abcb7287de0b50aeaac95e68154fcfc2", checked := Tryd.checked }
namespace Rows
def none {H : Type} : Left H := { results := [], args := [] }

/- WHAT THE LISTED PACKAGE-LEVEL VARIABLES READ AS WHEN THE CALL BEGINS. Each datum BY PROGRAM (the guide's laid-datum.mjs) off the statement by which the dump's own 'gosem.cut.vars' lays the variable. In a bare row this is a premise. The card (YtheeahnhdehloaaDoorCards.lean) ties it to the program's text. -/
def laid_avocet_utf_marks {H : Type} : DataW H := .agg [.lit (.int .u8 0), .lit (.int .u8 0), .lit (.int .u8 192), .lit (.int .u8 224), .lit (.int .u8 240)]
def laid_avocet_jlex_spellings {H : Type} : DataW H := .agg [.agg [.lit (.string [116, 114, 117, 101]), .lit (.int .i64 7), .lit (.int .i64 1)], .agg [.lit (.string [102, 97, 108, 115, 101]), .lit (.int .i64 7), .lit (.int .i64 0)], .agg [.lit (.string [110, 117, 108, 108]), .lit (.int .i64 8), .lit (.int .i64 0)]]

/-- 'avocetlaw07.JparseParses': WHATEVER THE INPUT: true; the input reads as it did. -/
def jparseParsesSpec : ChangeSpec := { name := "jparseParses", fn := fun _ => fun
  | [d] => { results := [.lit (.bool true)], args := [d] }
  | _ => none }
def jparseParsesRow : OpenClaim := { program := "ytheeahnhdehloaadoor", sum := "e0a8d1345cb9b84efb64d57cdd14f9a5abcb7287de0b50aeaac95e68154fcfc2", func := "avocet/avocetlaw07.JparseParses", spec := "jparseParses", inPlace := ["internal/bytealg.IndexByteString"], unfollowed := true, recurses := true, named := ["avocet/utf.marks", "avocet/jlex.spellings"], apart := false, laid := [("avocet/utf.marks", laid_avocet_utf_marks), ("avocet/jlex.spellings", laid_avocet_jlex_spellings)] }
def JparseParsesSaid : Prop := jparseParsesRow.holds Tryd.pinned (OpenSpec.ofChange jparseParsesSpec)

/-- ITS FALSE NEIGHBOUR: 'it returns false'. Refute it at one input. -/
def jparseParsesWrong : ChangeSpec := { name := "jparseParses", fn := fun _ => fun
  | [d] => { results := [.lit (.bool false)], args := [d] }
  | _ => none }
def JparseParsesWrongFalsely : Prop := jparseParsesRow.holds Tryd.pinned (OpenSpec.ofChange jparseParsesWrong)

/-- 'avocetlaw07.JparseAsks': WHATEVER THE INPUT: true; the input reads as it did. -/
def jparseAsksSpec : ChangeSpec := { name := "jparseAsks", fn := fun _ => fun
  | [d1, d2, d3] => { results := [.lit (.bool true)], args := [d1, d2, d3] }
  | _ => none }
def jparseAsksRow : OpenClaim := { program := "ytheeahnhdehloaadoor", sum := "e0a8d1345cb9b84efb64d57cdd14f9a5abcb7287de0b50aeaac95e68154fcfc2", func := "avocet/avocetlaw07.JparseAsks", spec := "jparseAsks", inPlace := ["internal/bytealg.IndexByteString"], unfollowed := true, recurses := true, named := ["avocet/utf.marks", "avocet/jlex.spellings"], loops := true, apart := false, laid := [("avocet/utf.marks", laid_avocet_utf_marks), ("avocet/jlex.spellings", laid_avocet_jlex_spellings)] }
def JparseAsksSaid : Prop := jparseAsksRow.holds Tryd.pinned (OpenSpec.ofChange jparseAsksSpec)

/-- ITS FALSE NEIGHBOUR: 'it returns false'. Refute it at one input. -/
def jparseAsksWrong : ChangeSpec := { name := "jparseAsks", fn := fun _ => fun
  | [d1, d2, d3] => { results := [.lit (.bool false)], args := [d1, d2, d3] }
  | _ => none }
def JparseAsksWrongFalsely : Prop := jparseAsksRow.holds Tryd.pinned (OpenSpec.ofChange jparseAsksWrong)

/-- 'avocetlaw07.JparseSound': WHATEVER THE INPUT: true; the input reads as it did. -/
def jparseSoundSpec : ChangeSpec := { name := "jparseSound", fn := fun _ => fun
  | [d] => { results := [.lit (.bool true)], args := [d] }
  | _ => none }
def jparseSoundRow : OpenClaim := { program := "ytheeahnhdehloaadoor", sum := "e0a8d1345cb9b84efb64d57cdd14f9a5abcb7287de0b50aeaac95e68154fcfc2", func := "avocet/avocetlaw07.JparseSound", spec := "jparseSound", inPlace := ["internal/bytealg.IndexByteString"], unfollowed := true, recurses := true, named := ["avocet/utf.marks", "avocet/jlex.spellings"], apart := false, laid := [("avocet/utf.marks", laid_avocet_utf_marks), ("avocet/jlex.spellings", laid_avocet_jlex_spellings)] }
def JparseSoundSaid : Prop := jparseSoundRow.holds Tryd.pinned (OpenSpec.ofChange jparseSoundSpec)

/-- ITS FALSE NEIGHBOUR: 'it returns false'. Refute it at one input. -/
def jparseSoundWrong : ChangeSpec := { name := "jparseSound", fn := fun _ => fun
  | [d] => { results := [.lit (.bool false)], args := [d] }
  | _ => none }
def JparseSoundWrongFalsely : Prop := jparseSoundRow.holds Tryd.pinned (OpenSpec.ofChange jparseSoundWrong)

/- THE SECOND FORM. 'bulk': how many values and letters a reading holds, each counted each time it is reached (what is shared counts as often as it is met; a slice's spare places count too). A statement '..UptoSaid' is the law's where the arguments, and the package variables that the reading takes, are together of bulk at most 1048576: NARROWER than '..Said'. Prove '..Said' where nothing that the law and all that it calls make is longer than what came in: it says more and counts as full. Else prove '..UptoSaid'. A law counts once. -/
mutual
def uptoBulk {H : Type} : DataW H → Nat
  | .lit (.string bytes) => bytes.length + 1
  | .lit _ => 1
  | .nil => 1
  | .ptr d => uptoBulk d + 1
  | .slice elems spare => uptoBulkAll elems + uptoBulkAll spare + 1
  | .agg parts => uptoBulkAll parts + 1
  | .iface _ d => uptoBulk d + 1
  | .map entries => uptoBulkEntries entries + 1
  | .held _ => 1
def uptoBulkAll {H : Type} : List (DataW H) → Nat
  | [] => 0
  | d :: r => uptoBulk d + uptoBulkAll r
def uptoBulkEntries {H : Type} : List (Lit × DataW H) → Nat
  | [] => 0
  | x :: r => uptoBulkEntry x + uptoBulkEntries r
def uptoBulkEntry {H : Type} : Lit × DataW H → Nat
  | (.string bytes, d) => bytes.length + uptoBulk d + 1
  | (_, d) => uptoBulk d + 1
 end
def uptoSmall : (H : Type) → List (DataW H) → Bool := fun _ ds => decide (uptoBulkAll ds ≤ 1048576)
def OpenSpec.upto (s : _root_.Go.ChangeSpec) : _root_.Go.OpenSpec := { _root_.Go.OpenSpec.ofChange s with cond := some uptoSmall }

/-- 'avocetlaw07.JparseParses', WHERE WHAT IT READS IS OF BULK AT MOST 1048576: true; the input reads as it did. -/
def jparseParsesUptoRow : OpenClaim := { program := "ytheeahnhdehloaadoor", sum := "e0a8d1345cb9b84efb64d57cdd14f9a5abcb7287de0b50aeaac95e68154fcfc2", func := "avocet/avocetlaw07.JparseParses", spec := "jparseParses", inPlace := ["internal/bytealg.IndexByteString"], unfollowed := true, recurses := true, named := ["avocet/utf.marks", "avocet/jlex.spellings"], apart := false, laid := [("avocet/utf.marks", laid_avocet_utf_marks), ("avocet/jlex.spellings", laid_avocet_jlex_spellings)], narrowed := true }
def JparseParsesUptoSaid : Prop := jparseParsesUptoRow.holds Tryd.pinned (OpenSpec.upto jparseParsesSpec)

/-- 'avocetlaw07.JparseAsks', WHERE WHAT IT READS IS OF BULK AT MOST 1048576: true; the input reads as it did. -/
def jparseAsksUptoRow : OpenClaim := { program := "ytheeahnhdehloaadoor", sum := "e0a8d1345cb9b84efb64d57cdd14f9a5abcb7287de0b50aeaac95e68154fcfc2", func := "avocet/avocetlaw07.JparseAsks", spec := "jparseAsks", inPlace := ["internal/bytealg.IndexByteString"], unfollowed := true, recurses := true, named := ["avocet/utf.marks", "avocet/jlex.spellings"], loops := true, apart := false, laid := [("avocet/utf.marks", laid_avocet_utf_marks), ("avocet/jlex.spellings", laid_avocet_jlex_spellings)], narrowed := true }
def JparseAsksUptoSaid : Prop := jparseAsksUptoRow.holds Tryd.pinned (OpenSpec.upto jparseAsksSpec)

/-- 'avocetlaw07.JparseSound', WHERE WHAT IT READS IS OF BULK AT MOST 1048576: true; the input reads as it did. -/
def jparseSoundUptoRow : OpenClaim := { program := "ytheeahnhdehloaadoor", sum := "e0a8d1345cb9b84efb64d57cdd14f9a5abcb7287de0b50aeaac95e68154fcfc2", func := "avocet/avocetlaw07.JparseSound", spec := "jparseSound", inPlace := ["internal/bytealg.IndexByteString"], unfollowed := true, recurses := true, named := ["avocet/utf.marks", "avocet/jlex.spellings"], apart := false, laid := [("avocet/utf.marks", laid_avocet_utf_marks), ("avocet/jlex.spellings", laid_avocet_jlex_spellings)], narrowed := true }
def JparseSoundUptoSaid : Prop := jparseSoundUptoRow.holds Tryd.pinned (OpenSpec.upto jparseSoundSpec)

end Rows
end Go.Proofs.YtheeahnhdehloaaDoor
