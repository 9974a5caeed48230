/-
  NARROWER THAN 'FOR EVERY INPUT', by the rows' own cells (each row's printed sentence says how): UtfTakes: laid · UtfPuts: laid · UtfBack: laid · UtfCounts: laid.
  DERIVED. THE GIVEN ROWS OF THIS SEAT. 4 by the template 'for every input the law returns true; each argument reads behind the call as it read before'; 0 by the template 'total and deterministic' (their statements: YtoanidhbiahjaaaDoorTotals.lean).
  GIVEN WITH THE SEED: the statements are not yours to turn. If you find one false, say at which input.
  Laid BY PROGRAM, IN A SANDBOX (cutbox-rows.mjs): the forced cells as the released guide's own fill.sh prints them over the translation 6e66f5aa95c5adb8… (all of the seat's roots in one cut). By AI agents, Wed Nov 11 2026. No macro, syntax, notation, axiom, sorry.
-/
import Derived.Test.YtoanidhbiahjaaaDoorChecked
import GoSem.Claim
import GoSem.ClaimJoined
import GoSem.ClaimMapViews
import Derived.JoinedTies
import Derived.KernelRfl
namespace Go.Proofs.YtoanidhbiahjaaaDoor
/- THE CELL 'sum', in the pinned program and in every row, IS THE sha256 OF THE DUMP (.gsa) THAT YtoanidhbiahjaaaDoorProg.lean LOADS. Nothing in Lean hashes anything: it is a label: what it is worth is what the hold of that sum in a sandbox is worth. -/
noncomputable def Tryd.pinned : Pinned := { name := "ytoanidhbiahjaaadoor", sum := "6e66f5aa95c5adb80f378484b76d16a05454c1f86e6394366e18e159a14a623f", checked := Tryd.checked }
namespace Rows
def none {H : Type} : Left H := { results := [], args := [] }

/- WHAT THE LISTED PACKAGE-LEVEL VARIABLES READ AS WHEN THE CALL BEGINS. Each datum BY PROGRAM (the guide's laid-datum.mjs) off the statement by which the dump's own 'gosem.cut.vars' lays the variable. In a bare row this is a premise. The card (YtoanidhbiahjaaaDoorCards.lean) ties it to the program's text. -/
def laid_avocet_utf_marks {H : Type} : DataW H := .agg [.lit (.int .u8 0), .lit (.int .u8 0), .lit (.int .u8 192), .lit (.int .u8 224), .lit (.int .u8 240)]

/-- 'avocetlaw03.UtfTakes': WHATEVER THE INPUT: true; the input reads as it did. -/
def utfTakesSpec : ChangeSpec := { name := "utfTakes", fn := fun _ => fun
  | [d1, d2] => { results := [.lit (.bool true)], args := [d1, d2] }
  | _ => none }
def utfTakesRow : OpenClaim := { program := "ytoanidhbiahjaaadoor", sum := "6e66f5aa95c5adb80f378484b76d16a05454c1f86e6394366e18e159a14a623f", func := "avocet/avocetlaw03.UtfTakes", spec := "utfTakes", named := ["avocet/utf.marks"], apart := false, laid := [("avocet/utf.marks", laid_avocet_utf_marks)] }
def UtfTakesSaid : Prop := utfTakesRow.holds Tryd.pinned (OpenSpec.ofChange utfTakesSpec)

/-- ITS FALSE NEIGHBOUR: 'it returns false'. Refute it at one input. -/
def utfTakesWrong : ChangeSpec := { name := "utfTakes", fn := fun _ => fun
  | [d1, d2] => { results := [.lit (.bool false)], args := [d1, d2] }
  | _ => none }
def UtfTakesWrongFalsely : Prop := utfTakesRow.holds Tryd.pinned (OpenSpec.ofChange utfTakesWrong)

/-- 'avocetlaw03.UtfPuts': WHATEVER THE INPUT: true; the input reads as it did. -/
def utfPutsSpec : ChangeSpec := { name := "utfPuts", fn := fun _ => fun
  | [d1, d2, d3] => { results := [.lit (.bool true)], args := [d1, d2, d3] }
  | _ => none }
def utfPutsRow : OpenClaim := { program := "ytoanidhbiahjaaadoor", sum := "6e66f5aa95c5adb80f378484b76d16a05454c1f86e6394366e18e159a14a623f", func := "avocet/avocetlaw03.UtfPuts", spec := "utfPuts", named := ["avocet/utf.marks"], apart := false, laid := [("avocet/utf.marks", laid_avocet_utf_marks)] }
def UtfPutsSaid : Prop := utfPutsRow.holds Tryd.pinned (OpenSpec.ofChange utfPutsSpec)

/-- ITS FALSE NEIGHBOUR: 'it returns false'. Refute it at one input. -/
def utfPutsWrong : ChangeSpec := { name := "utfPuts", fn := fun _ => fun
  | [d1, d2, d3] => { results := [.lit (.bool false)], args := [d1, d2, d3] }
  | _ => none }
def UtfPutsWrongFalsely : Prop := utfPutsRow.holds Tryd.pinned (OpenSpec.ofChange utfPutsWrong)

/-- 'avocetlaw03.UtfBack': WHATEVER THE INPUT: true; the input reads as it did. -/
def utfBackSpec : ChangeSpec := { name := "utfBack", fn := fun _ => fun
  | [d1, d2, d3] => { results := [.lit (.bool true)], args := [d1, d2, d3] }
  | _ => none }
def utfBackRow : OpenClaim := { program := "ytoanidhbiahjaaadoor", sum := "6e66f5aa95c5adb80f378484b76d16a05454c1f86e6394366e18e159a14a623f", func := "avocet/avocetlaw03.UtfBack", spec := "utfBack", named := ["avocet/utf.marks"], apart := false, laid := [("avocet/utf.marks", laid_avocet_utf_marks)] }
def UtfBackSaid : Prop := utfBackRow.holds Tryd.pinned (OpenSpec.ofChange utfBackSpec)

/-- ITS FALSE NEIGHBOUR: 'it returns false'. Refute it at one input. -/
def utfBackWrong : ChangeSpec := { name := "utfBack", fn := fun _ => fun
  | [d1, d2, d3] => { results := [.lit (.bool false)], args := [d1, d2, d3] }
  | _ => none }
def UtfBackWrongFalsely : Prop := utfBackRow.holds Tryd.pinned (OpenSpec.ofChange utfBackWrong)

/-- 'avocetlaw03.UtfCounts': WHATEVER THE INPUT: true; the input reads as it did. -/
def utfCountsSpec : ChangeSpec := { name := "utfCounts", fn := fun _ => fun
  | [d1, d2, d3] => { results := [.lit (.bool true)], args := [d1, d2, d3] }
  | _ => none }
def utfCountsRow : OpenClaim := { program := "ytoanidhbiahjaaadoor", sum := "6e66f5aa95c5adb80f378484b76d16a05454c1f86e6394366e18e159a14a623f", func := "avocet/avocetlaw03.UtfCounts", spec := "utfCounts", named := ["avocet/utf.marks"], apart := false, laid := [("avocet/utf.marks", laid_avocet_utf_marks)] }
def UtfCountsSaid : Prop := utfCountsRow.holds Tryd.pinned (OpenSpec.ofChange utfCountsSpec)

/-- ITS FALSE NEIGHBOUR: 'it returns false'. Refute it at one input. -/
def utfCountsWrong : ChangeSpec := { name := "utfCounts", fn := fun _ => fun
  | [d1, d2, d3] => { results := [.lit (.bool false)], args := [d1, d2, d3] }
  | _ => none }
def UtfCountsWrongFalsely : Prop := utfCountsRow.holds Tryd.pinned (OpenSpec.ofChange utfCountsWrong)

/- THE SECOND FORM. 'bulk': how many values and letters a reading holds, each counted each time it is reached (what is shared counts as often as it is met; a slice's spare places count too). A statement '..UptoSaid' is the law's where the arguments, and the package variables that the reading takes, are together of bulk at most 1048576: NARROWER than '..Said'. Prove '..Said' where nothing that the law and all that it calls make is longer than what came in: it says more and counts as full. Else prove '..UptoSaid'. A law counts once. -/
mutual
def uptoBulk {H : Type} : DataW H → Nat
  | .lit (.string bytes) => bytes.length + 1
  | .lit _ => 1
  | .nil => 1
  | .ptr d => uptoBulk d + 1
  | .slice elems spare => uptoBulkAll elems + uptoBulkAll spare + 1
  | .agg parts => uptoBulkAll parts + 1
  | .iface _ d => uptoBulk d + 1
  | .map entries => uptoBulkEntries entries + 1
  | .held _ => 1
def uptoBulkAll {H : Type} : List (DataW H) → Nat
  | [] => 0
  | d :: r => uptoBulk d + uptoBulkAll r
def uptoBulkEntries {H : Type} : List (Lit × DataW H) → Nat
  | [] => 0
  | x :: r => uptoBulkEntry x + uptoBulkEntries r
def uptoBulkEntry {H : Type} : Lit × DataW H → Nat
  | (.string bytes, d) => bytes.length + uptoBulk d + 1
  | (_, d) => uptoBulk d + 1
 end
def uptoSmall : (H : Type) → List (DataW H) → Bool := fun _ ds => decide (uptoBulkAll ds ≤ 1048576)
def OpenSpec.upto (s : _root_.Go.ChangeSpec) : _root_.Go.OpenSpec := { _root_.Go.OpenSpec.ofChange s with cond := some uptoSmall }

/-- 'avocetlaw03.UtfTakes', WHERE WHAT IT READS IS OF BULK AT MOST 1048576: true; the input reads as it did. -/
def utfTakesUptoRow : OpenClaim := { program := "ytoanidhbiahjaaadoor", sum := "6e66f5aa95c5adb80f378484b76d16a05454c1f86e6394366e18e159a14a623f", func := "avocet/avocetlaw03.UtfTakes", spec := "utfTakes", named := ["avocet/utf.marks"], apart := false, laid := [("avocet/utf.marks", laid_avocet_utf_marks)], narrowed := true }
def UtfTakesUptoSaid : Prop := utfTakesUptoRow.holds Tryd.pinned (OpenSpec.upto utfTakesSpec)

/-- 'avocetlaw03.UtfPuts', WHERE WHAT IT READS IS OF BULK AT MOST 1048576: true; the input reads as it did. -/
def utfPutsUptoRow : OpenClaim := { program := "ytoanidhbiahjaaadoor", sum := "6e66f5aa95c5adb80f378484b76d16a05454c1f86e6394366e18e159a14a623f", func := "avocet/avocetlaw03.UtfPuts", spec := "utfPuts", named := ["avocet/utf.marks"], apart := false, laid := [("avocet/utf.marks", laid_avocet_utf_marks)], narrowed := true }
def UtfPutsUptoSaid : Prop := utfPutsUptoRow.holds Tryd.pinned (OpenSpec.upto utfPutsSpec)

/-- 'avocetlaw03.UtfBack', WHERE WHAT IT READS IS OF BULK AT MOST 1048576: true; the input reads as it did. -/
def utfBackUptoRow : OpenClaim := { program := "ytoanidhbiahjaaadoor", sum := "6e66f5aa95c5adb80f378484b76d16a05454c1f86e6394366e18e159a14a623f", func := "avocet/avocetlaw03.UtfBack", spec := "utfBack", named := ["avocet/utf.marks"], apart := false, laid := [("avocet/utf.marks", laid_avocet_utf_marks)], narrowed := true }
def UtfBackUptoSaid : Prop := utfBackUptoRow.holds Tryd.pinned (OpenSpec.upto utfBackSpec)

/-- 'avocetlaw03.UtfCounts', WHERE WHAT IT READS IS OF BULK AT MOST 1048576: true; the input reads as it did. -/
def utfCountsUptoRow : OpenClaim := { program := "ytoanidhbiahjaaadoor", sum := "6e66f5aa95c5adb80f378484b76d16a05454c1f86e6394366e18e159a14a623f", func := "avocet/avocetlaw03.UtfCounts", spec := "utfCounts", named := ["avocet/utf.marks"], apart := false, laid := [("avocet/utf.marks", laid_avocet_utf_marks)], narrowed := true }
def UtfCountsUptoSaid : Prop := utfCountsUptoRow.holds Tryd.pinned (OpenSpec.upto utfCountsSpec)

end Rows
end Go.Proofs.YtoanidhbiahjaaaDoor
