/-
  NARROWER THAN 'FOR EVERY INPUT', by the rows' own cells (each row's printed sentence says how): WirePlays: laid · WirePuts: laid · WireBack: laid · WireMore: laid.
  DERIVED. THE GIVEN ROWS OF THIS SEAT. 4 by the template 'for every input the law returns true; each argument reads behind the call as it read before'; 0 by the template 'total and deterministic' (their statements: YtjebhbjffofjnaaDoorTotals.lean).
  GIVEN WITH THE SEED: the statements are not yours to turn. If you find one false, say at which input.
  Laid BY PROGRAM, IN A SANDBOX (cutbox-rows.mjs): the forced cells as the released guide's own fill.sh prints them over the translation 56c1322897506617… (all of the seat's roots in one cut). By AI agents, Wed Nov 11 2026. No macro, syntax, notation, axiom, sorry.
-/
import Derived.Test.YtjebhbjffofjnaaDoorChecked
import GoSem.Claim
import GoSem.ClaimJoined
import GoSem.ClaimMapViews
import Derived.JoinedTies
import Derived.KernelRfl
namespace Go.Proofs.YtjebhbjffofjnaaDoor
/- THE CELL 'sum', in the pinned program and in every row, IS THE sha256 OF THE DUMP (.gsa) THAT YtjebhbjffofjnaaDoorProg.lean LOADS. Nothing in Lean hashes anything: it is a label: what it is worth is what the hold of that sum in a sandbox is worth. -/
noncomputable def Tryd.pinned : Pinned := { name := "ytjebhbjffofjnaadoor", sum := "56c1322897506617a4d18dfdbd9471c4f5a9e7acc0f0e225742b2cbb0357baf0", checked := Tryd.checked }
namespace Rows
def none {H : Type} : Left H := { results := [], args := [] }

/- WHAT THE LISTED PACKAGE-LEVEL VARIABLES READ AS WHEN THE CALL BEGINS. Each datum BY PROGRAM (the guide's laid-datum.mjs) off the statement by which the dump's own 'gosem.cut.vars' lays the variable. In a bare row this is a premise. The card (YtjebhbjffofjnaaDoorCards.lean) ties it to the program's text. -/
def laid_avocet_utf_marks {H : Type} : DataW H := .agg [.lit (.int .u8 0), .lit (.int .u8 0), .lit (.int .u8 192), .lit (.int .u8 224), .lit (.int .u8 240)]

/-- 'avocetlaw04.WirePlays': WHATEVER THE INPUT: true; the input reads as it did. -/
def wirePlaysSpec : ChangeSpec := { name := "wirePlays", fn := fun _ => fun
  | [d1, d2, d3] => { results := [.lit (.bool true)], args := [d1, d2, d3] }
  | _ => none }
def wirePlaysRow : OpenClaim := { program := "ytjebhbjffofjnaadoor", sum := "56c1322897506617a4d18dfdbd9471c4f5a9e7acc0f0e225742b2cbb0357baf0", func := "avocet/avocetlaw04.WirePlays", spec := "wirePlays", unfollowed := true, recurses := true, named := ["avocet/utf.marks"], apart := false, laid := [("avocet/utf.marks", laid_avocet_utf_marks)] }
def WirePlaysSaid : Prop := wirePlaysRow.holds Tryd.pinned (OpenSpec.ofChange wirePlaysSpec)

/-- ITS FALSE NEIGHBOUR: 'it returns false'. Refute it at one input. -/
def wirePlaysWrong : ChangeSpec := { name := "wirePlays", fn := fun _ => fun
  | [d1, d2, d3] => { results := [.lit (.bool false)], args := [d1, d2, d3] }
  | _ => none }
def WirePlaysWrongFalsely : Prop := wirePlaysRow.holds Tryd.pinned (OpenSpec.ofChange wirePlaysWrong)

/-- 'avocetlaw04.WirePuts': WHATEVER THE INPUT: true; the input reads as it did. -/
def wirePutsSpec : ChangeSpec := { name := "wirePuts", fn := fun _ => fun
  | [d1, d2, d3, d4, d5] => { results := [.lit (.bool true)], args := [d1, d2, d3, d4, d5] }
  | _ => none }
def wirePutsRow : OpenClaim := { program := "ytjebhbjffofjnaadoor", sum := "56c1322897506617a4d18dfdbd9471c4f5a9e7acc0f0e225742b2cbb0357baf0", func := "avocet/avocetlaw04.WirePuts", spec := "wirePuts", unfollowed := true, recurses := true, named := ["avocet/utf.marks"], apart := false, laid := [("avocet/utf.marks", laid_avocet_utf_marks)] }
def WirePutsSaid : Prop := wirePutsRow.holds Tryd.pinned (OpenSpec.ofChange wirePutsSpec)

/-- ITS FALSE NEIGHBOUR: 'it returns false'. Refute it at one input. -/
def wirePutsWrong : ChangeSpec := { name := "wirePuts", fn := fun _ => fun
  | [d1, d2, d3, d4, d5] => { results := [.lit (.bool false)], args := [d1, d2, d3, d4, d5] }
  | _ => none }
def WirePutsWrongFalsely : Prop := wirePutsRow.holds Tryd.pinned (OpenSpec.ofChange wirePutsWrong)

/-- 'avocetlaw04.WireBack': WHATEVER THE INPUT: true; the input reads as it did. -/
def wireBackSpec : ChangeSpec := { name := "wireBack", fn := fun _ => fun
  | [d1, d2, d3, d4, d5, d6] => { results := [.lit (.bool true)], args := [d1, d2, d3, d4, d5, d6] }
  | _ => none }
def wireBackRow : OpenClaim := { program := "ytjebhbjffofjnaadoor", sum := "56c1322897506617a4d18dfdbd9471c4f5a9e7acc0f0e225742b2cbb0357baf0", func := "avocet/avocetlaw04.WireBack", spec := "wireBack", unfollowed := true, recurses := true, named := ["avocet/utf.marks"], apart := false, laid := [("avocet/utf.marks", laid_avocet_utf_marks)] }
def WireBackSaid : Prop := wireBackRow.holds Tryd.pinned (OpenSpec.ofChange wireBackSpec)

/-- ITS FALSE NEIGHBOUR: 'it returns false'. Refute it at one input. -/
def wireBackWrong : ChangeSpec := { name := "wireBack", fn := fun _ => fun
  | [d1, d2, d3, d4, d5, d6] => { results := [.lit (.bool false)], args := [d1, d2, d3, d4, d5, d6] }
  | _ => none }
def WireBackWrongFalsely : Prop := wireBackRow.holds Tryd.pinned (OpenSpec.ofChange wireBackWrong)

/-- 'avocetlaw04.WireMore': WHATEVER THE INPUT: true; the input reads as it did. -/
def wireMoreSpec : ChangeSpec := { name := "wireMore", fn := fun _ => fun
  | [d1, d2, d3, d4] => { results := [.lit (.bool true)], args := [d1, d2, d3, d4] }
  | _ => none }
def wireMoreRow : OpenClaim := { program := "ytjebhbjffofjnaadoor", sum := "56c1322897506617a4d18dfdbd9471c4f5a9e7acc0f0e225742b2cbb0357baf0", func := "avocet/avocetlaw04.WireMore", spec := "wireMore", unfollowed := true, recurses := true, named := ["avocet/utf.marks"], apart := false, laid := [("avocet/utf.marks", laid_avocet_utf_marks)] }
def WireMoreSaid : Prop := wireMoreRow.holds Tryd.pinned (OpenSpec.ofChange wireMoreSpec)

/-- ITS FALSE NEIGHBOUR: 'it returns false'. Refute it at one input. -/
def wireMoreWrong : ChangeSpec := { name := "wireMore", fn := fun _ => fun
  | [d1, d2, d3, d4] => { results := [.lit (.bool false)], args := [d1, d2, d3, d4] }
  | _ => none }
def WireMoreWrongFalsely : Prop := wireMoreRow.holds Tryd.pinned (OpenSpec.ofChange wireMoreWrong)

/- THE SECOND FORM. 'bulk': how many values and letters a reading holds, each counted each time it is reached (what is shared counts as often as it is met; a slice's spare places count too). A statement '..UptoSaid' is the law's where the arguments, and the package variables that the reading takes, are together of bulk at most 1048576: NARROWER than '..Said'. Prove '..Said' where nothing that the law and all that it calls make is longer than what came in: it says more and counts as full. Else prove '..UptoSaid'. A law counts once. -/
mutual
def uptoBulk {H : Type} : DataW H → Nat
  | .lit (.string bytes) => bytes.length + 1
  | .lit _ => 1
  | .nil => 1
  | .ptr d => uptoBulk d + 1
  | .slice elems spare => uptoBulkAll elems + uptoBulkAll spare + 1
  | .agg parts => uptoBulkAll parts + 1
  | .iface _ d => uptoBulk d + 1
  | .map entries => uptoBulkEntries entries + 1
  | .held _ => 1
def uptoBulkAll {H : Type} : List (DataW H) → Nat
  | [] => 0
  | d :: r => uptoBulk d + uptoBulkAll r
def uptoBulkEntries {H : Type} : List (Lit × DataW H) → Nat
  | [] => 0
  | x :: r => uptoBulkEntry x + uptoBulkEntries r
def uptoBulkEntry {H : Type} : Lit × DataW H → Nat
  | (.string bytes, d) => bytes.length + uptoBulk d + 1
  | (_, d) => uptoBulk d + 1
 end
def uptoSmall : (H : Type) → List (DataW H) → Bool := fun _ ds => decide (uptoBulkAll ds ≤ 1048576)
def OpenSpec.upto (s : _root_.Go.ChangeSpec) : _root_.Go.OpenSpec := { _root_.Go.OpenSpec.ofChange s with cond := some uptoSmall }

/-- 'avocetlaw04.WirePlays', WHERE WHAT IT READS IS OF BULK AT MOST 1048576: true; the input reads as it did. -/
def wirePlaysUptoRow : OpenClaim := { program := "ytjebhbjffofjnaadoor", sum := "56c1322897506617a4d18dfdbd9471c4f5a9e7acc0f0e225742b2cbb0357baf0", func := "avocet/avocetlaw04.WirePlays", spec := "wirePlays", unfollowed := true, recurses := true, named := ["avocet/utf.marks"], apart := false, laid := [("avocet/utf.marks", laid_avocet_utf_marks)], narrowed := true }
def WirePlaysUptoSaid : Prop := wirePlaysUptoRow.holds Tryd.pinned (OpenSpec.upto wirePlaysSpec)

/-- 'avocetlaw04.WirePuts', WHERE WHAT IT READS IS OF BULK AT MOST 1048576: true; the input reads as it did. -/
def wirePutsUptoRow : OpenClaim := { program := "ytjebhbjffofjnaadoor", sum := "56c1322897506617a4d18dfdbd9471c4f5a9e7acc0f0e225742b2cbb0357baf0", func := "avocet/avocetlaw04.WirePuts", spec := "wirePuts", unfollowed := true, recurses := true, named := ["avocet/utf.marks"], apart := false, laid := [("avocet/utf.marks", laid_avocet_utf_marks)], narrowed := true }
def WirePutsUptoSaid : Prop := wirePutsUptoRow.holds Tryd.pinned (OpenSpec.upto wirePutsSpec)

/-- 'avocetlaw04.WireBack', WHERE WHAT IT READS IS OF BULK AT MOST 1048576: true; the input reads as it did. -/
def wireBackUptoRow : OpenClaim := { program := "ytjebhbjffofjnaadoor", sum := "56c1322897506617a4d18dfdbd9471c4f5a9e7acc0f0e225742b2cbb0357baf0", func := "avocet/avocetlaw04.WireBack", spec := "wireBack", unfollowed := true, recurses := true, named := ["avocet/utf.marks"], apart := false, laid := [("avocet/utf.marks", laid_avocet_utf_marks)], narrowed := true }
def WireBackUptoSaid : Prop := wireBackUptoRow.holds Tryd.pinned (OpenSpec.upto wireBackSpec)

/-- 'avocetlaw04.WireMore', WHERE WHAT IT READS IS OF BULK AT MOST 1048576: true; the input reads as it did. -/
def wireMoreUptoRow : OpenClaim := { program := "ytjebhbjffofjnaadoor", sum := "56c1322897506617a4d18dfdbd9471c4f5a9e7acc0f0e225742b2cbb0357baf0", func := "avocet/avocetlaw04.WireMore", spec := "wireMore", unfollowed := true, recurses := true, named := ["avocet/utf.marks"], apart := false, laid := [("avocet/utf.marks", laid_avocet_utf_marks)], narrowed := true }
def WireMoreUptoSaid : Prop := wireMoreUptoRow.holds Tryd.pinned (OpenSpec.upto wireMoreSpec)

end Rows
end Go.Proofs.YtjebhbjffofjnaaDoor
