/-
  NARROWER THAN 'FOR EVERY INPUT', by the rows' own cells (each row's printed sentence says how): JlexTakes: laid · JlexQuotes: laid · JlexBack: laid · JlexWhite: laid.
  DERIVED. THE GIVEN ROWS OF THIS SEAT. 4 by the template 'for every input the law returns true; each argument reads behind the call as it read before'; 0 by the template 'total and deterministic' (their statements: YtbogafecgakgiaaDoorTotals.lean).
  GIVEN WITH THE SEED: the statements are not yours to turn. If you find one false, say at which input.
  Laid BY PROGRAM, IN A SANDBOX (cutbox-rows.mjs): the forced cells as the released guide's own fill.sh prints them over the translation 663b0199b02acc54… (all of the seat's roots in one cut). By AI agents, Wed Nov 11 2026. No macro, syntax, notation, axiom, sorry.
-/
import Derived.Test.YtbogafecgakgiaaDoorChecked
import GoSem.Claim
import GoSem.ClaimJoined
import GoSem.ClaimMapViews
import Derived.JoinedTies
import Derived.KernelRfl
namespace Go.Proofs.YtbogafecgakgiaaDoor
/- THE CELL 'sum', in the pinned program and in every row, IS THE sha256 OF THE DUMP (.gsa) THAT YtbogafecgakgiaaDoorProg.lean LOADS. Nothing in Lean hashes anything: it is a label: what it is worth is what the hold of that sum in a sandbox is worth. -/
noncomputable def Tryd.pinned : Pinned := { name := "ytbogafecgakgiaadoor", sum := "663b0199b02acc543d52bc723f16101a08aa1039f14e97a7eb68a06d2ecc47e3", checked := Tryd.checked }
namespace Rows
def none {H : Type} : Left H := { results := [], args := [] }

/- WHAT THE LISTED PACKAGE-LEVEL VARIABLES READ AS WHEN THE CALL BEGINS. Each datum BY PROGRAM (the guide's laid-datum.mjs) off the statement by which the dump's own 'gosem.cut.vars' lays the variable. In a bare row this is a premise. The card (YtbogafecgakgiaaDoorCards.lean) ties it to the program's text. -/
def laid_avocet_utf_marks {H : Type} : DataW H := .agg [.lit (.int .u8 0), .lit (.int .u8 0), .lit (.int .u8 192), .lit (.int .u8 224), .lit (.int .u8 240)]
def laid_avocet_jlex_spellings {H : Type} : DataW H := .agg [.agg [.lit (.string [116, 114, 117, 101]), .lit (.int .i64 7), .lit (.int .i64 1)], .agg [.lit (.string [102, 97, 108, 115, 101]), .lit (.int .i64 7), .lit (.int .i64 0)], .agg [.lit (.string [110, 117, 108, 108]), .lit (.int .i64 8), .lit (.int .i64 0)]]

/-- 'avocetlaw06.JlexTakes': WHATEVER THE INPUT: true; the input reads as it did. -/
def jlexTakesSpec : ChangeSpec := { name := "jlexTakes", fn := fun _ => fun
  | [d1, d2] => { results := [.lit (.bool true)], args := [d1, d2] }
  | _ => none }
def jlexTakesRow : OpenClaim := { program := "ytbogafecgakgiaadoor", sum := "663b0199b02acc543d52bc723f16101a08aa1039f14e97a7eb68a06d2ecc47e3", func := "avocet/avocetlaw06.JlexTakes", spec := "jlexTakes", inPlace := ["internal/bytealg.IndexByteString"], named := ["avocet/utf.marks", "avocet/jlex.spellings"], apart := false, laid := [("avocet/utf.marks", laid_avocet_utf_marks), ("avocet/jlex.spellings", laid_avocet_jlex_spellings)] }
def JlexTakesSaid : Prop := jlexTakesRow.holds Tryd.pinned (OpenSpec.ofChange jlexTakesSpec)

/-- ITS FALSE NEIGHBOUR: 'it returns false'. Refute it at one input. -/
def jlexTakesWrong : ChangeSpec := { name := "jlexTakes", fn := fun _ => fun
  | [d1, d2] => { results := [.lit (.bool false)], args := [d1, d2] }
  | _ => none }
def JlexTakesWrongFalsely : Prop := jlexTakesRow.holds Tryd.pinned (OpenSpec.ofChange jlexTakesWrong)

/-- 'avocetlaw06.JlexQuotes': WHATEVER THE INPUT: true; the input reads as it did. -/
def jlexQuotesSpec : ChangeSpec := { name := "jlexQuotes", fn := fun _ => fun
  | [d1, d2] => { results := [.lit (.bool true)], args := [d1, d2] }
  | _ => none }
def jlexQuotesRow : OpenClaim := { program := "ytbogafecgakgiaadoor", sum := "663b0199b02acc543d52bc723f16101a08aa1039f14e97a7eb68a06d2ecc47e3", func := "avocet/avocetlaw06.JlexQuotes", spec := "jlexQuotes", inPlace := ["internal/bytealg.IndexByteString"], named := ["avocet/utf.marks", "avocet/jlex.spellings"], apart := false, laid := [("avocet/utf.marks", laid_avocet_utf_marks), ("avocet/jlex.spellings", laid_avocet_jlex_spellings)] }
def JlexQuotesSaid : Prop := jlexQuotesRow.holds Tryd.pinned (OpenSpec.ofChange jlexQuotesSpec)

/-- ITS FALSE NEIGHBOUR: 'it returns false'. Refute it at one input. -/
def jlexQuotesWrong : ChangeSpec := { name := "jlexQuotes", fn := fun _ => fun
  | [d1, d2] => { results := [.lit (.bool false)], args := [d1, d2] }
  | _ => none }
def JlexQuotesWrongFalsely : Prop := jlexQuotesRow.holds Tryd.pinned (OpenSpec.ofChange jlexQuotesWrong)

/-- 'avocetlaw06.JlexBack': WHATEVER THE INPUT: true; the input reads as it did. -/
def jlexBackSpec : ChangeSpec := { name := "jlexBack", fn := fun _ => fun
  | [d1, d2] => { results := [.lit (.bool true)], args := [d1, d2] }
  | _ => none }
def jlexBackRow : OpenClaim := { program := "ytbogafecgakgiaadoor", sum := "663b0199b02acc543d52bc723f16101a08aa1039f14e97a7eb68a06d2ecc47e3", func := "avocet/avocetlaw06.JlexBack", spec := "jlexBack", inPlace := ["internal/bytealg.IndexByteString"], named := ["avocet/utf.marks", "avocet/jlex.spellings"], apart := false, laid := [("avocet/utf.marks", laid_avocet_utf_marks), ("avocet/jlex.spellings", laid_avocet_jlex_spellings)] }
def JlexBackSaid : Prop := jlexBackRow.holds Tryd.pinned (OpenSpec.ofChange jlexBackSpec)

/-- ITS FALSE NEIGHBOUR: 'it returns false'. Refute it at one input. -/
def jlexBackWrong : ChangeSpec := { name := "jlexBack", fn := fun _ => fun
  | [d1, d2] => { results := [.lit (.bool false)], args := [d1, d2] }
  | _ => none }
def JlexBackWrongFalsely : Prop := jlexBackRow.holds Tryd.pinned (OpenSpec.ofChange jlexBackWrong)

/-- 'avocetlaw06.JlexWhite': WHATEVER THE INPUT: true; the input reads as it did. -/
def jlexWhiteSpec : ChangeSpec := { name := "jlexWhite", fn := fun _ => fun
  | [d1, d2] => { results := [.lit (.bool true)], args := [d1, d2] }
  | _ => none }
def jlexWhiteRow : OpenClaim := { program := "ytbogafecgakgiaadoor", sum := "663b0199b02acc543d52bc723f16101a08aa1039f14e97a7eb68a06d2ecc47e3", func := "avocet/avocetlaw06.JlexWhite", spec := "jlexWhite", inPlace := ["internal/bytealg.IndexByteString"], named := ["avocet/utf.marks", "avocet/jlex.spellings"], apart := false, laid := [("avocet/utf.marks", laid_avocet_utf_marks), ("avocet/jlex.spellings", laid_avocet_jlex_spellings)] }
def JlexWhiteSaid : Prop := jlexWhiteRow.holds Tryd.pinned (OpenSpec.ofChange jlexWhiteSpec)

/-- ITS FALSE NEIGHBOUR: 'it returns false'. Refute it at one input. -/
def jlexWhiteWrong : ChangeSpec := { name := "jlexWhite", fn := fun _ => fun
  | [d1, d2] => { results := [.lit (.bool false)], args := [d1, d2] }
  | _ => none }
def JlexWhiteWrongFalsely : Prop := jlexWhiteRow.holds Tryd.pinned (OpenSpec.ofChange jlexWhiteWrong)

/- THE SECOND FORM. 'bulk': how many values and letters a reading holds, each counted each time it is reached (what is shared counts as often as it is met; a slice's spare places count too). A statement '..UptoSaid' is the law's where the arguments, and the package variables that the reading takes, are together of bulk at most 1048576: NARROWER than '..Said'. Prove '..Said' where nothing that the law and all that it calls make is longer than what came in: it says more and counts as full. Else prove '..UptoSaid'. A law counts once. -/
mutual
def uptoBulk {H : Type} : DataW H → Nat
  | .lit (.string bytes) => bytes.length + 1
  | .lit _ => 1
  | .nil => 1
  | .ptr d => uptoBulk d + 1
  | .slice elems spare => uptoBulkAll elems + uptoBulkAll spare + 1
  | .agg parts => uptoBulkAll parts + 1
  | .iface _ d => uptoBulk d + 1
  | .map entries => uptoBulkEntries entries + 1
  | .held _ => 1
def uptoBulkAll {H : Type} : List (DataW H) → Nat
  | [] => 0
  | d :: r => uptoBulk d + uptoBulkAll r
def uptoBulkEntries {H : Type} : List (Lit × DataW H) → Nat
  | [] => 0
  | x :: r => uptoBulkEntry x + uptoBulkEntries r
def uptoBulkEntry {H : Type} : Lit × DataW H → Nat
  | (.string bytes, d) => bytes.length + uptoBulk d + 1
  | (_, d) => uptoBulk d + 1
 end
def uptoSmall : (H : Type) → List (DataW H) → Bool := fun _ ds => decide (uptoBulkAll ds ≤ 1048576)
def OpenSpec.upto (s : _root_.Go.ChangeSpec) : _root_.Go.OpenSpec := { _root_.Go.OpenSpec.ofChange s with cond := some uptoSmall }

/-- 'avocetlaw06.JlexTakes', WHERE WHAT IT READS IS OF BULK AT MOST 1048576: true; the input reads as it did. -/
def jlexTakesUptoRow : OpenClaim := { program := "ytbogafecgakgiaadoor", sum := "663b0199b02acc543d52bc723f16101a08aa1039f14e97a7eb68a06d2ecc47e3", func := "avocet/avocetlaw06.JlexTakes", spec := "jlexTakes", inPlace := ["internal/bytealg.IndexByteString"], named := ["avocet/utf.marks", "avocet/jlex.spellings"], apart := false, laid := [("avocet/utf.marks", laid_avocet_utf_marks), ("avocet/jlex.spellings", laid_avocet_jlex_spellings)], narrowed := true }
def JlexTakesUptoSaid : Prop := jlexTakesUptoRow.holds Tryd.pinned (OpenSpec.upto jlexTakesSpec)

/-- 'avocetlaw06.JlexQuotes', WHERE WHAT IT READS IS OF BULK AT MOST 1048576: true; the input reads as it did. -/
def jlexQuotesUptoRow : OpenClaim := { program := "ytbogafecgakgiaadoor", sum := "663b0199b02acc543d52bc723f16101a08aa1039f14e97a7eb68a06d2ecc47e3", func := "avocet/avocetlaw06.JlexQuotes", spec := "jlexQuotes", inPlace := ["internal/bytealg.IndexByteString"], named := ["avocet/utf.marks", "avocet/jlex.spellings"], apart := false, laid := [("avocet/utf.marks", laid_avocet_utf_marks), ("avocet/jlex.spellings", laid_avocet_jlex_spellings)], narrowed := true }
def JlexQuotesUptoSaid : Prop := jlexQuotesUptoRow.holds Tryd.pinned (OpenSpec.upto jlexQuotesSpec)

/-- 'avocetlaw06.JlexBack', WHERE WHAT IT READS IS OF BULK AT MOST 1048576: true; the input reads as it did. -/
def jlexBackUptoRow : OpenClaim := { program := "ytbogafecgakgiaadoor", sum := "663b0199b02acc543d52bc723f16101a08aa1039f14e97a7eb68a06d2ecc47e3", func := "avocet/avocetlaw06.JlexBack", spec := "jlexBack", inPlace := ["internal/bytealg.IndexByteString"], named := ["avocet/utf.marks", "avocet/jlex.spellings"], apart := false, laid := [("avocet/utf.marks", laid_avocet_utf_marks), ("avocet/jlex.spellings", laid_avocet_jlex_spellings)], narrowed := true }
def JlexBackUptoSaid : Prop := jlexBackUptoRow.holds Tryd.pinned (OpenSpec.upto jlexBackSpec)

/-- 'avocetlaw06.JlexWhite', WHERE WHAT IT READS IS OF BULK AT MOST 1048576: true; the input reads as it did. -/
def jlexWhiteUptoRow : OpenClaim := { program := "ytbogafecgakgiaadoor", sum := "663b0199b02acc543d52bc723f16101a08aa1039f14e97a7eb68a06d2ecc47e3", func := "avocet/avocetlaw06.JlexWhite", spec := "jlexWhite", inPlace := ["internal/bytealg.IndexByteString"], named := ["avocet/utf.marks", "avocet/jlex.spellings"], apart := false, laid := [("avocet/utf.marks", laid_avocet_utf_marks), ("avocet/jlex.spellings", laid_avocet_jlex_spellings)], narrowed := true }
def JlexWhiteUptoSaid : Prop := jlexWhiteUptoRow.holds Tryd.pinned (OpenSpec.upto jlexWhiteSpec)

end Rows
end Go.Proofs.YtbogafecgakgiaaDoor
