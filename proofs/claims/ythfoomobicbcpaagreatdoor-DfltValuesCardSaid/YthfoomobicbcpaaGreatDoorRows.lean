/-
  NARROWER THAN 'FOR EVERY INPUT', by the rows' own cells (each row's printed sentence says how): BuildBuilds: loops, laid · DfltSays: loops, laid · DfltFields: loops, laid · DfltValues: loops, laid.
  DERIVED. THE GIVEN ROWS OF THIS SEAT. 4 by the template 'for every input the law returns true; each argument reads behind the call as it read before'; 0 by the template 'total and deterministic' (their statements: YthfoomobicbcpaaGreatDoorTotals.lean).
  GIVEN WITH THE SEED: the statements are not yours to turn. If you find one false, say at which input.
  Laid BY PROGRAM, IN A SANDBOX (cutbox-rows.mjs): the forced cells as the released guide's own fill.sh prints them over the translation 7787cc1d5392a24b… (all of the seat's roots in one cut). By AI agents, Wed Nov 11 2026. No macro, syntax, notation, axiom, sorry.
-/
import Derived.Test.YthfoomobicbcpaaGreatDoorChecked
import GoSem.PinnedTables
import GoSem.Claim
import GoSem.ClaimJoined
import GoSem.ClaimMapViews
import Derived.JoinedTies
import Derived.KernelRfl
namespace Go.Proofs.YthfoomobicbcpaaGreatDoor
/- THE CELL 'sum', in the pinned program and in every row, IS THE sha256 OF THE DUMP (.gsa) THAT YthfoomobicbcpaaGreatDoorProg.lean LOADS. Nothing in Lean hashes anything: it is a label: what it is worth is what the hold of that sum in a sandbox is worth. -/
noncomputable def Tryz.pinned : Pinned := { name := "ythfoomobicbcpaagreatdoor", sum := "7787cc1d5392a24b6f58a746fb31807ce50ab379d7c6aafabb3702a6d97afb65", checked := Tryz.checked }
namespace Rows
def none {H : Type} : Left H := { results := [], args := [] }

/- WHAT THE LISTED PACKAGE-LEVEL VARIABLES READ AS WHEN THE CALL BEGINS. Each datum BY PROGRAM (the guide's laid-datum.mjs) off the statement by which the dump's own 'gosem.cut.vars' lays the variable. In a bare row this is a premise. The card (YthfoomobicbcpaaGreatDoorCards.lean) ties it to the program's text. -/
def laid_unicode_utf8_acceptRanges {H : Type} : DataW H := .agg [.agg [.lit (.int .u8 128), .lit (.int .u8 191)], .agg [.lit (.int .u8 160), .lit (.int .u8 191)], .agg [.lit (.int .u8 128), .lit (.int .u8 159)], .agg [.lit (.int .u8 144), .lit (.int .u8 191)], .agg [.lit (.int .u8 128), .lit (.int .u8 143)], .agg [.lit (.int .u8 0), .lit (.int .u8 0)], .agg [.lit (.int .u8 0), .lit (.int .u8 0)], .agg [.lit (.int .u8 0), .lit (.int .u8 0)], .agg [.lit (.int .u8 0), .lit (.int .u8 0)], .agg [.lit (.int .u8 0), .lit (.int .u8 0)], .agg [.lit (.int .u8 0), .lit (.int .u8 0)], .agg [.lit (.int .u8 0), .lit (.int .u8 0)], .agg [.lit (.int .u8 0), .lit (.int .u8 0)], .agg [.lit (.int .u8 0), .lit (.int .u8 0)], .agg [.lit (.int .u8 0), .lit (.int .u8 0)], .agg [.lit (.int .u8 0), .lit (.int .u8 0)]]
def laid_avocet_utf_marks {H : Type} : DataW H := .agg [.lit (.int .u8 0), .lit (.int .u8 0), .lit (.int .u8 192), .lit (.int .u8 224), .lit (.int .u8 240)]
def laid_avocet_jlex_spellings {H : Type} : DataW H := .agg [.agg [.lit (.string [116, 114, 117, 101]), .lit (.int .i64 7), .lit (.int .i64 1)], .agg [.lit (.string [102, 97, 108, 115, 101]), .lit (.int .i64 7), .lit (.int .i64 0)], .agg [.lit (.string [110, 117, 108, 108]), .lit (.int .i64 8), .lit (.int .i64 0)]]
def laid_avocet_naming_words {H : Type} : DataW H := .agg [.lit (.string []), .lit (.string [110, 117, 108, 108]), .lit (.string [98, 111, 111, 108, 101, 97, 110]), .lit (.string [105, 110, 116]), .lit (.string [108, 111, 110, 103]), .lit (.string [102, 108, 111, 97, 116]), .lit (.string [100, 111, 117, 98, 108, 101]), .lit (.string [98, 121, 116, 101, 115]), .lit (.string [115, 116, 114, 105, 110, 103]), .lit (.string [114, 101, 99, 111, 114, 100]), .lit (.string [101, 110, 117, 109]), .lit (.string [97, 114, 114, 97, 121]), .lit (.string [109, 97, 112]), .lit (.string []), .lit (.string [102, 105, 120, 101, 100])]
/-- One of Go's own tables, pinned by name: the form's constant. -/
def laid_unicode_utf8_first : DataW Unit := Go.Pinned.utf8First

/-- 'avocetlaw12.BuildBuilds': WHATEVER THE INPUT: true; the input reads as it did. -/
def buildBuildsSpec : ChangeSpec := { name := "buildBuilds", fn := fun _ => fun
  | [d] => { results := [.lit (.bool true)], args := [d] }
  | _ => none }
def buildBuildsRow : OpenClaim := { program := "ythfoomobicbcpaagreatdoor", sum := "7787cc1d5392a24b6f58a746fb31807ce50ab379d7c6aafabb3702a6d97afb65", func := "avocet/avocetlaw12.BuildBuilds", spec := "buildBuilds", inPlace := ["internal/bytealg.IndexByteString", "internal/bytealg.CountString", "internal/bytealg.IndexString"], unfollowed := true, recurses := true, named := ["avocet/utf.marks", "avocet/jlex.spellings", "avocet/naming.words", "unicode/utf8.first", "unicode/utf8.acceptRanges", "internal/bytealg.MaxLen"], loops := true, apart := false, laid := [("unicode/utf8.acceptRanges", laid_unicode_utf8_acceptRanges), ("avocet/utf.marks", laid_avocet_utf_marks), ("avocet/jlex.spellings", laid_avocet_jlex_spellings), ("avocet/naming.words", laid_avocet_naming_words), ("unicode/utf8.first", laid_unicode_utf8_first)] }
def BuildBuildsSaid : Prop := buildBuildsRow.holds Tryz.pinned (OpenSpec.ofChange buildBuildsSpec)

/-- ITS FALSE NEIGHBOUR: 'it returns false'. Refute it at one input. -/
def buildBuildsWrong : ChangeSpec := { name := "buildBuilds", fn := fun _ => fun
  | [d] => { results := [.lit (.bool false)], args := [d] }
  | _ => none }
def BuildBuildsWrongFalsely : Prop := buildBuildsRow.holds Tryz.pinned (OpenSpec.ofChange buildBuildsWrong)

/-- 'avocetlaw13.DfltSays': WHATEVER THE INPUT: true; the input reads as it did. -/
def dfltSaysSpec : ChangeSpec := { name := "dfltSays", fn := fun _ => fun
  | [d1, d2, d3] => { results := [.lit (.bool true)], args := [d1, d2, d3] }
  | _ => none }
def dfltSaysRow : OpenClaim := { program := "ythfoomobicbcpaagreatdoor", sum := "7787cc1d5392a24b6f58a746fb31807ce50ab379d7c6aafabb3702a6d97afb65", func := "avocet/avocetlaw13.DfltSays", spec := "dfltSays", inPlace := ["internal/bytealg.CountString", "internal/bytealg.IndexByteString", "internal/bytealg.IndexString", "math.Float32bits", "math.Float64bits"], unfollowed := true, recurses := true, named := ["unicode/utf8.first", "unicode/utf8.acceptRanges", "internal/bytealg.MaxLen", "avocet/naming.words", "avocet/utf.marks"], loops := true, apart := false, laid := [("unicode/utf8.acceptRanges", laid_unicode_utf8_acceptRanges), ("avocet/utf.marks", laid_avocet_utf_marks), ("avocet/naming.words", laid_avocet_naming_words), ("unicode/utf8.first", laid_unicode_utf8_first)] }
def DfltSaysSaid : Prop := dfltSaysRow.holds Tryz.pinned (OpenSpec.ofChange dfltSaysSpec)

/-- ITS FALSE NEIGHBOUR: 'it returns false'. Refute it at one input. -/
def dfltSaysWrong : ChangeSpec := { name := "dfltSays", fn := fun _ => fun
  | [d1, d2, d3] => { results := [.lit (.bool false)], args := [d1, d2, d3] }
  | _ => none }
def DfltSaysWrongFalsely : Prop := dfltSaysRow.holds Tryz.pinned (OpenSpec.ofChange dfltSaysWrong)

/-- 'avocetlaw13.DfltFields': WHATEVER THE INPUT: true; the input reads as it did. -/
def dfltFieldsSpec : ChangeSpec := { name := "dfltFields", fn := fun _ => fun
  | [d1, d2, d3] => { results := [.lit (.bool true)], args := [d1, d2, d3] }
  | _ => none }
def dfltFieldsRow : OpenClaim := { program := "ythfoomobicbcpaagreatdoor", sum := "7787cc1d5392a24b6f58a746fb31807ce50ab379d7c6aafabb3702a6d97afb65", func := "avocet/avocetlaw13.DfltFields", spec := "dfltFields", inPlace := ["internal/bytealg.CountString", "internal/bytealg.IndexByteString", "internal/bytealg.IndexString", "math.Float32bits", "math.Float64bits"], unfollowed := true, recurses := true, named := ["unicode/utf8.first", "unicode/utf8.acceptRanges", "internal/bytealg.MaxLen", "avocet/naming.words", "avocet/utf.marks"], loops := true, apart := false, laid := [("unicode/utf8.acceptRanges", laid_unicode_utf8_acceptRanges), ("avocet/utf.marks", laid_avocet_utf_marks), ("avocet/naming.words", laid_avocet_naming_words), ("unicode/utf8.first", laid_unicode_utf8_first)] }
def DfltFieldsSaid : Prop := dfltFieldsRow.holds Tryz.pinned (OpenSpec.ofChange dfltFieldsSpec)

/-- ITS FALSE NEIGHBOUR: 'it returns false'. Refute it at one input. -/
def dfltFieldsWrong : ChangeSpec := { name := "dfltFields", fn := fun _ => fun
  | [d1, d2, d3] => { results := [.lit (.bool false)], args := [d1, d2, d3] }
  | _ => none }
def DfltFieldsWrongFalsely : Prop := dfltFieldsRow.holds Tryz.pinned (OpenSpec.ofChange dfltFieldsWrong)

/-- 'avocetlaw13.DfltValues': WHATEVER THE INPUT: true; the input reads as it did. -/
def dfltValuesSpec : ChangeSpec := { name := "dfltValues", fn := fun _ => fun
  | [d1, d2, d3] => { results := [.lit (.bool true)], args := [d1, d2, d3] }
  | _ => none }
def dfltValuesRow : OpenClaim := { program := "ythfoomobicbcpaagreatdoor", sum := "7787cc1d5392a24b6f58a746fb31807ce50ab379d7c6aafabb3702a6d97afb65", func := "avocet/avocetlaw13.DfltValues", spec := "dfltValues", inPlace := ["internal/bytealg.CountString", "internal/bytealg.IndexByteString", "internal/bytealg.IndexString"], unfollowed := true, recurses := true, named := ["unicode/utf8.first", "unicode/utf8.acceptRanges", "internal/bytealg.MaxLen", "avocet/naming.words", "avocet/utf.marks"], loops := true, apart := false, laid := [("unicode/utf8.acceptRanges", laid_unicode_utf8_acceptRanges), ("avocet/utf.marks", laid_avocet_utf_marks), ("avocet/naming.words", laid_avocet_naming_words), ("unicode/utf8.first", laid_unicode_utf8_first)] }
def DfltValuesSaid : Prop := dfltValuesRow.holds Tryz.pinned (OpenSpec.ofChange dfltValuesSpec)

/-- ITS FALSE NEIGHBOUR: 'it returns false'. Refute it at one input. -/
def dfltValuesWrong : ChangeSpec := { name := "dfltValues", fn := fun _ => fun
  | [d1, d2, d3] => { results := [.lit (.bool false)], args := [d1, d2, d3] }
  | _ => none }
def DfltValuesWrongFalsely : Prop := dfltValuesRow.holds Tryz.pinned (OpenSpec.ofChange dfltValuesWrong)

/- THE SECOND FORM. 'bulk': how many values and letters a reading holds, each counted each time it is reached (what is shared counts as often as it is met; a slice's spare places count too). A statement '..UptoSaid' is the law's where the arguments, and the package variables that the reading takes, are together of bulk at most 1048576: NARROWER than '..Said'. Prove '..Said' where nothing that the law and all that it calls make is longer than what came in: it says more and counts as full. Else prove '..UptoSaid'. A law counts once. -/
mutual
def uptoBulk {H : Type} : DataW H → Nat
  | .lit (.string bytes) => bytes.length + 1
  | .lit _ => 1
  | .nil => 1
  | .ptr d => uptoBulk d + 1
  | .slice elems spare => uptoBulkAll elems + uptoBulkAll spare + 1
  | .agg parts => uptoBulkAll parts + 1
  | .iface _ d => uptoBulk d + 1
  | .map entries => uptoBulkEntries entries + 1
  | .held _ => 1
def uptoBulkAll {H : Type} : List (DataW H) → Nat
  | [] => 0
  | d :: r => uptoBulk d + uptoBulkAll r
def uptoBulkEntries {H : Type} : List (Lit × DataW H) → Nat
  | [] => 0
  | x :: r => uptoBulkEntry x + uptoBulkEntries r
def uptoBulkEntry {H : Type} : Lit × DataW H → Nat
  | (.string bytes, d) => bytes.length + uptoBulk d + 1
  | (_, d) => uptoBulk d + 1
 end
def uptoSmall : (H : Type) → List (DataW H) → Bool := fun _ ds => decide (uptoBulkAll ds ≤ 1048576)
def OpenSpec.upto (s : _root_.Go.ChangeSpec) : _root_.Go.OpenSpec := { _root_.Go.OpenSpec.ofChange s with cond := some uptoSmall }

/-- 'avocetlaw12.BuildBuilds', WHERE WHAT IT READS IS OF BULK AT MOST 1048576: true; the input reads as it did. -/
def buildBuildsUptoRow : OpenClaim := { program := "ythfoomobicbcpaagreatdoor", sum := "7787cc1d5392a24b6f58a746fb31807ce50ab379d7c6aafabb3702a6d97afb65", func := "avocet/avocetlaw12.BuildBuilds", spec := "buildBuilds", inPlace := ["internal/bytealg.IndexByteString", "internal/bytealg.CountString", "internal/bytealg.IndexString"], unfollowed := true, recurses := true, named := ["avocet/utf.marks", "avocet/jlex.spellings", "avocet/naming.words", "unicode/utf8.first", "unicode/utf8.acceptRanges", "internal/bytealg.MaxLen"], loops := true, apart := false, laid := [("unicode/utf8.acceptRanges", laid_unicode_utf8_acceptRanges), ("avocet/utf.marks", laid_avocet_utf_marks), ("avocet/jlex.spellings", laid_avocet_jlex_spellings), ("avocet/naming.words", laid_avocet_naming_words), ("unicode/utf8.first", laid_unicode_utf8_first)], narrowed := true }
def BuildBuildsUptoSaid : Prop := buildBuildsUptoRow.holds Tryz.pinned (OpenSpec.upto buildBuildsSpec)

/-- 'avocetlaw13.DfltSays', WHERE WHAT IT READS IS OF BULK AT MOST 1048576: true; the input reads as it did. -/
def dfltSaysUptoRow : OpenClaim := { program := "ythfoomobicbcpaagreatdoor", sum := "7787cc1d5392a24b6f58a746fb31807ce50ab379d7c6aafabb3702a6d97afb65", func := "avocet/avocetlaw13.DfltSays", spec := "dfltSays", inPlace := ["internal/bytealg.CountString", "internal/bytealg.IndexByteString", "internal/bytealg.IndexString", "math.Float32bits", "math.Float64bits"], unfollowed := true, recurses := true, named := ["unicode/utf8.first", "unicode/utf8.acceptRanges", "internal/bytealg.MaxLen", "avocet/naming.words", "avocet/utf.marks"], loops := true, apart := false, laid := [("unicode/utf8.acceptRanges", laid_unicode_utf8_acceptRanges), ("avocet/utf.marks", laid_avocet_utf_marks), ("avocet/naming.words", laid_avocet_naming_words), ("unicode/utf8.first", laid_unicode_utf8_first)], narrowed := true }
def DfltSaysUptoSaid : Prop := dfltSaysUptoRow.holds Tryz.pinned (OpenSpec.upto dfltSaysSpec)

/-- 'avocetlaw13.DfltFields', WHERE WHAT IT READS IS OF BULK AT MOST 1048576: true; the input reads as it did. -/
def dfltFieldsUptoRow : OpenClaim := { program := "ythfoomobicbcpaagreatdoor", sum := "7787cc1d5392a24b6f58a746fb31807ce50ab379d7c6aafabb3702a6d97afb65", func := "avocet/avocetlaw13.DfltFields", spec := "dfltFields", inPlace := ["internal/bytealg.CountString", "internal/bytealg.IndexByteString", "internal/bytealg.IndexString", "math.Float32bits", "math.Float64bits"], unfollowed := true, recurses := true, named := ["unicode/utf8.first", "unicode/utf8.acceptRanges", "internal/bytealg.MaxLen", "avocet/naming.words", "avocet/utf.marks"], loops := true, apart := false, laid := [("unicode/utf8.acceptRanges", laid_unicode_utf8_acceptRanges), ("avocet/utf.marks", laid_avocet_utf_marks), ("avocet/naming.words", laid_avocet_naming_words), ("unicode/utf8.first", laid_unicode_utf8_first)], narrowed := true }
def DfltFieldsUptoSaid : Prop := dfltFieldsUptoRow.holds Tryz.pinned (OpenSpec.upto dfltFieldsSpec)

/-- 'avocetlaw13.DfltValues', WHERE WHAT IT READS IS OF BULK AT MOST 1048576: true; the input reads as it did. -/
def dfltValuesUptoRow : OpenClaim := { program := "ythfoomobicbcpaagreatdoor", sum := "7787cc1d5392a24b6f58a746fb31807ce50ab379d7c6aafabb3702a6d97afb65", func := "avocet/avocetlaw13.DfltValues", spec := "dfltValues", inPlace := ["internal/bytealg.CountString", "internal/bytealg.IndexByteString", "internal/bytealg.IndexString"], unfollowed := true, recurses := true, named := ["unicode/utf8.first", "unicode/utf8.acceptRanges", "internal/bytealg.MaxLen", "avocet/naming.words", "avocet/utf.marks"], loops := true, apart := false, laid := [("unicode/utf8.acceptRanges", laid_unicode_utf8_acceptRanges), ("avocet/utf.marks", laid_avocet_utf_marks), ("avocet/naming.words", laid_avocet_naming_words), ("unicode/utf8.first", laid_unicode_utf8_first)], narrowed := true }
def DfltValuesUptoSaid : Prop := dfltValuesUptoRow.holds Tryz.pinned (OpenSpec.upto dfltValuesSpec)

end Rows
end Go.Proofs.YthfoomobicbcpaaGreatDoor
