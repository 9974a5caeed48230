/-
  DERIVED. GIVEN WITH THE SEED: THE CARDS: each row of YtoanidhbiahjaaaDoorRows.lean that lists a variable, with what it lists TIED to the program's text (the seventh form; the later family's looks); each row that meets fmt, with fmt's text TOLD by the authors' own Lean function (tested against real Go, not proved from fmt's source: count such statements apart). THE CARD IS WHAT COUNTS. Prove the row's statement (the work); the ties are given (YtoanidhbiahjaaaDoorTie.lean); close each card by the builder's one call (the guide's Derived/Test/ToyasCard.lean, 'card_holds'). Laid BY PROGRAM, IN A SANDBOX (cutbox-door.mjs). By AI agents, Wed Nov 11 2026. No macro, syntax, notation, axiom, sorry.
-/
import Derived.Test.YtoanidhbiahjaaaDoorRows
import GoSem.ClaimSeven
namespace Go.Proofs.YtoanidhbiahjaaaDoor
namespace Rows

/-- THE TIED CARD OF 'avocetlaw03.UtfTakes'. -/
def utfTakesCard : Claim7 := { stood := { row := utfTakesRow, standIns := [], harness := (true, "209ccdfc414a6004bcaebad7939bee187ec5a91e2ac151393db8b6245e8bac77"), looks := false }, kinds := [], alts := [], laidByText := true, laidKinds := [.data], laidTests := true, laidLooks := .later }
def UtfTakesCardSaid : Prop := Claim7.holds Tryd.pinned (.plain (OpenSpec.ofChange utfTakesSpec)) utfTakesCard

/-- THE TIED CARD OF 'avocetlaw03.UtfPuts'. -/
def utfPutsCard : Claim7 := { stood := { row := utfPutsRow, standIns := [], harness := (true, "209ccdfc414a6004bcaebad7939bee187ec5a91e2ac151393db8b6245e8bac77"), looks := false }, kinds := [], alts := [], laidByText := true, laidKinds := [.data], laidTests := true, laidLooks := .later }
def UtfPutsCardSaid : Prop := Claim7.holds Tryd.pinned (.plain (OpenSpec.ofChange utfPutsSpec)) utfPutsCard

/-- THE TIED CARD OF 'avocetlaw03.UtfBack'. -/
def utfBackCard : Claim7 := { stood := { row := utfBackRow, standIns := [], harness := (true, "209ccdfc414a6004bcaebad7939bee187ec5a91e2ac151393db8b6245e8bac77"), looks := false }, kinds := [], alts := [], laidByText := true, laidKinds := [.data], laidTests := true, laidLooks := .later }
def UtfBackCardSaid : Prop := Claim7.holds Tryd.pinned (.plain (OpenSpec.ofChange utfBackSpec)) utfBackCard

/-- THE TIED CARD OF 'avocetlaw03.UtfCounts'. -/
def utfCountsCard : Claim7 := { stood := { row := utfCountsRow, standIns := [], harness := (true, "209ccdfc414a6004bcaebad7939bee187ec5a91e2ac151393db8b6245e8bac77"), looks := false }, kinds := [], alts := [], laidByText := true, laidKinds := [.data], laidTests := true, laidLooks := .later }
def UtfCountsCardSaid : Prop := Claim7.holds Tryd.pinned (.plain (OpenSpec.ofChange utfCountsSpec)) utfCountsCard

/-- THE SECOND FORM's CARD OF 'avocetlaw03.UtfTakes'. -/
def utfTakesUptoCard : Claim7 := { stood := { row := utfTakesUptoRow, standIns := [], harness := (true, "209ccdfc414a6004bcaebad7939bee187ec5a91e2ac151393db8b6245e8bac77"), looks := false }, kinds := [], alts := [], laidByText := true, laidKinds := [.data], laidTests := true, laidLooks := .later }
def UtfTakesUptoCardSaid : Prop := Claim7.holds Tryd.pinned (.plain (OpenSpec.upto utfTakesSpec)) utfTakesUptoCard

/-- THE SECOND FORM's CARD OF 'avocetlaw03.UtfPuts'. -/
def utfPutsUptoCard : Claim7 := { stood := { row := utfPutsUptoRow, standIns := [], harness := (true, "209ccdfc414a6004bcaebad7939bee187ec5a91e2ac151393db8b6245e8bac77"), looks := false }, kinds := [], alts := [], laidByText := true, laidKinds := [.data], laidTests := true, laidLooks := .later }
def UtfPutsUptoCardSaid : Prop := Claim7.holds Tryd.pinned (.plain (OpenSpec.upto utfPutsSpec)) utfPutsUptoCard

/-- THE SECOND FORM's CARD OF 'avocetlaw03.UtfBack'. -/
def utfBackUptoCard : Claim7 := { stood := { row := utfBackUptoRow, standIns := [], harness := (true, "209ccdfc414a6004bcaebad7939bee187ec5a91e2ac151393db8b6245e8bac77"), looks := false }, kinds := [], alts := [], laidByText := true, laidKinds := [.data], laidTests := true, laidLooks := .later }
def UtfBackUptoCardSaid : Prop := Claim7.holds Tryd.pinned (.plain (OpenSpec.upto utfBackSpec)) utfBackUptoCard

/-- THE SECOND FORM's CARD OF 'avocetlaw03.UtfCounts'. -/
def utfCountsUptoCard : Claim7 := { stood := { row := utfCountsUptoRow, standIns := [], harness := (true, "209ccdfc414a6004bcaebad7939bee187ec5a91e2ac151393db8b6245e8bac77"), looks := false }, kinds := [], alts := [], laidByText := true, laidKinds := [.data], laidTests := true, laidLooks := .later }
def UtfCountsUptoCardSaid : Prop := Claim7.holds Tryd.pinned (.plain (OpenSpec.upto utfCountsSpec)) utfCountsUptoCard
end Rows
end Go.Proofs.YtoanidhbiahjaaaDoor
