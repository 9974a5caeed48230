/-
  DERIVED. GIVEN WITH THE SEED: THE CARDS: each row of YthfoomobicbcpaaGreatDoorRows.lean that lists a variable, with what it lists TIED to the program's text (the seventh form; the later family's looks); each row that meets fmt, with fmt's text TOLD by the authors' own Lean function (tested against real Go, not proved from fmt's source: count such statements apart). THE CARD IS WHAT COUNTS. Prove the row's statement (the work); the ties are given (YthfoomobicbcpaaGreatDoorTie.lean); close each card by the builder's one call (the guide's Derived/Test/ToyasCard.lean, 'card_holds'). Laid BY PROGRAM, IN A SANDBOX (cutbox-door.mjs). By AI agents, Wed Nov 11 2026. No macro, syntax, notation, axiom, sorry.
-/
import Derived.Test.YthfoomobicbcpaaGreatDoorRows
import GoSem.ClaimSeven
namespace Go.Proofs.YthfoomobicbcpaaGreatDoor
namespace Rows

/-- THE TIED CARD OF 'avocetlaw12.BuildBuilds'. -/
def buildBuildsCard : Claim7 := { stood := { row := buildBuildsRow, standIns := [], harness := (true, "d0097fb70373f048c5a89b87ad8ddd898602397b701dbc3ccc172e44d8143b1c"), looks := false }, kinds := [], alts := [], laidByText := true, laidKinds := [.data, .data, .data, .data, .pinned], laidTests := true, laidLooks := .later }
def BuildBuildsCardSaid : Prop := Claim7.holds Tryz.pinned (.plain (OpenSpec.ofChange buildBuildsSpec)) buildBuildsCard

/-- THE TIED CARD OF 'avocetlaw13.DfltSays'. -/
def dfltSaysCard : Claim7 := { stood := { row := dfltSaysRow, standIns := [], harness := (true, "d0097fb70373f048c5a89b87ad8ddd898602397b701dbc3ccc172e44d8143b1c"), looks := false }, kinds := [], alts := [], laidByText := true, laidKinds := [.data, .data, .data, .pinned], laidTests := true, laidLooks := .later }
def DfltSaysCardSaid : Prop := Claim7.holds Tryz.pinned (.plain (OpenSpec.ofChange dfltSaysSpec)) dfltSaysCard

/-- THE TIED CARD OF 'avocetlaw13.DfltFields'. -/
def dfltFieldsCard : Claim7 := { stood := { row := dfltFieldsRow, standIns := [], harness := (true, "d0097fb70373f048c5a89b87ad8ddd898602397b701dbc3ccc172e44d8143b1c"), looks := false }, kinds := [], alts := [], laidByText := true, laidKinds := [.data, .data, .data, .pinned], laidTests := true, laidLooks := .later }
def DfltFieldsCardSaid : Prop := Claim7.holds Tryz.pinned (.plain (OpenSpec.ofChange dfltFieldsSpec)) dfltFieldsCard

/-- THE TIED CARD OF 'avocetlaw13.DfltValues'. -/
def dfltValuesCard : Claim7 := { stood := { row := dfltValuesRow, standIns := [], harness := (true, "d0097fb70373f048c5a89b87ad8ddd898602397b701dbc3ccc172e44d8143b1c"), looks := false }, kinds := [], alts := [], laidByText := true, laidKinds := [.data, .data, .data, .pinned], laidTests := true, laidLooks := .later }
def DfltValuesCardSaid : Prop := Claim7.holds Tryz.pinned (.plain (OpenSpec.ofChange dfltValuesSpec)) dfltValuesCard

/-- THE SECOND FORM's CARD OF 'avocetlaw12.BuildBuilds'. -/
def buildBuildsUptoCard : Claim7 := { stood := { row := buildBuildsUptoRow, standIns := [], harness := (true, "d0097fb70373f048c5a89b87ad8ddd898602397b701dbc3ccc172e44d8143b1c"), looks := false }, kinds := [], alts := [], laidByText := true, laidKinds := [.data, .data, .data, .data, .pinned], laidTests := true, laidLooks := .later }
def BuildBuildsUptoCardSaid : Prop := Claim7.holds Tryz.pinned (.plain (OpenSpec.upto buildBuildsSpec)) buildBuildsUptoCard

/-- THE SECOND FORM's CARD OF 'avocetlaw13.DfltSays'. -/
def dfltSaysUptoCard : Claim7 := { stood := { row := dfltSaysUptoRow, standIns := [], harness := (true, "d0097fb70373f048c5a89b87ad8ddd898602397b701dbc3ccc172e44d8143b1c"), looks := false }, kinds := [], alts := [], laidByText := true, laidKinds := [.data, .data, .data, .pinned], laidTests := true, laidLooks := .later }
def DfltSaysUptoCardSaid : Prop := Claim7.holds Tryz.pinned (.plain (OpenSpec.upto dfltSaysSpec)) dfltSaysUptoCard

/-- THE SECOND FORM's CARD OF 'avocetlaw13.DfltFields'. -/
def dfltFieldsUptoCard : Claim7 := { stood := { row := dfltFieldsUptoRow, standIns := [], harness := (true, "d0097fb70373f048c5a89b87ad8ddd898602397b701dbc3ccc172e44d8143b1c"), looks := false }, kinds := [], alts := [], laidByText := true, laidKinds := [.data, .data, .data, .pinned], laidTests := true, laidLooks := .later }
def DfltFieldsUptoCardSaid : Prop := Claim7.holds Tryz.pinned (.plain (OpenSpec.upto dfltFieldsSpec)) dfltFieldsUptoCard

/-- THE SECOND FORM's CARD OF 'avocetlaw13.DfltValues'. -/
def dfltValuesUptoCard : Claim7 := { stood := { row := dfltValuesUptoRow, standIns := [], harness := (true, "d0097fb70373f048c5a89b87ad8ddd898602397b701dbc3ccc172e44d8143b1c"), looks := false }, kinds := [], alts := [], laidByText := true, laidKinds := [.data, .data, .data, .pinned], laidTests := true, laidLooks := .later }
def DfltValuesUptoCardSaid : Prop := Claim7.holds Tryz.pinned (.plain (OpenSpec.upto dfltValuesSpec)) dfltValuesUptoCard
end Rows
end Go.Proofs.YthfoomobicbcpaaGreatDoor
