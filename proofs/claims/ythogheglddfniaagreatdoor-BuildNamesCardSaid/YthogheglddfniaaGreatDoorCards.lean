/-
  DERIVED. GIVEN WITH THE SEED: THE CARDS: each row of YthogheglddfniaaGreatDoorRows.lean that lists a variable, with what it lists TIED to the program's text (the seventh form; the later family's looks); each row that meets fmt, with fmt's text TOLD by the authors' own Lean function (tested against real Go, not proved from fmt's source: count such statements apart). THE CARD IS WHAT COUNTS. Prove the row's statement (the work); the ties are given (YthogheglddfniaaGreatDoorTie.lean); close each card by the builder's one call (the guide's Derived/Test/ToyasCard.lean, 'card_holds'). Laid BY PROGRAM, IN A SANDBOX (cutbox-door.mjs). By AI agents, Wed Nov 11 2026. No macro, syntax, notation, axiom, sorry.
-/
import Derived.Test.YthogheglddfniaaGreatDoorRows
import GoSem.ClaimSeven
namespace Go.Proofs.YthogheglddfniaaGreatDoor
namespace Rows

/-- THE TIED CARD OF 'avocetlaw12.BuildBuilds'. -/
def buildBuildsCard : Claim7 := { stood := { row := buildBuildsRow, standIns := [], harness := (true, "b2db0c4505ccb74f7a58c31400b78dfc0b340e5a3d942c416f67f35126c6c6e1"), looks := false }, kinds := [], alts := [], laidByText := true, laidKinds := [.data, .data, .data, .data, .pinned], laidTests := true, laidLooks := .later }
def BuildBuildsCardSaid : Prop := Claim7.holds Tryz.pinned (.plain (OpenSpec.ofChange buildBuildsSpec)) buildBuildsCard

/-- THE TIED CARD OF 'avocetlaw12.BuildRight'. -/
def buildRightCard : Claim7 := { stood := { row := buildRightRow, standIns := [], harness := (true, "b2db0c4505ccb74f7a58c31400b78dfc0b340e5a3d942c416f67f35126c6c6e1"), looks := false }, kinds := [], alts := [], laidByText := true, laidKinds := [.data, .data, .data, .data, .pinned], laidTests := true, laidLooks := .later }
def BuildRightCardSaid : Prop := Claim7.holds Tryz.pinned (.plain (OpenSpec.ofChange buildRightSpec)) buildRightCard

/-- THE TIED CARD OF 'avocetlaw12.BuildWords'. -/
def buildWordsCard : Claim7 := { stood := { row := buildWordsRow, standIns := [], harness := (true, "b2db0c4505ccb74f7a58c31400b78dfc0b340e5a3d942c416f67f35126c6c6e1"), looks := false }, kinds := [], alts := [], laidByText := true, laidKinds := [.data, .data, .data, .data, .pinned], laidTests := true, laidLooks := .later }
def BuildWordsCardSaid : Prop := Claim7.holds Tryz.pinned (.plain (OpenSpec.ofChange buildWordsSpec)) buildWordsCard

/-- THE TIED CARD OF 'avocetlaw12.BuildNames'. -/
def buildNamesCard : Claim7 := { stood := { row := buildNamesRow, standIns := [], harness := (true, "b2db0c4505ccb74f7a58c31400b78dfc0b340e5a3d942c416f67f35126c6c6e1"), looks := false }, kinds := [], alts := [], laidByText := true, laidKinds := [.data, .data, .data, .data, .pinned], laidTests := true, laidLooks := .later }
def BuildNamesCardSaid : Prop := Claim7.holds Tryz.pinned (.plain (OpenSpec.ofChange buildNamesSpec)) buildNamesCard

/-- THE SECOND FORM's CARD OF 'avocetlaw12.BuildBuilds'. -/
def buildBuildsUptoCard : Claim7 := { stood := { row := buildBuildsUptoRow, standIns := [], harness := (true, "b2db0c4505ccb74f7a58c31400b78dfc0b340e5a3d942c416f67f35126c6c6e1"), looks := false }, kinds := [], alts := [], laidByText := true, laidKinds := [.data, .data, .data, .data, .pinned], laidTests := true, laidLooks := .later }
def BuildBuildsUptoCardSaid : Prop := Claim7.holds Tryz.pinned (.plain (OpenSpec.upto buildBuildsSpec)) buildBuildsUptoCard

/-- THE SECOND FORM's CARD OF 'avocetlaw12.BuildRight'. -/
def buildRightUptoCard : Claim7 := { stood := { row := buildRightUptoRow, standIns := [], harness := (true, "b2db0c4505ccb74f7a58c31400b78dfc0b340e5a3d942c416f67f35126c6c6e1"), looks := false }, kinds := [], alts := [], laidByText := true, laidKinds := [.data, .data, .data, .data, .pinned], laidTests := true, laidLooks := .later }
def BuildRightUptoCardSaid : Prop := Claim7.holds Tryz.pinned (.plain (OpenSpec.upto buildRightSpec)) buildRightUptoCard

/-- THE SECOND FORM's CARD OF 'avocetlaw12.BuildWords'. -/
def buildWordsUptoCard : Claim7 := { stood := { row := buildWordsUptoRow, standIns := [], harness := (true, "b2db0c4505ccb74f7a58c31400b78dfc0b340e5a3d942c416f67f35126c6c6e1"), looks := false }, kinds := [], alts := [], laidByText := true, laidKinds := [.data, .data, .data, .data, .pinned], laidTests := true, laidLooks := .later }
def BuildWordsUptoCardSaid : Prop := Claim7.holds Tryz.pinned (.plain (OpenSpec.upto buildWordsSpec)) buildWordsUptoCard

/-- THE SECOND FORM's CARD OF 'avocetlaw12.BuildNames'. -/
def buildNamesUptoCard : Claim7 := { stood := { row := buildNamesUptoRow, standIns := [], harness := (true, "b2db0c4505ccb74f7a58c31400b78dfc0b340e5a3d942c416f67f35126c6c6e1"), looks := false }, kinds := [], alts := [], laidByText := true, laidKinds := [.data, .data, .data, .data, .pinned], laidTests := true, laidLooks := .later }
def BuildNamesUptoCardSaid : Prop := Claim7.holds Tryz.pinned (.plain (OpenSpec.upto buildNamesSpec)) buildNamesUptoCard
end Rows
end Go.Proofs.YthogheglddfniaaGreatDoor
