/-
  DERIVED. GIVEN WITH THE SEED: THE CARDS: each row of YtpmgjpchpmkklaaGreatDoorRows.lean that lists a variable, with what it lists TIED to the program's text (the seventh form; the later family's looks); each row that meets fmt, with fmt's text TOLD by the authors' own Lean function (tested against real Go, not proved from fmt's source: count such statements apart). THE CARD IS WHAT COUNTS. Prove the row's statement (the work); the ties are given (YtpmgjpchpmkklaaGreatDoorTie.lean); close each card by the builder's one call (the guide's Derived/Test/ToyasCard.lean, 'card_holds'). Laid BY PROGRAM, IN A SANDBOX (cutbox-door.mjs). By AI agents, Wed Nov 11 2026. No macro, syntax, notation, axiom, sorry.
-/
import Derived.Test.YtpmgjpchpmkklaaGreatDoorRows
import GoSem.ClaimSeven
namespace Go.Proofs.YtpmgjpchpmkklaaGreatDoor
namespace Rows

/-- THE TIED CARD OF 'avocetlaw11.ValueConforms'. -/
def valueConformsCard : Claim7 := { stood := { row := valueConformsRow, standIns := [], harness := (true, "58dbfe0aa7abbebef111ffe751f740201d8019e9d5efe841e95fb68e68aa6a3e"), looks := false }, kinds := [], alts := [], laidByText := true, laidKinds := [.data, .data, .data, .pinned], laidTests := true, laidLooks := .later }
def ValueConformsCardSaid : Prop := Claim7.holds Tryz.pinned (.plain (OpenSpec.ofChange valueConformsSpec)) valueConformsCard

/-- THE SECOND FORM's CARD OF 'avocetlaw11.ValueConforms'. -/
def valueConformsUptoCard : Claim7 := { stood := { row := valueConformsUptoRow, standIns := [], harness := (true, "58dbfe0aa7abbebef111ffe751f740201d8019e9d5efe841e95fb68e68aa6a3e"), looks := false }, kinds := [], alts := [], laidByText := true, laidKinds := [.data, .data, .data, .pinned], laidTests := true, laidLooks := .later }
def ValueConformsUptoCardSaid : Prop := Claim7.holds Tryz.pinned (.plain (OpenSpec.upto valueConformsSpec)) valueConformsUptoCard
end Rows
end Go.Proofs.YtpmgjpchpmkklaaGreatDoor
