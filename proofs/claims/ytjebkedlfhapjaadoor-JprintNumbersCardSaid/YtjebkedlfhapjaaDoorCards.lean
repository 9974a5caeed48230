/-
  DERIVED. GIVEN WITH THE SEED: THE CARDS: each row of YtjebkedlfhapjaaDoorRows.lean that lists a variable, with what it lists TIED to the program's text (the seventh form; the later family's looks); each row that meets fmt, with fmt's text TOLD by the authors' own Lean function (tested against real Go, not proved from fmt's source: count such statements apart). THE CARD IS WHAT COUNTS. Prove the row's statement (the work); the ties are given (YtjebkedlfhapjaaDoorTie.lean); close each card by the builder's one call (the guide's Derived/Test/ToyasCard.lean, 'card_holds'). Laid BY PROGRAM, IN A SANDBOX (cutbox-door.mjs). By AI agents, Wed Nov 11 2026. No macro, syntax, notation, axiom, sorry.
-/
import Derived.Test.YtjebkedlfhapjaaDoorRows
import GoSem.ClaimSeven
namespace Go.Proofs.YtjebkedlfhapjaaDoor
namespace Rows

/-- THE TIED CARD OF 'avocetlaw08.JprintPrints'. -/
def jprintPrintsCard : Claim7 := { stood := { row := jprintPrintsRow, standIns := [], harness := (true, "5ce37e7f1fecb6341b956e02cd6453be0a4994f4fdf1a6dadc9d4e9180cc16c2"), looks := false }, kinds := [], alts := [], laidByText := true, laidKinds := [.data, .data, .data, .data, .data], laidTests := true, laidLooks := .later }
def JprintPrintsCardSaid : Prop := Claim7.holds Tryd.pinned (.plain (OpenSpec.ofChange jprintPrintsSpec)) jprintPrintsCard

/-- THE TIED CARD OF 'avocetlaw08.JprintNumbers'. -/
def jprintNumbersCard : Claim7 := { stood := { row := jprintNumbersRow, standIns := [], harness := (true, "5ce37e7f1fecb6341b956e02cd6453be0a4994f4fdf1a6dadc9d4e9180cc16c2"), looks := false }, kinds := [], alts := [], laidByText := true, laidKinds := [.data, .data, .data, .data, .data], laidTests := true, laidLooks := .later }
def JprintNumbersCardSaid : Prop := Claim7.holds Tryd.pinned (.plain (OpenSpec.ofChange jprintNumbersSpec)) jprintNumbersCard

/-- THE TIED CARD OF 'avocetlaw08.JprintBack'. -/
def jprintBackCard : Claim7 := { stood := { row := jprintBackRow, standIns := [], harness := (true, "5ce37e7f1fecb6341b956e02cd6453be0a4994f4fdf1a6dadc9d4e9180cc16c2"), looks := false }, kinds := [], alts := [], laidByText := true, laidKinds := [.data, .data, .data, .data, .data], laidTests := true, laidLooks := .later }
def JprintBackCardSaid : Prop := Claim7.holds Tryd.pinned (.plain (OpenSpec.ofChange jprintBackSpec)) jprintBackCard

/-- THE TIED CARD OF 'avocetlaw08.JprintTexts'. -/
def jprintTextsCard : Claim7 := { stood := { row := jprintTextsRow, standIns := [], harness := (true, "5ce37e7f1fecb6341b956e02cd6453be0a4994f4fdf1a6dadc9d4e9180cc16c2"), looks := false }, kinds := [], alts := [], laidByText := true, laidKinds := [.data, .data, .data, .data, .data], laidTests := true, laidLooks := .later }
def JprintTextsCardSaid : Prop := Claim7.holds Tryd.pinned (.plain (OpenSpec.ofChange jprintTextsSpec)) jprintTextsCard

/-- THE SECOND FORM's CARD OF 'avocetlaw08.JprintPrints'. -/
def jprintPrintsUptoCard : Claim7 := { stood := { row := jprintPrintsUptoRow, standIns := [], harness := (true, "5ce37e7f1fecb6341b956e02cd6453be0a4994f4fdf1a6dadc9d4e9180cc16c2"), looks := false }, kinds := [], alts := [], laidByText := true, laidKinds := [.data, .data, .data, .data, .data], laidTests := true, laidLooks := .later }
def JprintPrintsUptoCardSaid : Prop := Claim7.holds Tryd.pinned (.plain (OpenSpec.upto jprintPrintsSpec)) jprintPrintsUptoCard

/-- THE SECOND FORM's CARD OF 'avocetlaw08.JprintNumbers'. -/
def jprintNumbersUptoCard : Claim7 := { stood := { row := jprintNumbersUptoRow, standIns := [], harness := (true, "5ce37e7f1fecb6341b956e02cd6453be0a4994f4fdf1a6dadc9d4e9180cc16c2"), looks := false }, kinds := [], alts := [], laidByText := true, laidKinds := [.data, .data, .data, .data, .data], laidTests := true, laidLooks := .later }
def JprintNumbersUptoCardSaid : Prop := Claim7.holds Tryd.pinned (.plain (OpenSpec.upto jprintNumbersSpec)) jprintNumbersUptoCard

/-- THE SECOND FORM's CARD OF 'avocetlaw08.JprintBack'. -/
def jprintBackUptoCard : Claim7 := { stood := { row := jprintBackUptoRow, standIns := [], harness := (true, "5ce37e7f1fecb6341b956e02cd6453be0a4994f4fdf1a6dadc9d4e9180cc16c2"), looks := false }, kinds := [], alts := [], laidByText := true, laidKinds := [.data, .data, .data, .data, .data], laidTests := true, laidLooks := .later }
def JprintBackUptoCardSaid : Prop := Claim7.holds Tryd.pinned (.plain (OpenSpec.upto jprintBackSpec)) jprintBackUptoCard

/-- THE SECOND FORM's CARD OF 'avocetlaw08.JprintTexts'. -/
def jprintTextsUptoCard : Claim7 := { stood := { row := jprintTextsUptoRow, standIns := [], harness := (true, "5ce37e7f1fecb6341b956e02cd6453be0a4994f4fdf1a6dadc9d4e9180cc16c2"), looks := false }, kinds := [], alts := [], laidByText := true, laidKinds := [.data, .data, .data, .data, .data], laidTests := true, laidLooks := .later }
def JprintTextsUptoCardSaid : Prop := Claim7.holds Tryd.pinned (.plain (OpenSpec.upto jprintTextsSpec)) jprintTextsUptoCard
end Rows
end Go.Proofs.YtjebkedlfhapjaaDoor
