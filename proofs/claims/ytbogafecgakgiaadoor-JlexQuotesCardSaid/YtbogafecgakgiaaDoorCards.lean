/-
  DERIVED. GIVEN WITH THE SEED: THE CARDS: each row of YtbogafecgakgiaaDoorRows.lean that lists a variable, with what it lists TIED to the program's text (the seventh form; the later family's looks); each row that meets fmt, with fmt's text TOLD by the authors' own Lean function (tested against real Go, not proved from fmt's source: count such statements apart). THE CARD IS WHAT COUNTS. Prove the row's statement (the work); the ties are given (YtbogafecgakgiaaDoorTie.lean); close each card by the builder's one call (the guide's Derived/Test/ToyasCard.lean, 'card_holds'). Laid BY PROGRAM, IN A SANDBOX (cutbox-door.mjs). By AI agents, Wed Nov 11 2026. No macro, syntax, notation, axiom, sorry.
-/
import Derived.Test.YtbogafecgakgiaaDoorRows
import GoSem.ClaimSeven
namespace Go.Proofs.YtbogafecgakgiaaDoor
namespace Rows

/-- THE TIED CARD OF 'avocetlaw06.JlexTakes'. -/
def jlexTakesCard : Claim7 := { stood := { row := jlexTakesRow, standIns := [], harness := (true, "ef0eae9bff2b0dc0b3c9028a7b154e2eba3b6cc251b6a63b3a3ee1b7bf5d1d13"), looks := false }, kinds := [], alts := [], laidByText := true, laidKinds := [.data, .data], laidTests := true, laidLooks := .later }
def JlexTakesCardSaid : Prop := Claim7.holds Tryd.pinned (.plain (OpenSpec.ofChange jlexTakesSpec)) jlexTakesCard

/-- THE TIED CARD OF 'avocetlaw06.JlexQuotes'. -/
def jlexQuotesCard : Claim7 := { stood := { row := jlexQuotesRow, standIns := [], harness := (true, "ef0eae9bff2b0dc0b3c9028a7b154e2eba3b6cc251b6a63b3a3ee1b7bf5d1d13"), looks := false }, kinds := [], alts := [], laidByText := true, laidKinds := [.data, .data], laidTests := true, laidLooks := .later }
def JlexQuotesCardSaid : Prop := Claim7.holds Tryd.pinned (.plain (OpenSpec.ofChange jlexQuotesSpec)) jlexQuotesCard

/-- THE TIED CARD OF 'avocetlaw06.JlexBack'. -/
def jlexBackCard : Claim7 := { stood := { row := jlexBackRow, standIns := [], harness := (true, "ef0eae9bff2b0dc0b3c9028a7b154e2eba3b6cc251b6a63b3a3ee1b7bf5d1d13"), looks := false }, kinds := [], alts := [], laidByText := true, laidKinds := [.data, .data], laidTests := true, laidLooks := .later }
def JlexBackCardSaid : Prop := Claim7.holds Tryd.pinned (.plain (OpenSpec.ofChange jlexBackSpec)) jlexBackCard

/-- THE TIED CARD OF 'avocetlaw06.JlexWhite'. -/
def jlexWhiteCard : Claim7 := { stood := { row := jlexWhiteRow, standIns := [], harness := (true, "ef0eae9bff2b0dc0b3c9028a7b154e2eba3b6cc251b6a63b3a3ee1b7bf5d1d13"), looks := false }, kinds := [], alts := [], laidByText := true, laidKinds := [.data, .data], laidTests := true, laidLooks := .later }
def JlexWhiteCardSaid : Prop := Claim7.holds Tryd.pinned (.plain (OpenSpec.ofChange jlexWhiteSpec)) jlexWhiteCard

/-- THE SECOND FORM's CARD OF 'avocetlaw06.JlexTakes'. -/
def jlexTakesUptoCard : Claim7 := { stood := { row := jlexTakesUptoRow, standIns := [], harness := (true, "ef0eae9bff2b0dc0b3c9028a7b154e2eba3b6cc251b6a63b3a3ee1b7bf5d1d13"), looks := false }, kinds := [], alts := [], laidByText := true, laidKinds := [.data, .data], laidTests := true, laidLooks := .later }
def JlexTakesUptoCardSaid : Prop := Claim7.holds Tryd.pinned (.plain (OpenSpec.upto jlexTakesSpec)) jlexTakesUptoCard

/-- THE SECOND FORM's CARD OF 'avocetlaw06.JlexQuotes'. -/
def jlexQuotesUptoCard : Claim7 := { stood := { row := jlexQuotesUptoRow, standIns := [], harness := (true, "ef0eae9bff2b0dc0b3c9028a7b154e2eba3b6cc251b6a63b3a3ee1b7bf5d1d13"), looks := false }, kinds := [], alts := [], laidByText := true, laidKinds := [.data, .data], laidTests := true, laidLooks := .later }
def JlexQuotesUptoCardSaid : Prop := Claim7.holds Tryd.pinned (.plain (OpenSpec.upto jlexQuotesSpec)) jlexQuotesUptoCard

/-- THE SECOND FORM's CARD OF 'avocetlaw06.JlexBack'. -/
def jlexBackUptoCard : Claim7 := { stood := { row := jlexBackUptoRow, standIns := [], harness := (true, "ef0eae9bff2b0dc0b3c9028a7b154e2eba3b6cc251b6a63b3a3ee1b7bf5d1d13"), looks := false }, kinds := [], alts := [], laidByText := true, laidKinds := [.data, .data], laidTests := true, laidLooks := .later }
def JlexBackUptoCardSaid : Prop := Claim7.holds Tryd.pinned (.plain (OpenSpec.upto jlexBackSpec)) jlexBackUptoCard

/-- THE SECOND FORM's CARD OF 'avocetlaw06.JlexWhite'. -/
def jlexWhiteUptoCard : Claim7 := { stood := { row := jlexWhiteUptoRow, standIns := [], harness := (true, "ef0eae9bff2b0dc0b3c9028a7b154e2eba3b6cc251b6a63b3a3ee1b7bf5d1d13"), looks := false }, kinds := [], alts := [], laidByText := true, laidKinds := [.data, .data], laidTests := true, laidLooks := .later }
def JlexWhiteUptoCardSaid : Prop := Claim7.holds Tryd.pinned (.plain (OpenSpec.upto jlexWhiteSpec)) jlexWhiteUptoCard
end Rows
end Go.Proofs.YtbogafecgakgiaaDoor
