/-
  DERIVED. GIVEN WITH THE SEED: THE CARDS: each row of YthebcghhakfdkaaDoorRows.lean that lists a variable, with what it lists TIED to the program's text (the seventh form; the later family's looks); each row that meets fmt, with fmt's text TOLD by the authors' own Lean function (tested against real Go, not proved from fmt's source: count such statements apart). THE CARD IS WHAT COUNTS. Prove the row's statement (the work); the ties are given (YthebcghhakfdkaaDoorTie.lean); close each card by the builder's one call (the guide's Derived/Test/ToyasCard.lean, 'card_holds'). Laid BY PROGRAM, IN A SANDBOX (cutbox-door.mjs). By AI agents, Wed Nov 11 2026. No macro, syntax, notation, axiom, sorry.
-/
import Derived.Test.YthebcghhakfdkaaDoorRows
import GoSem.ClaimSeven
namespace Go.Proofs.YthebcghhakfdkaaDoor
namespace Rows

/-- THE TIED CARD OF 'avocetlaw09.NamingAsks'. -/
def namingAsksCard : Claim7 := { stood := { row := namingAsksRow, standIns := [], harness := (true, "2972a1357a513a8757d882a7ad785e5e1fa8cdfb05557e286bf1e1b1192e2f43"), looks := false }, kinds := [], alts := [], laidByText := true, laidKinds := [.data, .data, .pinned], laidTests := true, laidLooks := .later }
def NamingAsksCardSaid : Prop := Claim7.holds Tryd.pinned (.plain (OpenSpec.ofChange namingAsksSpec)) namingAsksCard

/-- THE TIED CARD OF 'avocetlaw09.NamingParts'. -/
def namingPartsCard : Claim7 := { stood := { row := namingPartsRow, standIns := [], harness := (true, "2972a1357a513a8757d882a7ad785e5e1fa8cdfb05557e286bf1e1b1192e2f43"), looks := false }, kinds := [], alts := [], laidByText := true, laidKinds := [.data, .data, .pinned], laidTests := true, laidLooks := .later }
def NamingPartsCardSaid : Prop := Claim7.holds Tryd.pinned (.plain (OpenSpec.ofChange namingPartsSpec)) namingPartsCard

/-- THE SECOND FORM's CARD OF 'avocetlaw09.NamingAsks'. -/
def namingAsksUptoCard : Claim7 := { stood := { row := namingAsksUptoRow, standIns := [], harness := (true, "2972a1357a513a8757d882a7ad785e5e1fa8cdfb05557e286bf1e1b1192e2f43"), looks := false }, kinds := [], alts := [], laidByText := true, laidKinds := [.data, .data, .pinned], laidTests := true, laidLooks := .later }
def NamingAsksUptoCardSaid : Prop := Claim7.holds Tryd.pinned (.plain (OpenSpec.upto namingAsksSpec)) namingAsksUptoCard

/-- THE SECOND FORM's CARD OF 'avocetlaw09.NamingParts'. -/
def namingPartsUptoCard : Claim7 := { stood := { row := namingPartsUptoRow, standIns := [], harness := (true, "2972a1357a513a8757d882a7ad785e5e1fa8cdfb05557e286bf1e1b1192e2f43"), looks := false }, kinds := [], alts := [], laidByText := true, laidKinds := [.data, .data, .pinned], laidTests := true, laidLooks := .later }
def NamingPartsUptoCardSaid : Prop := Claim7.holds Tryd.pinned (.plain (OpenSpec.upto namingPartsSpec)) namingPartsUptoCard
end Rows
end Go.Proofs.YthebcghhakfdkaaDoor
