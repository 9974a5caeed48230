/-
  DERIVED. GIVEN WITH THE SEED: THE CARDS: each row of YtnfhikgfcdcpoaaDoorRows.lean that lists a variable, with what it lists TIED to the program's text (the seventh form; the later family's looks); each row that meets fmt, with fmt's text TOLD by the authors' own Lean function (tested against real Go, not proved from fmt's source: count such statements apart). THE CARD IS WHAT COUNTS. Prove the row's statement (the work); the ties are given (YtnfhikgfcdcpoaaDoorTie.lean); close each card by the builder's one call (the guide's Derived/Test/ToyasCard.lean, 'card_holds'). Laid BY PROGRAM, IN A SANDBOX (cutbox-door.mjs). By AI agents, Wed Nov 11 2026. No macro, syntax, notation, axiom, sorry.
-/
import Derived.Test.YtnfhikgfcdcpoaaDoorRows
import GoSem.ClaimSeven
namespace Go.Proofs.YtnfhikgfcdcpoaaDoor
namespace Rows

/-- THE TIED CARD OF 'avocetlaw10.SchemaCopies'. -/
def schemaCopiesCard : Claim7 := { stood := { row := schemaCopiesRow, standIns := [], harness := (true, "4076a008b32842bb1560e8c7410401335a3d66e25f507c5c9b755e506f05934d"), looks := false }, kinds := [], alts := [], laidByText := true, laidKinds := [.data, .data, .data, .pinned], laidTests := true, laidLooks := .later }
def SchemaCopiesCardSaid : Prop := Claim7.holds Tryd.pinned (.plain (OpenSpec.ofChange schemaCopiesSpec)) schemaCopiesCard

/-- THE TIED CARD OF 'avocetlaw10.SchemaStands'. -/
def schemaStandsCard : Claim7 := { stood := { row := schemaStandsRow, standIns := [], harness := (true, "4076a008b32842bb1560e8c7410401335a3d66e25f507c5c9b755e506f05934d"), looks := false }, kinds := [], alts := [], laidByText := true, laidKinds := [.data, .data, .data, .pinned], laidTests := true, laidLooks := .later }
def SchemaStandsCardSaid : Prop := Claim7.holds Tryd.pinned (.plain (OpenSpec.ofChange schemaStandsSpec)) schemaStandsCard

/-- THE TIED CARD OF 'avocetlaw10.SchemaWeighs'. -/
def schemaWeighsCard : Claim7 := { stood := { row := schemaWeighsRow, standIns := [], harness := (true, "4076a008b32842bb1560e8c7410401335a3d66e25f507c5c9b755e506f05934d"), looks := false }, kinds := [], alts := [], laidByText := true, laidKinds := [.data, .data, .data, .pinned], laidTests := true, laidLooks := .later }
def SchemaWeighsCardSaid : Prop := Claim7.holds Tryd.pinned (.plain (OpenSpec.ofChange schemaWeighsSpec)) schemaWeighsCard

/-- THE SECOND FORM's CARD OF 'avocetlaw10.SchemaCopies'. -/
def schemaCopiesUptoCard : Claim7 := { stood := { row := schemaCopiesUptoRow, standIns := [], harness := (true, "4076a008b32842bb1560e8c7410401335a3d66e25f507c5c9b755e506f05934d"), looks := false }, kinds := [], alts := [], laidByText := true, laidKinds := [.data, .data, .data, .pinned], laidTests := true, laidLooks := .later }
def SchemaCopiesUptoCardSaid : Prop := Claim7.holds Tryd.pinned (.plain (OpenSpec.upto schemaCopiesSpec)) schemaCopiesUptoCard

/-- THE SECOND FORM's CARD OF 'avocetlaw10.SchemaStands'. -/
def schemaStandsUptoCard : Claim7 := { stood := { row := schemaStandsUptoRow, standIns := [], harness := (true, "4076a008b32842bb1560e8c7410401335a3d66e25f507c5c9b755e506f05934d"), looks := false }, kinds := [], alts := [], laidByText := true, laidKinds := [.data, .data, .data, .pinned], laidTests := true, laidLooks := .later }
def SchemaStandsUptoCardSaid : Prop := Claim7.holds Tryd.pinned (.plain (OpenSpec.upto schemaStandsSpec)) schemaStandsUptoCard

/-- THE SECOND FORM's CARD OF 'avocetlaw10.SchemaWeighs'. -/
def schemaWeighsUptoCard : Claim7 := { stood := { row := schemaWeighsUptoRow, standIns := [], harness := (true, "4076a008b32842bb1560e8c7410401335a3d66e25f507c5c9b755e506f05934d"), looks := false }, kinds := [], alts := [], laidByText := true, laidKinds := [.data, .data, .data, .pinned], laidTests := true, laidLooks := .later }
def SchemaWeighsUptoCardSaid : Prop := Claim7.holds Tryd.pinned (.plain (OpenSpec.upto schemaWeighsSpec)) schemaWeighsUptoCard
end Rows
end Go.Proofs.YtnfhikgfcdcpoaaDoor
