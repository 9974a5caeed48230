/-
  DERIVED. GIVEN WITH THE SEED: THE CARDS: each row of YtheeahnhdehloaaDoorRows.lean that lists a variable, with what it lists TIED to the program's text (the seventh form; the later family's looks); each row that meets fmt, with fmt's text TOLD by the authors' own Lean function (tested against real Go, not proved from fmt's source: count such statements apart). THE CARD IS WHAT COUNTS. Prove the row's statement (the work); the ties are given (YtheeahnhdehloaaDoorTie.lean); close each card by the builder's one call (the guide's Derived/Test/ToyasCard.lean, 'card_holds'). Laid BY PROGRAM, IN A SANDBOX (cutbox-door.mjs). By AI agents, Wed Nov 11 2026. No macro, syntax, notation, axiom, sorry.
-/
import Derived.Test.YtheeahnhdehloaaDoorRows
import GoSem.ClaimSeven
namespace Go.Proofs.YtheeahnhdehloaaDoor
namespace Rows

/-- THE TIED CARD OF 'avocetlaw07.JparseParses'. -/
def jparseParsesCard : Claim7 := { stood := { row := jparseParsesRow, standIns := [], harness := (true, "8408de06d59d9bd45d24d27117e7afe51e04403b2159e97fab6d3c134ff3a869"), looks := false }, kinds := [], alts := [], laidByText := true, laidKinds := [.data, .data], laidTests := true, laidLooks := .later }
def JparseParsesCardSaid : Prop := Claim7.holds Tryd.pinned (.plain (OpenSpec.ofChange jparseParsesSpec)) jparseParsesCard

/-- THE TIED CARD OF 'avocetlaw07.JparseAsks'. -/
def jparseAsksCard : Claim7 := { stood := { row := jparseAsksRow, standIns := [], harness := (true, "8408de06d59d9bd45d24d27117e7afe51e04403b2159e97fab6d3c134ff3a869"), looks := false }, kinds := [], alts := [], laidByText := true, laidKinds := [.data, .data], laidTests := true, laidLooks := .later }
def JparseAsksCardSaid : Prop := Claim7.holds Tryd.pinned (.plain (OpenSpec.ofChange jparseAsksSpec)) jparseAsksCard

/-- THE TIED CARD OF 'avocetlaw07.JparseSound'. -/
def jparseSoundCard : Claim7 := { stood := { row := jparseSoundRow, standIns := [], harness := (true, "8408de06d59d9bd45d24d27117e7afe51e04403b2159e97fab6d3c134ff3a869"), looks := false }, kinds := [], alts := [], laidByText := true, laidKinds := [.data, .data], laidTests := true, laidLooks := .later }
def JparseSoundCardSaid : Prop := Claim7.holds Tryd.pinned (.plain (OpenSpec.ofChange jparseSoundSpec)) jparseSoundCard

/-- THE SECOND FORM's CARD OF 'avocetlaw07.JparseParses'. -/
def jparseParsesUptoCard : Claim7 := { stood := { row := jparseParsesUptoRow, standIns := [], harness := (true, "8408de06d59d9bd45d24d27117e7afe51e04403b2159e97fab6d3c134ff3a869"), looks := false }, kinds := [], alts := [], laidByText := true, laidKinds := [.data, .data], laidTests := true, laidLooks := .later }
def JparseParsesUptoCardSaid : Prop := Claim7.holds Tryd.pinned (.plain (OpenSpec.upto jparseParsesSpec)) jparseParsesUptoCard

/-- THE SECOND FORM's CARD OF 'avocetlaw07.JparseAsks'. -/
def jparseAsksUptoCard : Claim7 := { stood := { row := jparseAsksUptoRow, standIns := [], harness := (true, "8408de06d59d9bd45d24d27117e7afe51e04403b2159e97fab6d3c134ff3a869"), looks := false }, kinds := [], alts := [], laidByText := true, laidKinds := [.data, .data], laidTests := true, laidLooks := .later }
def JparseAsksUptoCardSaid : Prop := Claim7.holds Tryd.pinned (.plain (OpenSpec.upto jparseAsksSpec)) jparseAsksUptoCard

/-- THE SECOND FORM's CARD OF 'avocetlaw07.JparseSound'. -/
def jparseSoundUptoCard : Claim7 := { stood := { row := jparseSoundUptoRow, standIns := [], harness := (true, "8408de06d59d9bd45d24d27117e7afe51e04403b2159e97fab6d3c134ff3a869"), looks := false }, kinds := [], alts := [], laidByText := true, laidKinds := [.data, .data], laidTests := true, laidLooks := .later }
def JparseSoundUptoCardSaid : Prop := Claim7.holds Tryd.pinned (.plain (OpenSpec.upto jparseSoundSpec)) jparseSoundUptoCard
end Rows
end Go.Proofs.YtheeahnhdehloaaDoor
