/-
  DERIVED. GIVEN WITH THE SEED: THE CARDS: each row of YtnilmmfbliogiaaGreatDoorRows.lean that lists a variable, with what it lists TIED to the program's text (the seventh form; the later family's looks); each row that meets fmt, with fmt's text TOLD by the authors' own Lean function (tested against real Go, not proved from fmt's source: count such statements apart). THE CARD IS WHAT COUNTS. Prove the row's statement (the work); the ties are given (YtnilmmfbliogiaaGreatDoorTie.lean); close each card by the builder's one call (the guide's Derived/Test/ToyasCard.lean, 'card_holds'). Laid BY PROGRAM, IN A SANDBOX (cutbox-door.mjs). By AI agents, Wed Nov 11 2026. No macro, syntax, notation, axiom, sorry.
-/
import Derived.Test.YtnilmmfbliogiaaGreatDoorRows
import GoSem.ClaimSeven
namespace Go.Proofs.YtnilmmfbliogiaaGreatDoor
namespace Rows

/-- THE TIED CARD OF 'courierlaw08.TypesDecimals'. -/
def typesDecimalsCard : Claim7 := { stood := { row := typesDecimalsRow, standIns := [], harness := (true, "0ba36f8a1efa5423b40b4017371d23c0eefbc3f22c6ef43e828db57e07d51573"), looks := true }, kinds := [], alts := [], laidByText := true, laidKinds := [.data, .handle, .listed, .data, .data, .data, .pinned], laidTests := true, laidLooks := .later }
def TypesDecimalsCardSaid : Prop := Claim7.holds Tryz.pinned (.plain (OpenSpec.ofChange typesDecimalsSpec)) typesDecimalsCard

/-- THE SECOND FORM's CARD OF 'courierlaw08.TypesDecimals'. -/
def typesDecimalsUptoCard : Claim7 := { stood := { row := typesDecimalsUptoRow, standIns := [], harness := (true, "0ba36f8a1efa5423b40b4017371d23c0eefbc3f22c6ef43e828db57e07d51573"), looks := true }, kinds := [], alts := [], laidByText := true, laidKinds := [.data, .handle, .listed, .data, .data, .data, .pinned], laidTests := true, laidLooks := .later }
def TypesDecimalsUptoCardSaid : Prop := Claim7.holds Tryz.pinned (.plain (OpenSpec.upto typesDecimalsSpec)) typesDecimalsUptoCard
end Rows
end Go.Proofs.YtnilmmfbliogiaaGreatDoor
