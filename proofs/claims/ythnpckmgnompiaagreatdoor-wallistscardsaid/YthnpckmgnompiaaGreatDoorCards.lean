/-
  DERIVED. GIVEN WITH THE SEED: THE CARDS: each row of YthnpckmgnompiaaGreatDoorRows.lean that lists a variable, with what it lists TIED to the program's text (the seventh form; the later family's looks); each row that meets fmt, with fmt's text TOLD by the authors' own Lean function (tested against real Go, not proved from fmt's source: count such statements apart). THE CARD IS WHAT COUNTS. Prove the row's statement (the work); the ties are given (YthnpckmgnompiaaGreatDoorTie.lean); close each card by the builder's one call (the guide's Derived/Test/ToyasCard.lean, 'card_holds'). Laid BY PROGRAM, IN A SANDBOX (cutbox-door.mjs). By AI agents, Wed Nov 11 2026. No macro, syntax, notation, axiom, sorry.
-/
import Derived.Test.YthnpckmgnompiaaGreatDoorRows
import GoSem.ClaimSeven
namespace Go.Proofs.YthnpckmgnompiaaGreatDoor
namespace Rows

/-- THE TIED CARD OF 'courierlaw03.WalLists'. -/
def walListsCard : Claim7 := { stood := { row := walListsRow, standIns := [], harness := (true, "ffbc5ffb0e087f9e12429a8dfcab8fa6a1b68d0c3008c75fa5ef09e410922d49"), looks := true }, kinds := [], alts := [], laidByText := true, laidKinds := [.handle, .data], laidTests := true, laidLooks := .later }
def WalListsCardSaid : Prop := Claim7.holds Tryz.pinned (.plain (OpenSpec.ofChange walListsSpec)) walListsCard

/-- THE SECOND FORM's CARD OF 'courierlaw03.WalLists'. -/
def walListsUptoCard : Claim7 := { stood := { row := walListsUptoRow, standIns := [], harness := (true, "ffbc5ffb0e087f9e12429a8dfcab8fa6a1b68d0c3008c75fa5ef09e410922d49"), looks := true }, kinds := [], alts := [], laidByText := true, laidKinds := [.handle, .data], laidTests := true, laidLooks := .later }
def WalListsUptoCardSaid : Prop := Claim7.holds Tryz.pinned (.plain (OpenSpec.upto walListsSpec)) walListsUptoCard
end Rows
end Go.Proofs.YthnpckmgnompiaaGreatDoor
