/-
  DERIVED. GIVEN WITH THE SEED: THE CARDS: each row of YtjbkfppibnlmoaaGreatDoorRows.lean that lists a variable, with what it lists TIED to the program's text (the seventh form; the later family's looks); each row that meets fmt, with fmt's text TOLD by the authors' own Lean function (tested against real Go, not proved from fmt's source: count such statements apart). THE CARD IS WHAT COUNTS. Prove the row's statement (the work); the ties are given (YtjbkfppibnlmoaaGreatDoorTie.lean); close each card by the builder's one call (the guide's Derived/Test/ToyasCard.lean, 'card_holds'). Laid BY PROGRAM, IN A SANDBOX (cutbox-door.mjs). By AI agents, Wed Nov 11 2026. No macro, syntax, notation, axiom, sorry.
-/
import Derived.Test.YtjbkfppibnlmoaaGreatDoorRows
import GoSem.ClaimSeven
namespace Go.Proofs.YtjbkfppibnlmoaaGreatDoor
namespace Rows

/-- THE TIED CARD OF 'courierlaw15.InboxExact'. -/
def inboxExactCard : Claim7 := { stood := { row := inboxExactRow, standIns := [], harness := (true, "516aac9c2d031194826bb966512f7a14d6cb4be0d3ff10b965259d5bf8a0a861"), looks := true }, kinds := [], alts := [], laidByText := true, laidKinds := [.handle], laidTests := true, laidLooks := .later }
def InboxExactCardSaid : Prop := Claim7.holds Tryz.pinned (.plain (OpenSpec.ofChange inboxExactSpec)) inboxExactCard

/-- THE SECOND FORM's CARD OF 'courierlaw15.InboxExact'. -/
def inboxExactUptoCard : Claim7 := { stood := { row := inboxExactUptoRow, standIns := [], harness := (true, "516aac9c2d031194826bb966512f7a14d6cb4be0d3ff10b965259d5bf8a0a861"), looks := true }, kinds := [], alts := [], laidByText := true, laidKinds := [.handle], laidTests := true, laidLooks := .later }
def InboxExactUptoCardSaid : Prop := Claim7.holds Tryz.pinned (.plain (OpenSpec.upto inboxExactSpec)) inboxExactUptoCard
end Rows
end Go.Proofs.YtjbkfppibnlmoaaGreatDoor
