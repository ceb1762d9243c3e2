/-
  DERIVED. GIVEN WITH THE SEED: THE CARDS: each row of YtelhiihbgnfpiaaDoorRows.lean that lists a variable, with what it lists TIED to the program's text (the seventh form; the later family's looks); each row that meets fmt, with fmt's text TOLD by the authors' own Lean function (tested against real Go, not proved from fmt's source: count such statements apart). THE CARD IS WHAT COUNTS. Prove the row's statement (the work); the ties are given (YtelhiihbgnfpiaaDoorTie.lean); close each card by the builder's one call (the guide's Derived/Test/ToyasCard.lean, 'card_holds'). Laid BY PROGRAM, IN A SANDBOX (cutbox-door.mjs). By AI agents, Wed Nov 11 2026. No macro, syntax, notation, axiom, sorry.
-/
import Derived.Test.YtelhiihbgnfpiaaDoorRows
import GoSem.ClaimSeven
namespace Go.Proofs.YtelhiihbgnfpiaaDoor
namespace Rows

/-- THE TIED CARD OF 'courierlaw15.InboxAnew'. -/
def inboxAnewCard : Claim7 := { stood := { row := inboxAnewRow, standIns := [], harness := (true, "94b468cecd59cf56fec8677cd75c4ad41b8676c70a800e9445d046c3c9bcfc7b"), looks := true }, kinds := [], alts := [], laidByText := true, laidKinds := [.handle], laidTests := true, laidLooks := .later }
def InboxAnewCardSaid : Prop := Claim7.holds Tryd.pinned (.plain (OpenSpec.ofChange inboxAnewSpec)) inboxAnewCard

/-- THE SECOND FORM's CARD OF 'courierlaw15.InboxAnew'. -/
def inboxAnewUptoCard : Claim7 := { stood := { row := inboxAnewUptoRow, standIns := [], harness := (true, "94b468cecd59cf56fec8677cd75c4ad41b8676c70a800e9445d046c3c9bcfc7b"), looks := true }, kinds := [], alts := [], laidByText := true, laidKinds := [.handle], laidTests := true, laidLooks := .later }
def InboxAnewUptoCardSaid : Prop := Claim7.holds Tryd.pinned (.plain (OpenSpec.upto inboxAnewSpec)) inboxAnewUptoCard
end Rows
end Go.Proofs.YtelhiihbgnfpiaaDoor
