/-
  DERIVED. GIVEN WITH THE SEED: THE CARDS: each row of YtplhdgijjckjcaaGreatDoorRows.lean that lists a variable, with what it lists TIED to the program's text (the seventh form; the later family's looks); each row that meets fmt, with fmt's text TOLD by the authors' own Lean function (tested against real Go, not proved from fmt's source: count such statements apart). THE CARD IS WHAT COUNTS. Prove the row's statement (the work); the ties are given (YtplhdgijjckjcaaGreatDoorTie.lean); close each card by the builder's one call (the guide's Derived/Test/ToyasCard.lean, 'card_holds'). Laid BY PROGRAM, IN A SANDBOX (cutbox-door.mjs). By AI agents, Wed Nov 11 2026. No macro, syntax, notation, axiom, sorry.
-/
import Derived.Test.YtplhdgijjckjcaaGreatDoorRows
import GoSem.ClaimSeven
namespace Go.Proofs.YtplhdgijjckjcaaGreatDoor
namespace Rows

/-- THE TIED CARD OF 'courierlaw15.InboxCalls'. -/
def inboxCallsCard : Claim7 := { stood := { row := inboxCallsRow, standIns := [], harness := (true, "4c078fe324c00d5fc7741dc55bd86518f633b74e4bbb7ed5ec2378d458361624"), looks := true }, kinds := [], alts := [], laidByText := true, laidKinds := [.handle], laidTests := true, laidLooks := .later }
def InboxCallsCardSaid : Prop := Claim7.holds Tryz.pinned (.plain (OpenSpec.ofChange inboxCallsSpec)) inboxCallsCard

/-- THE SECOND FORM's CARD OF 'courierlaw15.InboxCalls'. -/
def inboxCallsUptoCard : Claim7 := { stood := { row := inboxCallsUptoRow, standIns := [], harness := (true, "4c078fe324c00d5fc7741dc55bd86518f633b74e4bbb7ed5ec2378d458361624"), looks := true }, kinds := [], alts := [], laidByText := true, laidKinds := [.handle], laidTests := true, laidLooks := .later }
def InboxCallsUptoCardSaid : Prop := Claim7.holds Tryz.pinned (.plain (OpenSpec.upto inboxCallsSpec)) inboxCallsUptoCard
end Rows
end Go.Proofs.YtplhdgijjckjcaaGreatDoor
