/-
  DERIVED. GIVEN WITH THE SEED: THE CARDS: each row of YtgoknmikpanhbaaDoorRows.lean that lists a variable, with what it lists TIED to the program's text (the seventh form; the later family's looks); each row that meets fmt, with fmt's text TOLD by the authors' own Lean function (tested against real Go, not proved from fmt's source: count such statements apart). THE CARD IS WHAT COUNTS. Prove the row's statement (the work); the ties are given (YtgoknmikpanhbaaDoorTie.lean); close each card by the builder's one call (the guide's Derived/Test/ToyasCard.lean, 'card_holds'). Laid BY PROGRAM, IN A SANDBOX (cutbox-door.mjs). By AI agents, Wed Nov 11 2026. No macro, syntax, notation, axiom, sorry.
-/
import Derived.Test.YtgoknmikpanhbaaDoorRows
import GoSem.ClaimSeven
namespace Go.Proofs.YtgoknmikpanhbaaDoor
namespace Rows

/-- THE TIED CARD OF 'courierlaw15.InboxMade'. -/
def inboxMadeCard : Claim7 := { stood := { row := inboxMadeRow, standIns := [], harness := (true, "41e7a2c248dbd967adab7230b714fada930054c79e6bcfa53149df7f88ba4067"), looks := true }, kinds := [], alts := [], laidByText := true, laidKinds := [.handle], laidTests := true, laidLooks := .later }
def InboxMadeCardSaid : Prop := Claim7.holds Tryd.pinned (.plain (OpenSpec.ofChange inboxMadeSpec)) inboxMadeCard

/-- THE SECOND FORM's CARD OF 'courierlaw15.InboxMade'. -/
def inboxMadeUptoCard : Claim7 := { stood := { row := inboxMadeUptoRow, standIns := [], harness := (true, "41e7a2c248dbd967adab7230b714fada930054c79e6bcfa53149df7f88ba4067"), looks := true }, kinds := [], alts := [], laidByText := true, laidKinds := [.handle], laidTests := true, laidLooks := .later }
def InboxMadeUptoCardSaid : Prop := Claim7.holds Tryd.pinned (.plain (OpenSpec.upto inboxMadeSpec)) inboxMadeUptoCard
end Rows
end Go.Proofs.YtgoknmikpanhbaaDoor
