/-
  DERIVED. GIVEN WITH THE SEED: THE CARDS: each row of YtjbkfppibnlmoaaDoorRows.lean that lists a variable, with what it lists TIED to the program's text (the seventh form; the later family's looks); each row that meets fmt, with fmt's text TOLD by the authors' own Lean function (tested against real Go, not proved from fmt's source: count such statements apart). THE CARD IS WHAT COUNTS. Prove the row's statement (the work); the ties are given (YtjbkfppibnlmoaaDoorTie.lean); close each card by the builder's one call (the guide's Derived/Test/ToyasCard.lean, 'card_holds'). Laid BY PROGRAM, IN A SANDBOX (cutbox-door.mjs). By AI agents, Wed Nov 11 2026. No macro, syntax, notation, axiom, sorry.
-/
import Derived.Test.YtjbkfppibnlmoaaDoorRows
import GoSem.ClaimSeven
namespace Go.Proofs.YtjbkfppibnlmoaaDoor
namespace Rows

/-- THE TIED CARD OF 'courierlaw15.InboxLoads'. -/
def inboxLoadsCard : Claim7 := { stood := { row := inboxLoadsRow, standIns := [], harness := (true, "435e46e38f8c9ada7d1451bedd804420e1814d244cb955b37afe86bbd34a2b59"), looks := true }, kinds := [], alts := [], laidByText := true, laidKinds := [.handle], laidTests := true, laidLooks := .later }
def InboxLoadsCardSaid : Prop := Claim7.holds Tryd.pinned (.plain (OpenSpec.ofChange inboxLoadsSpec)) inboxLoadsCard

/-- THE SECOND FORM's CARD OF 'courierlaw15.InboxLoads'. -/
def inboxLoadsUptoCard : Claim7 := { stood := { row := inboxLoadsUptoRow, standIns := [], harness := (true, "435e46e38f8c9ada7d1451bedd804420e1814d244cb955b37afe86bbd34a2b59"), looks := true }, kinds := [], alts := [], laidByText := true, laidKinds := [.handle], laidTests := true, laidLooks := .later }
def InboxLoadsUptoCardSaid : Prop := Claim7.holds Tryd.pinned (.plain (OpenSpec.upto inboxLoadsSpec)) inboxLoadsUptoCard
end Rows
end Go.Proofs.YtjbkfppibnlmoaaDoor
