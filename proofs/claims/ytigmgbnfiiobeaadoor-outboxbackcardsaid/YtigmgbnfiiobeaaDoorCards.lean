/-
  DERIVED. GIVEN WITH THE SEED: THE CARDS: each row of YtigmgbnfiiobeaaDoorRows.lean that lists a variable, with what it lists TIED to the program's text (the seventh form; the later family's looks); each row that meets fmt, with fmt's text TOLD by the authors' own Lean function (tested against real Go, not proved from fmt's source: count such statements apart). THE CARD IS WHAT COUNTS. Prove the row's statement (the work); the ties are given (YtigmgbnfiiobeaaDoorTie.lean); close each card by the builder's one call (the guide's Derived/Test/ToyasCard.lean, 'card_holds'). Laid BY PROGRAM, IN A SANDBOX (cutbox-door.mjs). By AI agents, Wed Nov 11 2026. No macro, syntax, notation, axiom, sorry.
-/
import Derived.Test.YtigmgbnfiiobeaaDoorRows
import GoSem.ClaimSeven
namespace Go.Proofs.YtigmgbnfiiobeaaDoor
namespace Rows

/-- THE TIED CARD OF 'courierlaw14.OutboxBack'. -/
def outboxBackCard : Claim7 := { stood := { row := outboxBackRow, standIns := [], harness := (true, "a9d595637215b072b20bd580745e78cace5e9d8d957599443b0486abc284be11"), looks := false }, kinds := [], alts := [], laidByText := true, laidKinds := [.data], laidTests := true, laidLooks := .later }
def OutboxBackCardSaid : Prop := Claim7.holds Tryd.pinned (.plain (OpenSpec.ofChange outboxBackSpec)) outboxBackCard

/-- THE SECOND FORM's CARD OF 'courierlaw14.OutboxBack'. -/
def outboxBackUptoCard : Claim7 := { stood := { row := outboxBackUptoRow, standIns := [], harness := (true, "a9d595637215b072b20bd580745e78cace5e9d8d957599443b0486abc284be11"), looks := false }, kinds := [], alts := [], laidByText := true, laidKinds := [.data], laidTests := true, laidLooks := .later }
def OutboxBackUptoCardSaid : Prop := Claim7.holds Tryd.pinned (.plain (OpenSpec.upto outboxBackSpec)) outboxBackUptoCard
end Rows
end Go.Proofs.YtigmgbnfiiobeaaDoor
