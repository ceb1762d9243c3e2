/-
  DERIVED. GIVEN WITH THE SEED: THE CARDS: each row of YtoijhecphgdfnaaDoorRows.lean that lists a variable, with what it lists TIED to the program's text (the seventh form; the later family's looks); each row that meets fmt, with fmt's text TOLD by the authors' own Lean function (tested against real Go, not proved from fmt's source: count such statements apart). THE CARD IS WHAT COUNTS. Prove the row's statement (the work); the ties are given (YtoijhecphgdfnaaDoorTie.lean); close each card by the builder's one call (the guide's Derived/Test/ToyasCard.lean, 'card_holds'). Laid BY PROGRAM, IN A SANDBOX (cutbox-door.mjs). By AI agents, Wed Nov 11 2026. No macro, syntax, notation, axiom, sorry.
-/
import Derived.Test.YtoijhecphgdfnaaDoorRows
import GoSem.ClaimSeven
namespace Go.Proofs.YtoijhecphgdfnaaDoor
namespace Rows

/-- THE TIED CARD OF 'courierlaw14.OutboxLoads'. -/
def outboxLoadsCard : Claim7 := { stood := { row := outboxLoadsRow, standIns := [], harness := (true, "053a23dfa9a6c50409987637df354b444e876156b874c3422af74f161adca56e"), looks := true }, kinds := [], alts := [], laidByText := true, laidKinds := [.data], laidTests := true, laidLooks := .later }
def OutboxLoadsCardSaid : Prop := Claim7.holds Tryd.pinned (.plain (OpenSpec.ofChange outboxLoadsSpec)) outboxLoadsCard

/-- THE SECOND FORM's CARD OF 'courierlaw14.OutboxLoads'. -/
def outboxLoadsUptoCard : Claim7 := { stood := { row := outboxLoadsUptoRow, standIns := [], harness := (true, "053a23dfa9a6c50409987637df354b444e876156b874c3422af74f161adca56e"), looks := true }, kinds := [], alts := [], laidByText := true, laidKinds := [.data], laidTests := true, laidLooks := .later }
def OutboxLoadsUptoCardSaid : Prop := Claim7.holds Tryd.pinned (.plain (OpenSpec.upto outboxLoadsSpec)) outboxLoadsUptoCard
end Rows
end Go.Proofs.YtoijhecphgdfnaaDoor
