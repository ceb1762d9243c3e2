/-
  DERIVED. GIVEN WITH THE SEED: THE CARDS: each row of YtkngafnfenmfeaaDoorRows.lean that lists a variable, with what it lists TIED to the program's text (the seventh form; the later family's looks); each row that meets fmt, with fmt's text TOLD by the authors' own Lean function (tested against real Go, not proved from fmt's source: count such statements apart). THE CARD IS WHAT COUNTS. Prove the row's statement (the work); the ties are given (YtkngafnfenmfeaaDoorTie.lean); close each card by the builder's one call (the guide's Derived/Test/ToyasCard.lean, 'card_holds'). Laid BY PROGRAM, IN A SANDBOX (cutbox-door.mjs). By AI agents, Wed Nov 11 2026. No macro, syntax, notation, axiom, sorry.
-/
import Derived.Test.YtkngafnfenmfeaaDoorRows
import GoSem.ClaimSeven
namespace Go.Proofs.YtkngafnfenmfeaaDoor
namespace Rows

/-- THE TIED CARD OF 'courierlaw14.OutboxOrder'. -/
def outboxOrderCard : Claim7 := { stood := { row := outboxOrderRow, standIns := [], harness := (true, "84afda66a0e70258518faa75ea4af253cf9a8242e0f29c25b86e127822b020fb"), looks := true }, kinds := [], alts := [], laidByText := true, laidKinds := [.data], laidTests := true, laidLooks := .later }
def OutboxOrderCardSaid : Prop := Claim7.holds Tryd.pinned (.plain (OpenSpec.ofChange outboxOrderSpec)) outboxOrderCard

/-- THE TIED CARD OF 'courierlaw14.OutboxZero'. -/
def outboxZeroCard : Claim7 := { stood := { row := outboxZeroRow, standIns := [], harness := (true, "84afda66a0e70258518faa75ea4af253cf9a8242e0f29c25b86e127822b020fb"), looks := true }, kinds := [], alts := [], laidByText := true, laidKinds := [.data], laidTests := true, laidLooks := .later }
def OutboxZeroCardSaid : Prop := Claim7.holds Tryd.pinned (.plain (OpenSpec.ofChange outboxZeroSpec)) outboxZeroCard

/-- THE TIED CARD OF 'courierlaw14.OutboxBack'. -/
def outboxBackCard : Claim7 := { stood := { row := outboxBackRow, standIns := [], harness := (true, "84afda66a0e70258518faa75ea4af253cf9a8242e0f29c25b86e127822b020fb"), looks := true }, kinds := [], alts := [], laidByText := true, laidKinds := [.data], laidTests := true, laidLooks := .later }
def OutboxBackCardSaid : Prop := Claim7.holds Tryd.pinned (.plain (OpenSpec.ofChange outboxBackSpec)) outboxBackCard

/-- THE TIED CARD OF 'courierlaw14.OutboxLoads'. -/
def outboxLoadsCard : Claim7 := { stood := { row := outboxLoadsRow, standIns := [], harness := (true, "84afda66a0e70258518faa75ea4af253cf9a8242e0f29c25b86e127822b020fb"), looks := true }, kinds := [], alts := [], laidByText := true, laidKinds := [.data], laidTests := true, laidLooks := .later }
def OutboxLoadsCardSaid : Prop := Claim7.holds Tryd.pinned (.plain (OpenSpec.ofChange outboxLoadsSpec)) outboxLoadsCard

/-- THE TIED CARD OF 'courierlaw14.OutboxOnce'. -/
def outboxOnceCard : Claim7 := { stood := { row := outboxOnceRow, standIns := [], harness := (true, "84afda66a0e70258518faa75ea4af253cf9a8242e0f29c25b86e127822b020fb"), looks := true }, kinds := [], alts := [], laidByText := true, laidKinds := [.data], laidTests := true, laidLooks := .later }
def OutboxOnceCardSaid : Prop := Claim7.holds Tryd.pinned (.plain (OpenSpec.ofChange outboxOnceSpec)) outboxOnceCard

/-- THE SECOND FORM's CARD OF 'courierlaw14.OutboxOrder'. -/
def outboxOrderUptoCard : Claim7 := { stood := { row := outboxOrderUptoRow, standIns := [], harness := (true, "84afda66a0e70258518faa75ea4af253cf9a8242e0f29c25b86e127822b020fb"), looks := true }, kinds := [], alts := [], laidByText := true, laidKinds := [.data], laidTests := true, laidLooks := .later }
def OutboxOrderUptoCardSaid : Prop := Claim7.holds Tryd.pinned (.plain (OpenSpec.upto outboxOrderSpec)) outboxOrderUptoCard

/-- THE SECOND FORM's CARD OF 'courierlaw14.OutboxZero'. -/
def outboxZeroUptoCard : Claim7 := { stood := { row := outboxZeroUptoRow, standIns := [], harness := (true, "84afda66a0e70258518faa75ea4af253cf9a8242e0f29c25b86e127822b020fb"), looks := true }, kinds := [], alts := [], laidByText := true, laidKinds := [.data], laidTests := true, laidLooks := .later }
def OutboxZeroUptoCardSaid : Prop := Claim7.holds Tryd.pinned (.plain (OpenSpec.upto outboxZeroSpec)) outboxZeroUptoCard

/-- THE SECOND FORM's CARD OF 'courierlaw14.OutboxBack'. -/
def outboxBackUptoCard : Claim7 := { stood := { row := outboxBackUptoRow, standIns := [], harness := (true, "84afda66a0e70258518faa75ea4af253cf9a8242e0f29c25b86e127822b020fb"), looks := true }, kinds := [], alts := [], laidByText := true, laidKinds := [.data], laidTests := true, laidLooks := .later }
def OutboxBackUptoCardSaid : Prop := Claim7.holds Tryd.pinned (.plain (OpenSpec.upto outboxBackSpec)) outboxBackUptoCard

/-- THE SECOND FORM's CARD OF 'courierlaw14.OutboxLoads'. -/
def outboxLoadsUptoCard : Claim7 := { stood := { row := outboxLoadsUptoRow, standIns := [], harness := (true, "84afda66a0e70258518faa75ea4af253cf9a8242e0f29c25b86e127822b020fb"), looks := true }, kinds := [], alts := [], laidByText := true, laidKinds := [.data], laidTests := true, laidLooks := .later }
def OutboxLoadsUptoCardSaid : Prop := Claim7.holds Tryd.pinned (.plain (OpenSpec.upto outboxLoadsSpec)) outboxLoadsUptoCard

/-- THE SECOND FORM's CARD OF 'courierlaw14.OutboxOnce'. -/
def outboxOnceUptoCard : Claim7 := { stood := { row := outboxOnceUptoRow, standIns := [], harness := (true, "84afda66a0e70258518faa75ea4af253cf9a8242e0f29c25b86e127822b020fb"), looks := true }, kinds := [], alts := [], laidByText := true, laidKinds := [.data], laidTests := true, laidLooks := .later }
def OutboxOnceUptoCardSaid : Prop := Claim7.holds Tryd.pinned (.plain (OpenSpec.upto outboxOnceSpec)) outboxOnceUptoCard
end Rows
end Go.Proofs.YtkngafnfenmfeaaDoor
