/-
  DERIVED. GIVEN WITH THE SEED: THE CARDS: each row of YtoijhecphgdfnaaGreatDoorRows.lean that lists a variable, with what it lists TIED to the program's text (the seventh form; the later family's looks); each row that meets fmt, with fmt's text TOLD by the authors' own Lean function (tested against real Go, not proved from fmt's source: count such statements apart). THE CARD IS WHAT COUNTS. Prove the row's statement (the work); the ties are given (YtoijhecphgdfnaaGreatDoorTie.lean); close each card by the builder's one call (the guide's Derived/Test/ToyasCard.lean, 'card_holds'). Laid BY PROGRAM, IN A SANDBOX (cutbox-door.mjs). By AI agents, Wed Nov 11 2026. No macro, syntax, notation, axiom, sorry.
-/
import Derived.Test.YtoijhecphgdfnaaGreatDoorRows
import GoSem.ClaimSeven
namespace Go.Proofs.YtoijhecphgdfnaaGreatDoor
namespace Rows

/-- THE TIED CARD OF 'courierlaw14.OutboxCalls'. -/
def outboxCallsCard : Claim7 := { stood := { row := outboxCallsRow, standIns := [], harness := (true, "83e0ef9f8174643172e8268c0f210d3a5ee2e6bca2c90d2e25dacc8fd5290bc4"), looks := true }, kinds := [], alts := [], laidByText := true, laidKinds := [.data], laidTests := true, laidLooks := .later }
def OutboxCallsCardSaid : Prop := Claim7.holds Tryz.pinned (.plain (OpenSpec.ofChange outboxCallsSpec)) outboxCallsCard

/-- THE TIED CARD OF 'courierlaw14.OutboxExact'. -/
def outboxExactCard : Claim7 := { stood := { row := outboxExactRow, standIns := [], harness := (true, "83e0ef9f8174643172e8268c0f210d3a5ee2e6bca2c90d2e25dacc8fd5290bc4"), looks := true }, kinds := [], alts := [], laidByText := true, laidKinds := [.data], laidTests := true, laidLooks := .later }
def OutboxExactCardSaid : Prop := Claim7.holds Tryz.pinned (.plain (OpenSpec.ofChange outboxExactSpec)) outboxExactCard

/-- THE TIED CARD OF 'courierlaw14.OutboxPair'. -/
def outboxPairCard : Claim7 := { stood := { row := outboxPairRow, standIns := [], harness := (true, "83e0ef9f8174643172e8268c0f210d3a5ee2e6bca2c90d2e25dacc8fd5290bc4"), looks := true }, kinds := [], alts := [], laidByText := true, laidKinds := [.data], laidTests := true, laidLooks := .later }
def OutboxPairCardSaid : Prop := Claim7.holds Tryz.pinned (.plain (OpenSpec.ofChange outboxPairSpec)) outboxPairCard

/-- THE SECOND FORM's CARD OF 'courierlaw14.OutboxCalls'. -/
def outboxCallsUptoCard : Claim7 := { stood := { row := outboxCallsUptoRow, standIns := [], harness := (true, "83e0ef9f8174643172e8268c0f210d3a5ee2e6bca2c90d2e25dacc8fd5290bc4"), looks := true }, kinds := [], alts := [], laidByText := true, laidKinds := [.data], laidTests := true, laidLooks := .later }
def OutboxCallsUptoCardSaid : Prop := Claim7.holds Tryz.pinned (.plain (OpenSpec.upto outboxCallsSpec)) outboxCallsUptoCard

/-- THE SECOND FORM's CARD OF 'courierlaw14.OutboxExact'. -/
def outboxExactUptoCard : Claim7 := { stood := { row := outboxExactUptoRow, standIns := [], harness := (true, "83e0ef9f8174643172e8268c0f210d3a5ee2e6bca2c90d2e25dacc8fd5290bc4"), looks := true }, kinds := [], alts := [], laidByText := true, laidKinds := [.data], laidTests := true, laidLooks := .later }
def OutboxExactUptoCardSaid : Prop := Claim7.holds Tryz.pinned (.plain (OpenSpec.upto outboxExactSpec)) outboxExactUptoCard

/-- THE SECOND FORM's CARD OF 'courierlaw14.OutboxPair'. -/
def outboxPairUptoCard : Claim7 := { stood := { row := outboxPairUptoRow, standIns := [], harness := (true, "83e0ef9f8174643172e8268c0f210d3a5ee2e6bca2c90d2e25dacc8fd5290bc4"), looks := true }, kinds := [], alts := [], laidByText := true, laidKinds := [.data], laidTests := true, laidLooks := .later }
def OutboxPairUptoCardSaid : Prop := Claim7.holds Tryz.pinned (.plain (OpenSpec.upto outboxPairSpec)) outboxPairUptoCard
end Rows
end Go.Proofs.YtoijhecphgdfnaaGreatDoor
