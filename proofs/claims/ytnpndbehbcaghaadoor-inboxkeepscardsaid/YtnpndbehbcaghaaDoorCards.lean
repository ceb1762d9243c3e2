/-
  DERIVED. GIVEN WITH THE SEED: THE CARDS: each row of YtnpndbehbcaghaaDoorRows.lean that lists a variable, with what it lists TIED to the program's text (the seventh form; the later family's looks); each row that meets fmt, with fmt's text TOLD by the authors' own Lean function (tested against real Go, not proved from fmt's source: count such statements apart). THE CARD IS WHAT COUNTS. Prove the row's statement (the work); the ties are given (YtnpndbehbcaghaaDoorTie.lean); close each card by the builder's one call (the guide's Derived/Test/ToyasCard.lean, 'card_holds'). Laid BY PROGRAM, IN A SANDBOX (cutbox-door.mjs). By AI agents, Wed Nov 11 2026. No macro, syntax, notation, axiom, sorry.
-/
import Derived.Test.YtnpndbehbcaghaaDoorRows
import GoSem.ClaimSeven
namespace Go.Proofs.YtnpndbehbcaghaaDoor
namespace Rows

/-- THE TIED CARD OF 'courierlaw15.InboxKeeps'. -/
def inboxKeepsCard : Claim7 := { stood := { row := inboxKeepsRow, standIns := [], harness := (true, "6526071bc5a3109115273083aab732cc5b8e22a6946b8bbb7a5504ed09b7c649"), looks := true }, kinds := [], alts := [], laidByText := true, laidKinds := [.data], laidTests := true, laidLooks := .later }
def InboxKeepsCardSaid : Prop := Claim7.holds Tryd.pinned (.plain (OpenSpec.ofChange inboxKeepsSpec)) inboxKeepsCard

/-- THE TIED CARD OF 'courierlaw15.InboxAnew'. -/
def inboxAnewCard : Claim7 := { stood := { row := inboxAnewRow, standIns := [], harness := (true, "6526071bc5a3109115273083aab732cc5b8e22a6946b8bbb7a5504ed09b7c649"), looks := true }, kinds := [], alts := [], laidByText := true, laidKinds := [.handle], laidTests := true, laidLooks := .later }
def InboxAnewCardSaid : Prop := Claim7.holds Tryd.pinned (.plain (OpenSpec.ofChange inboxAnewSpec)) inboxAnewCard

/-- THE TIED CARD OF 'courierlaw15.InboxMade'. -/
def inboxMadeCard : Claim7 := { stood := { row := inboxMadeRow, standIns := [], harness := (true, "6526071bc5a3109115273083aab732cc5b8e22a6946b8bbb7a5504ed09b7c649"), looks := true }, kinds := [], alts := [], laidByText := true, laidKinds := [.handle], laidTests := true, laidLooks := .later }
def InboxMadeCardSaid : Prop := Claim7.holds Tryd.pinned (.plain (OpenSpec.ofChange inboxMadeSpec)) inboxMadeCard

/-- THE TIED CARD OF 'courierlaw15.InboxLoads'. -/
def inboxLoadsCard : Claim7 := { stood := { row := inboxLoadsRow, standIns := [], harness := (true, "6526071bc5a3109115273083aab732cc5b8e22a6946b8bbb7a5504ed09b7c649"), looks := true }, kinds := [], alts := [], laidByText := true, laidKinds := [.handle], laidTests := true, laidLooks := .later }
def InboxLoadsCardSaid : Prop := Claim7.holds Tryd.pinned (.plain (OpenSpec.ofChange inboxLoadsSpec)) inboxLoadsCard

/-- THE SECOND FORM's CARD OF 'courierlaw15.InboxKeeps'. -/
def inboxKeepsUptoCard : Claim7 := { stood := { row := inboxKeepsUptoRow, standIns := [], harness := (true, "6526071bc5a3109115273083aab732cc5b8e22a6946b8bbb7a5504ed09b7c649"), looks := true }, kinds := [], alts := [], laidByText := true, laidKinds := [.data], laidTests := true, laidLooks := .later }
def InboxKeepsUptoCardSaid : Prop := Claim7.holds Tryd.pinned (.plain (OpenSpec.upto inboxKeepsSpec)) inboxKeepsUptoCard

/-- THE SECOND FORM's CARD OF 'courierlaw15.InboxAnew'. -/
def inboxAnewUptoCard : Claim7 := { stood := { row := inboxAnewUptoRow, standIns := [], harness := (true, "6526071bc5a3109115273083aab732cc5b8e22a6946b8bbb7a5504ed09b7c649"), looks := true }, kinds := [], alts := [], laidByText := true, laidKinds := [.handle], laidTests := true, laidLooks := .later }
def InboxAnewUptoCardSaid : Prop := Claim7.holds Tryd.pinned (.plain (OpenSpec.upto inboxAnewSpec)) inboxAnewUptoCard

/-- THE SECOND FORM's CARD OF 'courierlaw15.InboxMade'. -/
def inboxMadeUptoCard : Claim7 := { stood := { row := inboxMadeUptoRow, standIns := [], harness := (true, "6526071bc5a3109115273083aab732cc5b8e22a6946b8bbb7a5504ed09b7c649"), looks := true }, kinds := [], alts := [], laidByText := true, laidKinds := [.handle], laidTests := true, laidLooks := .later }
def InboxMadeUptoCardSaid : Prop := Claim7.holds Tryd.pinned (.plain (OpenSpec.upto inboxMadeSpec)) inboxMadeUptoCard

/-- THE SECOND FORM's CARD OF 'courierlaw15.InboxLoads'. -/
def inboxLoadsUptoCard : Claim7 := { stood := { row := inboxLoadsUptoRow, standIns := [], harness := (true, "6526071bc5a3109115273083aab732cc5b8e22a6946b8bbb7a5504ed09b7c649"), looks := true }, kinds := [], alts := [], laidByText := true, laidKinds := [.handle], laidTests := true, laidLooks := .later }
def InboxLoadsUptoCardSaid : Prop := Claim7.holds Tryd.pinned (.plain (OpenSpec.upto inboxLoadsSpec)) inboxLoadsUptoCard
end Rows
end Go.Proofs.YtnpndbehbcaghaaDoor
