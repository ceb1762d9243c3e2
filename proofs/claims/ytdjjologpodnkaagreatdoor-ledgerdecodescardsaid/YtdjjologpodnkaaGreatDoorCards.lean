/-
  DERIVED. GIVEN WITH THE SEED: THE CARDS: each row of YtdjjologpodnkaaGreatDoorRows.lean that lists a variable, with what it lists TIED to the program's text (the seventh form; the later family's looks); each row that meets fmt, with fmt's text TOLD by the authors' own Lean function (tested against real Go, not proved from fmt's source: count such statements apart). THE CARD IS WHAT COUNTS. Prove the row's statement (the work); the ties are given (YtdjjologpodnkaaGreatDoorTie.lean); close each card by the builder's one call (the guide's Derived/Test/ToyasCard.lean, 'card_holds'). Laid BY PROGRAM, IN A SANDBOX (cutbox-door.mjs). By AI agents, Wed Nov 11 2026. No macro, syntax, notation, axiom, sorry.
-/
import Derived.Test.YtdjjologpodnkaaGreatDoorRows
import GoSem.ClaimSeven
namespace Go.Proofs.YtdjjologpodnkaaGreatDoor
namespace Rows

/-- THE TIED CARD OF 'courierlaw16.LedgerEncodes'. -/
def ledgerEncodesCard : Claim7 := { stood := { row := ledgerEncodesRow, standIns := [], harness := (true, "563dbf980b865293489ec8948209814123ed33233214d5338a5c5826f11f9e09"), looks := true }, kinds := [], alts := [], laidByText := true, laidKinds := [.handle], laidTests := true, laidLooks := .later }
def LedgerEncodesCardSaid : Prop := Claim7.holds Tryz.pinned (.plain (OpenSpec.ofChange ledgerEncodesSpec)) ledgerEncodesCard

/-- THE TIED CARD OF 'courierlaw16.LedgerDecodes'. -/
def ledgerDecodesCard : Claim7 := { stood := { row := ledgerDecodesRow, standIns := [], harness := (true, "563dbf980b865293489ec8948209814123ed33233214d5338a5c5826f11f9e09"), looks := true }, kinds := [], alts := [], laidByText := true, laidKinds := [.handle], laidTests := true, laidLooks := .later }
def LedgerDecodesCardSaid : Prop := Claim7.holds Tryz.pinned (.plain (OpenSpec.ofChange ledgerDecodesSpec)) ledgerDecodesCard

/-- THE SECOND FORM's CARD OF 'courierlaw16.LedgerEncodes'. -/
def ledgerEncodesUptoCard : Claim7 := { stood := { row := ledgerEncodesUptoRow, standIns := [], harness := (true, "563dbf980b865293489ec8948209814123ed33233214d5338a5c5826f11f9e09"), looks := true }, kinds := [], alts := [], laidByText := true, laidKinds := [.handle], laidTests := true, laidLooks := .later }
def LedgerEncodesUptoCardSaid : Prop := Claim7.holds Tryz.pinned (.plain (OpenSpec.upto ledgerEncodesSpec)) ledgerEncodesUptoCard

/-- THE SECOND FORM's CARD OF 'courierlaw16.LedgerDecodes'. -/
def ledgerDecodesUptoCard : Claim7 := { stood := { row := ledgerDecodesUptoRow, standIns := [], harness := (true, "563dbf980b865293489ec8948209814123ed33233214d5338a5c5826f11f9e09"), looks := true }, kinds := [], alts := [], laidByText := true, laidKinds := [.handle], laidTests := true, laidLooks := .later }
def LedgerDecodesUptoCardSaid : Prop := Claim7.holds Tryz.pinned (.plain (OpenSpec.upto ledgerDecodesSpec)) ledgerDecodesUptoCard
end Rows
end Go.Proofs.YtdjjologpodnkaaGreatDoor
