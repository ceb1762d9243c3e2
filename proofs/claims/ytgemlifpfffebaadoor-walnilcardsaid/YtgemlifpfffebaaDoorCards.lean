/-
  DERIVED. GIVEN WITH THE SEED: THE CARDS: each row of YtgemlifpfffebaaDoorRows.lean that lists a variable, with what it lists TIED to the program's text (the seventh form; the later family's looks); each row that meets fmt, with fmt's text TOLD by the authors' own Lean function (tested against real Go, not proved from fmt's source: count such statements apart). THE CARD IS WHAT COUNTS. Prove the row's statement (the work); the ties are given (YtgemlifpfffebaaDoorTie.lean); close each card by the builder's one call (the guide's Derived/Test/ToyasCard.lean, 'card_holds'). Laid BY PROGRAM, IN A SANDBOX (cutbox-door.mjs). By AI agents, Wed Nov 11 2026. No macro, syntax, notation, axiom, sorry.
-/
import Derived.Test.YtgemlifpfffebaaDoorRows
import GoSem.ClaimSeven
namespace Go.Proofs.YtgemlifpfffebaaDoor
namespace Rows

/-- THE TIED CARD OF 'courierlaw03.WalNil'. -/
def walNilCard : Claim7 := { stood := { row := walNilRow, standIns := [], harness := (true, "ca9b7eeaad34f9e6f9a8b6db5f8e06b619854bebe2e02e2da9c5b47ac4335ea9"), looks := true }, kinds := [], alts := [], laidByText := true, laidKinds := [.handle, .data], laidTests := true, laidLooks := .later }
def WalNilCardSaid : Prop := Claim7.holds Tryd.pinned (.plain (OpenSpec.ofChange walNilSpec)) walNilCard

/-- THE TIED CARD OF 'courierlaw03.WalSizes'. -/
def walSizesCard : Claim7 := { stood := { row := walSizesRow, standIns := [], harness := (true, "ca9b7eeaad34f9e6f9a8b6db5f8e06b619854bebe2e02e2da9c5b47ac4335ea9"), looks := true }, kinds := [], alts := [], laidByText := true, laidKinds := [.handle, .data], laidTests := true, laidLooks := .later }
def WalSizesCardSaid : Prop := Claim7.holds Tryd.pinned (.plain (OpenSpec.ofChange walSizesSpec)) walSizesCard

/-- THE TIED CARD OF 'courierlaw03.WalGens'. -/
def walGensCard : Claim7 := { stood := { row := walGensRow, standIns := [], harness := (true, "ca9b7eeaad34f9e6f9a8b6db5f8e06b619854bebe2e02e2da9c5b47ac4335ea9"), looks := true }, kinds := [], alts := [], laidByText := true, laidKinds := [.handle, .data], laidTests := true, laidLooks := .later }
def WalGensCardSaid : Prop := Claim7.holds Tryd.pinned (.plain (OpenSpec.ofChange walGensSpec)) walGensCard

/-- THE TIED CARD OF 'courierlaw03.WalFuse'. -/
def walFuseCard : Claim7 := { stood := { row := walFuseRow, standIns := [], harness := (true, "ca9b7eeaad34f9e6f9a8b6db5f8e06b619854bebe2e02e2da9c5b47ac4335ea9"), looks := true }, kinds := [], alts := [], laidByText := true, laidKinds := [.handle, .data], laidTests := true, laidLooks := .later }
def WalFuseCardSaid : Prop := Claim7.holds Tryd.pinned (.plain (OpenSpec.ofChange walFuseSpec)) walFuseCard

/-- THE TIED CARD OF 'courierlaw03.WalCuts'. -/
def walCutsCard : Claim7 := { stood := { row := walCutsRow, standIns := [], harness := (true, "ca9b7eeaad34f9e6f9a8b6db5f8e06b619854bebe2e02e2da9c5b47ac4335ea9"), looks := true }, kinds := [], alts := [], laidByText := true, laidKinds := [.handle, .data], laidTests := true, laidLooks := .later }
def WalCutsCardSaid : Prop := Claim7.holds Tryd.pinned (.plain (OpenSpec.ofChange walCutsSpec)) walCutsCard

/-- THE SECOND FORM's CARD OF 'courierlaw03.WalNil'. -/
def walNilUptoCard : Claim7 := { stood := { row := walNilUptoRow, standIns := [], harness := (true, "ca9b7eeaad34f9e6f9a8b6db5f8e06b619854bebe2e02e2da9c5b47ac4335ea9"), looks := true }, kinds := [], alts := [], laidByText := true, laidKinds := [.handle, .data], laidTests := true, laidLooks := .later }
def WalNilUptoCardSaid : Prop := Claim7.holds Tryd.pinned (.plain (OpenSpec.upto walNilSpec)) walNilUptoCard

/-- THE SECOND FORM's CARD OF 'courierlaw03.WalSizes'. -/
def walSizesUptoCard : Claim7 := { stood := { row := walSizesUptoRow, standIns := [], harness := (true, "ca9b7eeaad34f9e6f9a8b6db5f8e06b619854bebe2e02e2da9c5b47ac4335ea9"), looks := true }, kinds := [], alts := [], laidByText := true, laidKinds := [.handle, .data], laidTests := true, laidLooks := .later }
def WalSizesUptoCardSaid : Prop := Claim7.holds Tryd.pinned (.plain (OpenSpec.upto walSizesSpec)) walSizesUptoCard

/-- THE SECOND FORM's CARD OF 'courierlaw03.WalGens'. -/
def walGensUptoCard : Claim7 := { stood := { row := walGensUptoRow, standIns := [], harness := (true, "ca9b7eeaad34f9e6f9a8b6db5f8e06b619854bebe2e02e2da9c5b47ac4335ea9"), looks := true }, kinds := [], alts := [], laidByText := true, laidKinds := [.handle, .data], laidTests := true, laidLooks := .later }
def WalGensUptoCardSaid : Prop := Claim7.holds Tryd.pinned (.plain (OpenSpec.upto walGensSpec)) walGensUptoCard

/-- THE SECOND FORM's CARD OF 'courierlaw03.WalFuse'. -/
def walFuseUptoCard : Claim7 := { stood := { row := walFuseUptoRow, standIns := [], harness := (true, "ca9b7eeaad34f9e6f9a8b6db5f8e06b619854bebe2e02e2da9c5b47ac4335ea9"), looks := true }, kinds := [], alts := [], laidByText := true, laidKinds := [.handle, .data], laidTests := true, laidLooks := .later }
def WalFuseUptoCardSaid : Prop := Claim7.holds Tryd.pinned (.plain (OpenSpec.upto walFuseSpec)) walFuseUptoCard

/-- THE SECOND FORM's CARD OF 'courierlaw03.WalCuts'. -/
def walCutsUptoCard : Claim7 := { stood := { row := walCutsUptoRow, standIns := [], harness := (true, "ca9b7eeaad34f9e6f9a8b6db5f8e06b619854bebe2e02e2da9c5b47ac4335ea9"), looks := true }, kinds := [], alts := [], laidByText := true, laidKinds := [.handle, .data], laidTests := true, laidLooks := .later }
def WalCutsUptoCardSaid : Prop := Claim7.holds Tryd.pinned (.plain (OpenSpec.upto walCutsSpec)) walCutsUptoCard
end Rows
end Go.Proofs.YtgemlifpfffebaaDoor
