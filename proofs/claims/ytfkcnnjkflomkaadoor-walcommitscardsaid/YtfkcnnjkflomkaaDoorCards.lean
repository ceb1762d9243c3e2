/-
  DERIVED. GIVEN WITH THE SEED: THE CARDS: each row of YtfkcnnjkflomkaaDoorRows.lean that lists a variable, with what it lists TIED to the program's text (the seventh form; the later family's looks); each row that meets fmt, with fmt's text TOLD by the authors' own Lean function (tested against real Go, not proved from fmt's source: count such statements apart). THE CARD IS WHAT COUNTS. Prove the row's statement (the work); the ties are given (YtfkcnnjkflomkaaDoorTie.lean); close each card by the builder's one call (the guide's Derived/Test/ToyasCard.lean, 'card_holds'). Laid BY PROGRAM, IN A SANDBOX (cutbox-door.mjs). By AI agents, Wed Nov 11 2026. No macro, syntax, notation, axiom, sorry.
-/
import Derived.Test.YtfkcnnjkflomkaaDoorRows
import GoSem.ClaimSeven
namespace Go.Proofs.YtfkcnnjkflomkaaDoor
namespace Rows

/-- THE TIED CARD OF 'courierlaw03.WalSizes'. -/
def walSizesCard : Claim7 := { stood := { row := walSizesRow, standIns := [], harness := (true, "d92b42b844e5cfccb18258af50154d8ba08049e053b8f7e6e9705b9778671f64"), looks := true }, kinds := [], alts := [], laidByText := true, laidKinds := [.handle, .data], laidTests := true, laidLooks := .later }
def WalSizesCardSaid : Prop := Claim7.holds Tryd.pinned (.plain (OpenSpec.ofChange walSizesSpec)) walSizesCard

/-- THE TIED CARD OF 'courierlaw03.WalGens'. -/
def walGensCard : Claim7 := { stood := { row := walGensRow, standIns := [], harness := (true, "d92b42b844e5cfccb18258af50154d8ba08049e053b8f7e6e9705b9778671f64"), looks := true }, kinds := [], alts := [], laidByText := true, laidKinds := [.handle, .data], laidTests := true, laidLooks := .later }
def WalGensCardSaid : Prop := Claim7.holds Tryd.pinned (.plain (OpenSpec.ofChange walGensSpec)) walGensCard

/-- THE TIED CARD OF 'courierlaw03.WalCuts'. -/
def walCutsCard : Claim7 := { stood := { row := walCutsRow, standIns := [], harness := (true, "d92b42b844e5cfccb18258af50154d8ba08049e053b8f7e6e9705b9778671f64"), looks := true }, kinds := [], alts := [], laidByText := true, laidKinds := [.handle, .data], laidTests := true, laidLooks := .later }
def WalCutsCardSaid : Prop := Claim7.holds Tryd.pinned (.plain (OpenSpec.ofChange walCutsSpec)) walCutsCard

/-- THE TIED CARD OF 'courierlaw03.WalFuse'. -/
def walFuseCard : Claim7 := { stood := { row := walFuseRow, standIns := [], harness := (true, "d92b42b844e5cfccb18258af50154d8ba08049e053b8f7e6e9705b9778671f64"), looks := true }, kinds := [], alts := [], laidByText := true, laidKinds := [.handle, .data], laidTests := true, laidLooks := .later }
def WalFuseCardSaid : Prop := Claim7.holds Tryd.pinned (.plain (OpenSpec.ofChange walFuseSpec)) walFuseCard

/-- THE TIED CARD OF 'courierlaw03.WalCommits'. -/
def walCommitsCard : Claim7 := { stood := { row := walCommitsRow, standIns := [], harness := (true, "d92b42b844e5cfccb18258af50154d8ba08049e053b8f7e6e9705b9778671f64"), looks := true }, kinds := [], alts := [], laidByText := true, laidKinds := [.handle, .data], laidTests := true, laidLooks := .later }
def WalCommitsCardSaid : Prop := Claim7.holds Tryd.pinned (.plain (OpenSpec.ofChange walCommitsSpec)) walCommitsCard

/-- THE SECOND FORM's CARD OF 'courierlaw03.WalSizes'. -/
def walSizesUptoCard : Claim7 := { stood := { row := walSizesUptoRow, standIns := [], harness := (true, "d92b42b844e5cfccb18258af50154d8ba08049e053b8f7e6e9705b9778671f64"), looks := true }, kinds := [], alts := [], laidByText := true, laidKinds := [.handle, .data], laidTests := true, laidLooks := .later }
def WalSizesUptoCardSaid : Prop := Claim7.holds Tryd.pinned (.plain (OpenSpec.upto walSizesSpec)) walSizesUptoCard

/-- THE SECOND FORM's CARD OF 'courierlaw03.WalGens'. -/
def walGensUptoCard : Claim7 := { stood := { row := walGensUptoRow, standIns := [], harness := (true, "d92b42b844e5cfccb18258af50154d8ba08049e053b8f7e6e9705b9778671f64"), looks := true }, kinds := [], alts := [], laidByText := true, laidKinds := [.handle, .data], laidTests := true, laidLooks := .later }
def WalGensUptoCardSaid : Prop := Claim7.holds Tryd.pinned (.plain (OpenSpec.upto walGensSpec)) walGensUptoCard

/-- THE SECOND FORM's CARD OF 'courierlaw03.WalCuts'. -/
def walCutsUptoCard : Claim7 := { stood := { row := walCutsUptoRow, standIns := [], harness := (true, "d92b42b844e5cfccb18258af50154d8ba08049e053b8f7e6e9705b9778671f64"), looks := true }, kinds := [], alts := [], laidByText := true, laidKinds := [.handle, .data], laidTests := true, laidLooks := .later }
def WalCutsUptoCardSaid : Prop := Claim7.holds Tryd.pinned (.plain (OpenSpec.upto walCutsSpec)) walCutsUptoCard

/-- THE SECOND FORM's CARD OF 'courierlaw03.WalFuse'. -/
def walFuseUptoCard : Claim7 := { stood := { row := walFuseUptoRow, standIns := [], harness := (true, "d92b42b844e5cfccb18258af50154d8ba08049e053b8f7e6e9705b9778671f64"), looks := true }, kinds := [], alts := [], laidByText := true, laidKinds := [.handle, .data], laidTests := true, laidLooks := .later }
def WalFuseUptoCardSaid : Prop := Claim7.holds Tryd.pinned (.plain (OpenSpec.upto walFuseSpec)) walFuseUptoCard

/-- THE SECOND FORM's CARD OF 'courierlaw03.WalCommits'. -/
def walCommitsUptoCard : Claim7 := { stood := { row := walCommitsUptoRow, standIns := [], harness := (true, "d92b42b844e5cfccb18258af50154d8ba08049e053b8f7e6e9705b9778671f64"), looks := true }, kinds := [], alts := [], laidByText := true, laidKinds := [.handle, .data], laidTests := true, laidLooks := .later }
def WalCommitsUptoCardSaid : Prop := Claim7.holds Tryd.pinned (.plain (OpenSpec.upto walCommitsSpec)) walCommitsUptoCard
end Rows
end Go.Proofs.YtfkcnnjkflomkaaDoor
