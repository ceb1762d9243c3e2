/-
  DERIVED. GIVEN WITH THE SEED: THE CARDS: each row of YtohaiibecniacaaDoorRows.lean that lists a variable, with what it lists TIED to the program's text (the seventh form; the later family's looks); each row that meets fmt, with fmt's text TOLD by the authors' own Lean function (tested against real Go, not proved from fmt's source: count such statements apart). THE CARD IS WHAT COUNTS. Prove the row's statement (the work); the ties are given (YtohaiibecniacaaDoorTie.lean); close each card by the builder's one call (the guide's Derived/Test/ToyasCard.lean, 'card_holds'). Laid BY PROGRAM, IN A SANDBOX (cutbox-door.mjs). By AI agents, Wed Nov 11 2026. No macro, syntax, notation, axiom, sorry.
-/
import Derived.Test.YtohaiibecniacaaDoorRows
import GoSem.ClaimSeven
namespace Go.Proofs.YtohaiibecniacaaDoor
namespace Rows

/-- THE TIED CARD OF 'courierlaw01.StampOfs'. -/
def stampOfsCard : Claim7 := { stood := { row := stampOfsRow, standIns := [], harness := (true, "b268bd86213805f815a6f6907db2f5bcbffde7a4ab9632197e8eb8e5a5555c7d"), looks := true }, kinds := [], alts := [], laidByText := true, laidKinds := [.handle, .data], laidTests := true, laidLooks := .later }
def StampOfsCardSaid : Prop := Claim7.holds Tryd.pinned (.plain (OpenSpec.ofChange stampOfsSpec)) stampOfsCard

/-- THE TIED CARD OF 'courierlaw01.StampPrints'. -/
def stampPrintsCard : Claim7 := { stood := { row := stampPrintsRow, standIns := [], harness := (true, "b268bd86213805f815a6f6907db2f5bcbffde7a4ab9632197e8eb8e5a5555c7d"), looks := true }, kinds := [], alts := [], laidByText := true, laidKinds := [.data, .data, .data, .handle, .data], laidTests := true, laidLooks := .later }
def StampPrintsCardSaid : Prop := Claim7.holds Tryd.pinned (.plain (OpenSpec.ofChange stampPrintsSpec)) stampPrintsCard

/-- THE TIED CARD OF 'courierlaw01.StampBack'. -/
def stampBackCard : Claim7 := { stood := { row := stampBackRow, standIns := [], harness := (true, "b268bd86213805f815a6f6907db2f5bcbffde7a4ab9632197e8eb8e5a5555c7d"), looks := true }, kinds := [], alts := [], laidByText := true, laidKinds := [.data, .data, .data, .data], laidTests := true, laidLooks := .later }
def StampBackCardSaid : Prop := Claim7.holds Tryd.pinned (.plain (OpenSpec.ofChange stampBackSpec)) stampBackCard

/-- THE TIED CARD OF 'courierlaw01.StampBackToo'. -/
def stampBackTooCard : Claim7 := { stood := { row := stampBackTooRow, standIns := [], harness := (true, "b268bd86213805f815a6f6907db2f5bcbffde7a4ab9632197e8eb8e5a5555c7d"), looks := true }, kinds := [], alts := [], laidByText := true, laidKinds := [.data, .data, .data, .data], laidTests := true, laidLooks := .later }
def StampBackTooCardSaid : Prop := Claim7.holds Tryd.pinned (.plain (OpenSpec.ofChange stampBackTooSpec)) stampBackTooCard

/-- THE TIED CARD OF 'courierlaw01.StampAgain'. -/
def stampAgainCard : Claim7 := { stood := { row := stampAgainRow, standIns := [], harness := (true, "b268bd86213805f815a6f6907db2f5bcbffde7a4ab9632197e8eb8e5a5555c7d"), looks := true }, kinds := [], alts := [], laidByText := true, laidKinds := [.data, .data, .data, .data], laidTests := true, laidLooks := .later }
def StampAgainCardSaid : Prop := Claim7.holds Tryd.pinned (.plain (OpenSpec.ofChange stampAgainSpec)) stampAgainCard

/-- THE TIED CARD OF 'courierlaw01.StampDates'. -/
def stampDatesCard : Claim7 := { stood := { row := stampDatesRow, standIns := [], harness := (true, "b268bd86213805f815a6f6907db2f5bcbffde7a4ab9632197e8eb8e5a5555c7d"), looks := true }, kinds := [], alts := [], laidByText := true, laidKinds := [.handle, .data], laidTests := true, laidLooks := .later }
def StampDatesCardSaid : Prop := Claim7.holds Tryd.pinned (.plain (OpenSpec.ofChange stampDatesSpec)) stampDatesCard

/-- THE SECOND FORM's CARD OF 'courierlaw01.StampOfs'. -/
def stampOfsUptoCard : Claim7 := { stood := { row := stampOfsUptoRow, standIns := [], harness := (true, "b268bd86213805f815a6f6907db2f5bcbffde7a4ab9632197e8eb8e5a5555c7d"), looks := true }, kinds := [], alts := [], laidByText := true, laidKinds := [.handle, .data], laidTests := true, laidLooks := .later }
def StampOfsUptoCardSaid : Prop := Claim7.holds Tryd.pinned (.plain (OpenSpec.upto stampOfsSpec)) stampOfsUptoCard

/-- THE SECOND FORM's CARD OF 'courierlaw01.StampPrints'. -/
def stampPrintsUptoCard : Claim7 := { stood := { row := stampPrintsUptoRow, standIns := [], harness := (true, "b268bd86213805f815a6f6907db2f5bcbffde7a4ab9632197e8eb8e5a5555c7d"), looks := true }, kinds := [], alts := [], laidByText := true, laidKinds := [.data, .data, .data, .handle, .data], laidTests := true, laidLooks := .later }
def StampPrintsUptoCardSaid : Prop := Claim7.holds Tryd.pinned (.plain (OpenSpec.upto stampPrintsSpec)) stampPrintsUptoCard

/-- THE SECOND FORM's CARD OF 'courierlaw01.StampBack'. -/
def stampBackUptoCard : Claim7 := { stood := { row := stampBackUptoRow, standIns := [], harness := (true, "b268bd86213805f815a6f6907db2f5bcbffde7a4ab9632197e8eb8e5a5555c7d"), looks := true }, kinds := [], alts := [], laidByText := true, laidKinds := [.data, .data, .data, .data], laidTests := true, laidLooks := .later }
def StampBackUptoCardSaid : Prop := Claim7.holds Tryd.pinned (.plain (OpenSpec.upto stampBackSpec)) stampBackUptoCard

/-- THE SECOND FORM's CARD OF 'courierlaw01.StampBackToo'. -/
def stampBackTooUptoCard : Claim7 := { stood := { row := stampBackTooUptoRow, standIns := [], harness := (true, "b268bd86213805f815a6f6907db2f5bcbffde7a4ab9632197e8eb8e5a5555c7d"), looks := true }, kinds := [], alts := [], laidByText := true, laidKinds := [.data, .data, .data, .data], laidTests := true, laidLooks := .later }
def StampBackTooUptoCardSaid : Prop := Claim7.holds Tryd.pinned (.plain (OpenSpec.upto stampBackTooSpec)) stampBackTooUptoCard

/-- THE SECOND FORM's CARD OF 'courierlaw01.StampAgain'. -/
def stampAgainUptoCard : Claim7 := { stood := { row := stampAgainUptoRow, standIns := [], harness := (true, "b268bd86213805f815a6f6907db2f5bcbffde7a4ab9632197e8eb8e5a5555c7d"), looks := true }, kinds := [], alts := [], laidByText := true, laidKinds := [.data, .data, .data, .data], laidTests := true, laidLooks := .later }
def StampAgainUptoCardSaid : Prop := Claim7.holds Tryd.pinned (.plain (OpenSpec.upto stampAgainSpec)) stampAgainUptoCard

/-- THE SECOND FORM's CARD OF 'courierlaw01.StampDates'. -/
def stampDatesUptoCard : Claim7 := { stood := { row := stampDatesUptoRow, standIns := [], harness := (true, "b268bd86213805f815a6f6907db2f5bcbffde7a4ab9632197e8eb8e5a5555c7d"), looks := true }, kinds := [], alts := [], laidByText := true, laidKinds := [.handle, .data], laidTests := true, laidLooks := .later }
def StampDatesUptoCardSaid : Prop := Claim7.holds Tryd.pinned (.plain (OpenSpec.upto stampDatesSpec)) stampDatesUptoCard
end Rows
end Go.Proofs.YtohaiibecniacaaDoor
