/-
  DERIVED. GIVEN WITH THE SEED: THE CARDS: each row of YtohaiibecniacabDoorRows.lean that lists a variable, with what it lists TIED to the program's text (the seventh form; the later family's looks); each row that meets fmt, with fmt's text TOLD by the authors' own Lean function (tested against real Go, not proved from fmt's source: count such statements apart). THE CARD IS WHAT COUNTS. Prove the row's statement (the work); the ties are given (YtohaiibecniacabDoorTie.lean); close each card by the builder's one call (the guide's Derived/Test/ToyasCard.lean, 'card_holds'). Laid BY PROGRAM, IN A SANDBOX (cutbox-door.mjs). By AI agents, Wed Nov 11 2026. No macro, syntax, notation, axiom, sorry.
-/
import Derived.Test.YtohaiibecniacabDoorRows
import GoSem.ClaimSeven
namespace Go.Proofs.YtohaiibecniacabDoor
namespace Rows

/-- THE TIED CARD OF 'courierlaw01.StampTimes'. -/
def stampTimesCard : Claim7 := { stood := { row := stampTimesRow, standIns := [], harness := (true, "c8519bdc950a1c14a1424fde48d1111f02398b0f1a6d2256257068f6560f0691"), looks := true }, kinds := [], alts := [], laidByText := true, laidKinds := [.handle], laidTests := true, laidLooks := .later }
def StampTimesCardSaid : Prop := Claim7.holds Tryd.pinned (.plain (OpenSpec.ofChange stampTimesSpec)) stampTimesCard

/-- THE TIED CARD OF 'courierlaw01.StampOrder'. -/
def stampOrderCard : Claim7 := { stood := { row := stampOrderRow, standIns := [], harness := (true, "c8519bdc950a1c14a1424fde48d1111f02398b0f1a6d2256257068f6560f0691"), looks := true }, kinds := [], alts := [], laidByText := true, laidKinds := [.data, .data, .data, .data], laidTests := true, laidLooks := .later }
def StampOrderCardSaid : Prop := Claim7.holds Tryd.pinned (.plain (OpenSpec.ofChange stampOrderSpec)) stampOrderCard

/-- THE TIED CARD OF 'courierlaw01.StampInstants'. -/
def stampInstantsCard : Claim7 := { stood := { row := stampInstantsRow, standIns := [], harness := (true, "c8519bdc950a1c14a1424fde48d1111f02398b0f1a6d2256257068f6560f0691"), looks := true }, kinds := [], alts := [], laidByText := true, laidKinds := [.handle, .data], laidTests := true, laidLooks := .later }
def StampInstantsCardSaid : Prop := Claim7.holds Tryd.pinned (.plain (OpenSpec.ofChange stampInstantsSpec)) stampInstantsCard

/-- THE TIED CARD OF 'courierlaw01.StampCompares'. -/
def stampComparesCard : Claim7 := { stood := { row := stampComparesRow, standIns := [], harness := (true, "c8519bdc950a1c14a1424fde48d1111f02398b0f1a6d2256257068f6560f0691"), looks := true }, kinds := [], alts := [], laidByText := true, laidKinds := [.handle, .data], laidTests := true, laidLooks := .later }
def StampComparesCardSaid : Prop := Claim7.holds Tryd.pinned (.plain (OpenSpec.ofChange stampComparesSpec)) stampComparesCard

/-- THE TIED CARD OF 'courierlaw01.StampAts'. -/
def stampAtsCard : Claim7 := { stood := { row := stampAtsRow, standIns := [], harness := (true, "c8519bdc950a1c14a1424fde48d1111f02398b0f1a6d2256257068f6560f0691"), looks := true }, kinds := [], alts := [], laidByText := true, laidKinds := [.handle, .data], laidTests := true, laidLooks := .later }
def StampAtsCardSaid : Prop := Claim7.holds Tryd.pinned (.plain (OpenSpec.ofChange stampAtsSpec)) stampAtsCard

/-- THE TIED CARD OF 'courierlaw01.StampGoes'. -/
def stampGoesCard : Claim7 := { stood := { row := stampGoesRow, standIns := [], harness := (true, "c8519bdc950a1c14a1424fde48d1111f02398b0f1a6d2256257068f6560f0691"), looks := true }, kinds := [], alts := [], laidByText := true, laidKinds := [.data, .data, .data, .data], laidTests := true, laidLooks := .later }
def StampGoesCardSaid : Prop := Claim7.holds Tryd.pinned (.plain (OpenSpec.ofChange stampGoesSpec)) stampGoesCard

/-- THE SECOND FORM's CARD OF 'courierlaw01.StampTimes'. -/
def stampTimesUptoCard : Claim7 := { stood := { row := stampTimesUptoRow, standIns := [], harness := (true, "c8519bdc950a1c14a1424fde48d1111f02398b0f1a6d2256257068f6560f0691"), looks := true }, kinds := [], alts := [], laidByText := true, laidKinds := [.handle], laidTests := true, laidLooks := .later }
def StampTimesUptoCardSaid : Prop := Claim7.holds Tryd.pinned (.plain (OpenSpec.upto stampTimesSpec)) stampTimesUptoCard

/-- THE SECOND FORM's CARD OF 'courierlaw01.StampOrder'. -/
def stampOrderUptoCard : Claim7 := { stood := { row := stampOrderUptoRow, standIns := [], harness := (true, "c8519bdc950a1c14a1424fde48d1111f02398b0f1a6d2256257068f6560f0691"), looks := true }, kinds := [], alts := [], laidByText := true, laidKinds := [.data, .data, .data, .data], laidTests := true, laidLooks := .later }
def StampOrderUptoCardSaid : Prop := Claim7.holds Tryd.pinned (.plain (OpenSpec.upto stampOrderSpec)) stampOrderUptoCard

/-- THE SECOND FORM's CARD OF 'courierlaw01.StampInstants'. -/
def stampInstantsUptoCard : Claim7 := { stood := { row := stampInstantsUptoRow, standIns := [], harness := (true, "c8519bdc950a1c14a1424fde48d1111f02398b0f1a6d2256257068f6560f0691"), looks := true }, kinds := [], alts := [], laidByText := true, laidKinds := [.handle, .data], laidTests := true, laidLooks := .later }
def StampInstantsUptoCardSaid : Prop := Claim7.holds Tryd.pinned (.plain (OpenSpec.upto stampInstantsSpec)) stampInstantsUptoCard

/-- THE SECOND FORM's CARD OF 'courierlaw01.StampCompares'. -/
def stampComparesUptoCard : Claim7 := { stood := { row := stampComparesUptoRow, standIns := [], harness := (true, "c8519bdc950a1c14a1424fde48d1111f02398b0f1a6d2256257068f6560f0691"), looks := true }, kinds := [], alts := [], laidByText := true, laidKinds := [.handle, .data], laidTests := true, laidLooks := .later }
def StampComparesUptoCardSaid : Prop := Claim7.holds Tryd.pinned (.plain (OpenSpec.upto stampComparesSpec)) stampComparesUptoCard

/-- THE SECOND FORM's CARD OF 'courierlaw01.StampAts'. -/
def stampAtsUptoCard : Claim7 := { stood := { row := stampAtsUptoRow, standIns := [], harness := (true, "c8519bdc950a1c14a1424fde48d1111f02398b0f1a6d2256257068f6560f0691"), looks := true }, kinds := [], alts := [], laidByText := true, laidKinds := [.handle, .data], laidTests := true, laidLooks := .later }
def StampAtsUptoCardSaid : Prop := Claim7.holds Tryd.pinned (.plain (OpenSpec.upto stampAtsSpec)) stampAtsUptoCard

/-- THE SECOND FORM's CARD OF 'courierlaw01.StampGoes'. -/
def stampGoesUptoCard : Claim7 := { stood := { row := stampGoesUptoRow, standIns := [], harness := (true, "c8519bdc950a1c14a1424fde48d1111f02398b0f1a6d2256257068f6560f0691"), looks := true }, kinds := [], alts := [], laidByText := true, laidKinds := [.data, .data, .data, .data], laidTests := true, laidLooks := .later }
def StampGoesUptoCardSaid : Prop := Claim7.holds Tryd.pinned (.plain (OpenSpec.upto stampGoesSpec)) stampGoesUptoCard
end Rows
end Go.Proofs.YtohaiibecniacabDoor
