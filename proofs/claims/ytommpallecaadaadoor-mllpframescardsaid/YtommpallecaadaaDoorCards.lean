/-
  DERIVED. GIVEN WITH THE SEED: THE CARDS: each row of YtommpallecaadaaDoorRows.lean that lists a variable, with what it lists TIED to the program's text (the seventh form; the later family's looks); each row that meets fmt, with fmt's text TOLD by the authors' own Lean function (tested against real Go, not proved from fmt's source: count such statements apart). THE CARD IS WHAT COUNTS. Prove the row's statement (the work); the ties are given (YtommpallecaadaaDoorTie.lean); close each card by the builder's one call (the guide's Derived/Test/ToyasCard.lean, 'card_holds'). Laid BY PROGRAM, IN A SANDBOX (cutbox-door.mjs). By AI agents, Wed Nov 11 2026. No macro, syntax, notation, axiom, sorry.
-/
import Derived.Test.YtommpallecaadaaDoorRows
import GoSem.ClaimSeven
namespace Go.Proofs.YtommpallecaadaaDoor
namespace Rows

/-- THE TIED CARD OF 'courierlaw04.MllpFrames'. -/
def mllpFramesCard : Claim7 := { stood := { row := mllpFramesRow, standIns := [], harness := (true, "c01b8c26dcfa8db8af6034a9cb0d7ee702977a652c02ccb1ec4451cfe7ef15e7"), looks := true }, kinds := [], alts := [], goes := true, laidByText := true, laidKinds := [.handle], laidTests := true, laidLooks := .later }
def MllpFramesCardSaid : Prop := Claim7.holds Tryd.pinned (.plain (OpenSpec.ofChange mllpFramesSpec)) mllpFramesCard

/-- THE TIED CARD OF 'courierlaw04.MllpFeeds'. -/
def mllpFeedsCard : Claim7 := { stood := { row := mllpFeedsRow, standIns := [], harness := (true, "c01b8c26dcfa8db8af6034a9cb0d7ee702977a652c02ccb1ec4451cfe7ef15e7"), looks := true }, kinds := [], alts := [], goes := true, laidByText := true, laidKinds := [.handle], laidTests := true, laidLooks := .later }
def MllpFeedsCardSaid : Prop := Claim7.holds Tryd.pinned (.plain (OpenSpec.ofChange mllpFeedsSpec)) mllpFeedsCard

/-- THE SECOND FORM's CARD OF 'courierlaw04.MllpFrames'. -/
def mllpFramesUptoCard : Claim7 := { stood := { row := mllpFramesUptoRow, standIns := [], harness := (true, "c01b8c26dcfa8db8af6034a9cb0d7ee702977a652c02ccb1ec4451cfe7ef15e7"), looks := true }, kinds := [], alts := [], goes := true, laidByText := true, laidKinds := [.handle], laidTests := true, laidLooks := .later }
def MllpFramesUptoCardSaid : Prop := Claim7.holds Tryd.pinned (.plain (OpenSpec.upto mllpFramesSpec)) mllpFramesUptoCard

/-- THE SECOND FORM's CARD OF 'courierlaw04.MllpFeeds'. -/
def mllpFeedsUptoCard : Claim7 := { stood := { row := mllpFeedsUptoRow, standIns := [], harness := (true, "c01b8c26dcfa8db8af6034a9cb0d7ee702977a652c02ccb1ec4451cfe7ef15e7"), looks := true }, kinds := [], alts := [], goes := true, laidByText := true, laidKinds := [.handle], laidTests := true, laidLooks := .later }
def MllpFeedsUptoCardSaid : Prop := Claim7.holds Tryd.pinned (.plain (OpenSpec.upto mllpFeedsSpec)) mllpFeedsUptoCard
end Rows
end Go.Proofs.YtommpallecaadaaDoor
