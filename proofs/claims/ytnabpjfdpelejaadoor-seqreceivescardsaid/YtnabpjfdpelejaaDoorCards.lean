/-
  DERIVED. GIVEN WITH THE SEED: THE CARDS: each row of YtnabpjfdpelejaaDoorRows.lean that lists a variable, with what it lists TIED to the program's text (the seventh form; the later family's looks); each row that meets fmt, with fmt's text TOLD by the authors' own Lean function (tested against real Go, not proved from fmt's source: count such statements apart). THE CARD IS WHAT COUNTS. Prove the row's statement (the work); the ties are given (YtnabpjfdpelejaaDoorTie.lean); close each card by the builder's one call (the guide's Derived/Test/ToyasCard.lean, 'card_holds'). Laid BY PROGRAM, IN A SANDBOX (cutbox-door.mjs). By AI agents, Wed Nov 11 2026. No macro, syntax, notation, axiom, sorry.
-/
import Derived.Test.YtnabpjfdpelejaaDoorRows
import GoSem.ClaimSeven
namespace Go.Proofs.YtnabpjfdpelejaaDoor
namespace Rows

/-- THE TIED CARD OF 'courierlaw12.SeqRising'. -/
def seqRisingCard : Claim7 := { stood := { row := seqRisingRow, standIns := [], harness := (true, "7141b63b6b0b03b39decdfe34550fe25afbcb272e47efde5b8da6dfe132366a8"), looks := true }, kinds := [], alts := [], laidByText := true, laidKinds := [.handle], laidTests := true, laidLooks := .later }
def SeqRisingCardSaid : Prop := Claim7.holds Tryd.pinned (.plain (OpenSpec.ofChange seqRisingSpec)) seqRisingCard

/-- THE TIED CARD OF 'courierlaw12.SeqAccepts'. -/
def seqAcceptsCard : Claim7 := { stood := { row := seqAcceptsRow, standIns := [], harness := (true, "7141b63b6b0b03b39decdfe34550fe25afbcb272e47efde5b8da6dfe132366a8"), looks := true }, kinds := [], alts := [], laidByText := true, laidKinds := [.handle], laidTests := true, laidLooks := .later }
def SeqAcceptsCardSaid : Prop := Claim7.holds Tryd.pinned (.plain (OpenSpec.ofChange seqAcceptsSpec)) seqAcceptsCard

/-- THE TIED CARD OF 'courierlaw12.SeqSends'. -/
def seqSendsCard : Claim7 := { stood := { row := seqSendsRow, standIns := [], harness := (true, "7141b63b6b0b03b39decdfe34550fe25afbcb272e47efde5b8da6dfe132366a8"), looks := true }, kinds := [], alts := [], laidByText := true, laidKinds := [.handle], laidTests := true, laidLooks := .later }
def SeqSendsCardSaid : Prop := Claim7.holds Tryd.pinned (.plain (OpenSpec.ofChange seqSendsSpec)) seqSendsCard

/-- THE TIED CARD OF 'courierlaw12.SeqAnew'. -/
def seqAnewCard : Claim7 := { stood := { row := seqAnewRow, standIns := [], harness := (true, "7141b63b6b0b03b39decdfe34550fe25afbcb272e47efde5b8da6dfe132366a8"), looks := true }, kinds := [], alts := [], laidByText := true, laidKinds := [.handle], laidTests := true, laidLooks := .later }
def SeqAnewCardSaid : Prop := Claim7.holds Tryd.pinned (.plain (OpenSpec.ofChange seqAnewSpec)) seqAnewCard

/-- THE TIED CARD OF 'courierlaw12.SeqReceives'. -/
def seqReceivesCard : Claim7 := { stood := { row := seqReceivesRow, standIns := [], harness := (true, "7141b63b6b0b03b39decdfe34550fe25afbcb272e47efde5b8da6dfe132366a8"), looks := true }, kinds := [], alts := [], laidByText := true, laidKinds := [.handle], laidTests := true, laidLooks := .later }
def SeqReceivesCardSaid : Prop := Claim7.holds Tryd.pinned (.plain (OpenSpec.ofChange seqReceivesSpec)) seqReceivesCard

/-- THE SECOND FORM's CARD OF 'courierlaw12.SeqRising'. -/
def seqRisingUptoCard : Claim7 := { stood := { row := seqRisingUptoRow, standIns := [], harness := (true, "7141b63b6b0b03b39decdfe34550fe25afbcb272e47efde5b8da6dfe132366a8"), looks := true }, kinds := [], alts := [], laidByText := true, laidKinds := [.handle], laidTests := true, laidLooks := .later }
def SeqRisingUptoCardSaid : Prop := Claim7.holds Tryd.pinned (.plain (OpenSpec.upto seqRisingSpec)) seqRisingUptoCard

/-- THE SECOND FORM's CARD OF 'courierlaw12.SeqAccepts'. -/
def seqAcceptsUptoCard : Claim7 := { stood := { row := seqAcceptsUptoRow, standIns := [], harness := (true, "7141b63b6b0b03b39decdfe34550fe25afbcb272e47efde5b8da6dfe132366a8"), looks := true }, kinds := [], alts := [], laidByText := true, laidKinds := [.handle], laidTests := true, laidLooks := .later }
def SeqAcceptsUptoCardSaid : Prop := Claim7.holds Tryd.pinned (.plain (OpenSpec.upto seqAcceptsSpec)) seqAcceptsUptoCard

/-- THE SECOND FORM's CARD OF 'courierlaw12.SeqSends'. -/
def seqSendsUptoCard : Claim7 := { stood := { row := seqSendsUptoRow, standIns := [], harness := (true, "7141b63b6b0b03b39decdfe34550fe25afbcb272e47efde5b8da6dfe132366a8"), looks := true }, kinds := [], alts := [], laidByText := true, laidKinds := [.handle], laidTests := true, laidLooks := .later }
def SeqSendsUptoCardSaid : Prop := Claim7.holds Tryd.pinned (.plain (OpenSpec.upto seqSendsSpec)) seqSendsUptoCard

/-- THE SECOND FORM's CARD OF 'courierlaw12.SeqAnew'. -/
def seqAnewUptoCard : Claim7 := { stood := { row := seqAnewUptoRow, standIns := [], harness := (true, "7141b63b6b0b03b39decdfe34550fe25afbcb272e47efde5b8da6dfe132366a8"), looks := true }, kinds := [], alts := [], laidByText := true, laidKinds := [.handle], laidTests := true, laidLooks := .later }
def SeqAnewUptoCardSaid : Prop := Claim7.holds Tryd.pinned (.plain (OpenSpec.upto seqAnewSpec)) seqAnewUptoCard

/-- THE SECOND FORM's CARD OF 'courierlaw12.SeqReceives'. -/
def seqReceivesUptoCard : Claim7 := { stood := { row := seqReceivesUptoRow, standIns := [], harness := (true, "7141b63b6b0b03b39decdfe34550fe25afbcb272e47efde5b8da6dfe132366a8"), looks := true }, kinds := [], alts := [], laidByText := true, laidKinds := [.handle], laidTests := true, laidLooks := .later }
def SeqReceivesUptoCardSaid : Prop := Claim7.holds Tryd.pinned (.plain (OpenSpec.upto seqReceivesSpec)) seqReceivesUptoCard
end Rows
end Go.Proofs.YtnabpjfdpelejaaDoor
