/-
  DERIVED. GIVEN WITH THE SEED: THE CARDS: each row of YtbbemeibmgfacaaDoorRows.lean that lists a variable, with what it lists TIED to the program's text (the seventh form; the later family's looks); each row that meets fmt, with fmt's text TOLD by the authors' own Lean function (tested against real Go, not proved from fmt's source: count such statements apart). THE CARD IS WHAT COUNTS. Prove the row's statement (the work); the ties are given (YtbbemeibmgfacaaDoorTie.lean); close each card by the builder's one call (the guide's Derived/Test/ToyasCard.lean, 'card_holds'). Laid BY PROGRAM, IN A SANDBOX (cutbox-door.mjs). By AI agents, Wed Nov 11 2026. No macro, syntax, notation, axiom, sorry.
-/
import Derived.Test.YtbbemeibmgfacaaDoorRows
import GoSem.ClaimSeven
namespace Go.Proofs.YtbbemeibmgfacaaDoor
namespace Rows

/-- THE TIED CARD OF 'courierlaw01.StampTimes'. -/
def stampTimesCard : Claim7 := { stood := { row := stampTimesRow, standIns := [], harness := (true, "f3628f18dd2be23cb6e2b9c9caca826ea8da55d7b1d99a12cf264f8d76dca410"), looks := true }, kinds := [], alts := [], laidByText := true, laidKinds := [.handle], laidTests := true, laidLooks := .later }
def StampTimesCardSaid : Prop := Claim7.holds Tryd.pinned (.plain (OpenSpec.ofChange stampTimesSpec)) stampTimesCard

/-- THE TIED CARD OF 'courierlaw01.StampParses'. -/
def stampParsesCard : Claim7 := { stood := { row := stampParsesRow, standIns := [], harness := (true, "f3628f18dd2be23cb6e2b9c9caca826ea8da55d7b1d99a12cf264f8d76dca410"), looks := true }, kinds := [], alts := [], laidByText := true, laidKinds := [.handle, .data], laidTests := true, laidLooks := .later }
def StampParsesCardSaid : Prop := Claim7.holds Tryd.pinned (.plain (OpenSpec.ofChange stampParsesSpec)) stampParsesCard

/-- THE TIED CARD OF 'courierlaw01.StampPrints'. -/
def stampPrintsCard : Claim7 := { stood := { row := stampPrintsRow, standIns := [], harness := (true, "f3628f18dd2be23cb6e2b9c9caca826ea8da55d7b1d99a12cf264f8d76dca410"), looks := true }, kinds := [], alts := [], laidByText := true, laidKinds := [.data, .data, .data, .handle, .data], laidTests := true, laidLooks := .later }
def StampPrintsCardSaid : Prop := Claim7.holds Tryd.pinned (.plain (OpenSpec.ofChange stampPrintsSpec)) stampPrintsCard

/-- THE TIED CARD OF 'courierlaw01.StampBack'. -/
def stampBackCard : Claim7 := { stood := { row := stampBackRow, standIns := [], harness := (true, "f3628f18dd2be23cb6e2b9c9caca826ea8da55d7b1d99a12cf264f8d76dca410"), looks := true }, kinds := [], alts := [], laidByText := true, laidKinds := [.data, .data, .data, .data], laidTests := true, laidLooks := .later }
def StampBackCardSaid : Prop := Claim7.holds Tryd.pinned (.plain (OpenSpec.ofChange stampBackSpec)) stampBackCard

/-- THE TIED CARD OF 'courierlaw01.StampBackToo'. -/
def stampBackTooCard : Claim7 := { stood := { row := stampBackTooRow, standIns := [], harness := (true, "f3628f18dd2be23cb6e2b9c9caca826ea8da55d7b1d99a12cf264f8d76dca410"), looks := true }, kinds := [], alts := [], laidByText := true, laidKinds := [.data, .data, .data, .data], laidTests := true, laidLooks := .later }
def StampBackTooCardSaid : Prop := Claim7.holds Tryd.pinned (.plain (OpenSpec.ofChange stampBackTooSpec)) stampBackTooCard

/-- THE TIED CARD OF 'courierlaw01.StampAgain'. -/
def stampAgainCard : Claim7 := { stood := { row := stampAgainRow, standIns := [], harness := (true, "f3628f18dd2be23cb6e2b9c9caca826ea8da55d7b1d99a12cf264f8d76dca410"), looks := true }, kinds := [], alts := [], laidByText := true, laidKinds := [.data, .data, .data, .data], laidTests := true, laidLooks := .later }
def StampAgainCardSaid : Prop := Claim7.holds Tryd.pinned (.plain (OpenSpec.ofChange stampAgainSpec)) stampAgainCard

/-- THE SECOND FORM's CARD OF 'courierlaw01.StampTimes'. -/
def stampTimesUptoCard : Claim7 := { stood := { row := stampTimesUptoRow, standIns := [], harness := (true, "f3628f18dd2be23cb6e2b9c9caca826ea8da55d7b1d99a12cf264f8d76dca410"), looks := true }, kinds := [], alts := [], laidByText := true, laidKinds := [.handle], laidTests := true, laidLooks := .later }
def StampTimesUptoCardSaid : Prop := Claim7.holds Tryd.pinned (.plain (OpenSpec.upto stampTimesSpec)) stampTimesUptoCard

/-- THE SECOND FORM's CARD OF 'courierlaw01.StampParses'. -/
def stampParsesUptoCard : Claim7 := { stood := { row := stampParsesUptoRow, standIns := [], harness := (true, "f3628f18dd2be23cb6e2b9c9caca826ea8da55d7b1d99a12cf264f8d76dca410"), looks := true }, kinds := [], alts := [], laidByText := true, laidKinds := [.handle, .data], laidTests := true, laidLooks := .later }
def StampParsesUptoCardSaid : Prop := Claim7.holds Tryd.pinned (.plain (OpenSpec.upto stampParsesSpec)) stampParsesUptoCard

/-- THE SECOND FORM's CARD OF 'courierlaw01.StampPrints'. -/
def stampPrintsUptoCard : Claim7 := { stood := { row := stampPrintsUptoRow, standIns := [], harness := (true, "f3628f18dd2be23cb6e2b9c9caca826ea8da55d7b1d99a12cf264f8d76dca410"), looks := true }, kinds := [], alts := [], laidByText := true, laidKinds := [.data, .data, .data, .handle, .data], laidTests := true, laidLooks := .later }
def StampPrintsUptoCardSaid : Prop := Claim7.holds Tryd.pinned (.plain (OpenSpec.upto stampPrintsSpec)) stampPrintsUptoCard

/-- THE SECOND FORM's CARD OF 'courierlaw01.StampBack'. -/
def stampBackUptoCard : Claim7 := { stood := { row := stampBackUptoRow, standIns := [], harness := (true, "f3628f18dd2be23cb6e2b9c9caca826ea8da55d7b1d99a12cf264f8d76dca410"), looks := true }, kinds := [], alts := [], laidByText := true, laidKinds := [.data, .data, .data, .data], laidTests := true, laidLooks := .later }
def StampBackUptoCardSaid : Prop := Claim7.holds Tryd.pinned (.plain (OpenSpec.upto stampBackSpec)) stampBackUptoCard

/-- THE SECOND FORM's CARD OF 'courierlaw01.StampBackToo'. -/
def stampBackTooUptoCard : Claim7 := { stood := { row := stampBackTooUptoRow, standIns := [], harness := (true, "f3628f18dd2be23cb6e2b9c9caca826ea8da55d7b1d99a12cf264f8d76dca410"), looks := true }, kinds := [], alts := [], laidByText := true, laidKinds := [.data, .data, .data, .data], laidTests := true, laidLooks := .later }
def StampBackTooUptoCardSaid : Prop := Claim7.holds Tryd.pinned (.plain (OpenSpec.upto stampBackTooSpec)) stampBackTooUptoCard

/-- THE SECOND FORM's CARD OF 'courierlaw01.StampAgain'. -/
def stampAgainUptoCard : Claim7 := { stood := { row := stampAgainUptoRow, standIns := [], harness := (true, "f3628f18dd2be23cb6e2b9c9caca826ea8da55d7b1d99a12cf264f8d76dca410"), looks := true }, kinds := [], alts := [], laidByText := true, laidKinds := [.data, .data, .data, .data], laidTests := true, laidLooks := .later }
def StampAgainUptoCardSaid : Prop := Claim7.holds Tryd.pinned (.plain (OpenSpec.upto stampAgainSpec)) stampAgainUptoCard
end Rows
end Go.Proofs.YtbbemeibmgfacaaDoor
