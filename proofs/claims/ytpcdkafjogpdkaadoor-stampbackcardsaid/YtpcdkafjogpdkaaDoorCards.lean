/-
  DERIVED. GIVEN WITH THE SEED: THE CARDS: each row of YtpcdkafjogpdkaaDoorRows.lean that lists a variable, with what it lists TIED to the program's text (the seventh form; the later family's looks); each row that meets fmt, with fmt's text TOLD by the authors' own Lean function (tested against real Go, not proved from fmt's source: count such statements apart). THE CARD IS WHAT COUNTS. Prove the row's statement (the work); the ties are given (YtpcdkafjogpdkaaDoorTie.lean); close each card by the builder's one call (the guide's Derived/Test/ToyasCard.lean, 'card_holds'). Laid BY PROGRAM, IN A SANDBOX (cutbox-door.mjs). By AI agents, Wed Nov 11 2026. No macro, syntax, notation, axiom, sorry.
-/
import Derived.Test.YtpcdkafjogpdkaaDoorRows
import GoSem.ClaimSeven
namespace Go.Proofs.YtpcdkafjogpdkaaDoor
namespace Rows

/-- THE TIED CARD OF 'courierlaw01.StampPrints'. -/
def stampPrintsCard : Claim7 := { stood := { row := stampPrintsRow, standIns := [], harness := (true, "6d2b4b8b12bb7df7066615765eeedf542e86c054a42bd297a7098209e497ca69"), looks := true }, kinds := [], alts := [], laidByText := true, laidKinds := [.data, .data, .data, .handle, .data], laidTests := true, laidLooks := .later }
def StampPrintsCardSaid : Prop := Claim7.holds Tryd.pinned (.plain (OpenSpec.ofChange stampPrintsSpec)) stampPrintsCard

/-- THE TIED CARD OF 'courierlaw01.StampBack'. -/
def stampBackCard : Claim7 := { stood := { row := stampBackRow, standIns := [], harness := (true, "6d2b4b8b12bb7df7066615765eeedf542e86c054a42bd297a7098209e497ca69"), looks := true }, kinds := [], alts := [], laidByText := true, laidKinds := [.data, .data, .data, .data], laidTests := true, laidLooks := .later }
def StampBackCardSaid : Prop := Claim7.holds Tryd.pinned (.plain (OpenSpec.ofChange stampBackSpec)) stampBackCard

/-- THE TIED CARD OF 'courierlaw01.StampBackToo'. -/
def stampBackTooCard : Claim7 := { stood := { row := stampBackTooRow, standIns := [], harness := (true, "6d2b4b8b12bb7df7066615765eeedf542e86c054a42bd297a7098209e497ca69"), looks := true }, kinds := [], alts := [], laidByText := true, laidKinds := [.data, .data, .data, .data], laidTests := true, laidLooks := .later }
def StampBackTooCardSaid : Prop := Claim7.holds Tryd.pinned (.plain (OpenSpec.ofChange stampBackTooSpec)) stampBackTooCard

/-- THE TIED CARD OF 'courierlaw01.StampAgain'. -/
def stampAgainCard : Claim7 := { stood := { row := stampAgainRow, standIns := [], harness := (true, "6d2b4b8b12bb7df7066615765eeedf542e86c054a42bd297a7098209e497ca69"), looks := true }, kinds := [], alts := [], laidByText := true, laidKinds := [.data, .data, .data, .data], laidTests := true, laidLooks := .later }
def StampAgainCardSaid : Prop := Claim7.holds Tryd.pinned (.plain (OpenSpec.ofChange stampAgainSpec)) stampAgainCard

/-- THE TIED CARD OF 'courierlaw01.StampOrder'. -/
def stampOrderCard : Claim7 := { stood := { row := stampOrderRow, standIns := [], harness := (true, "6d2b4b8b12bb7df7066615765eeedf542e86c054a42bd297a7098209e497ca69"), looks := true }, kinds := [], alts := [], laidByText := true, laidKinds := [.data, .data, .data, .data], laidTests := true, laidLooks := .later }
def StampOrderCardSaid : Prop := Claim7.holds Tryd.pinned (.plain (OpenSpec.ofChange stampOrderSpec)) stampOrderCard

/-- THE TIED CARD OF 'courierlaw01.StampGoes'. -/
def stampGoesCard : Claim7 := { stood := { row := stampGoesRow, standIns := [], harness := (true, "6d2b4b8b12bb7df7066615765eeedf542e86c054a42bd297a7098209e497ca69"), looks := true }, kinds := [], alts := [], laidByText := true, laidKinds := [.data, .data, .data, .data], laidTests := true, laidLooks := .later }
def StampGoesCardSaid : Prop := Claim7.holds Tryd.pinned (.plain (OpenSpec.ofChange stampGoesSpec)) stampGoesCard

/-- THE SECOND FORM's CARD OF 'courierlaw01.StampPrints'. -/
def stampPrintsUptoCard : Claim7 := { stood := { row := stampPrintsUptoRow, standIns := [], harness := (true, "6d2b4b8b12bb7df7066615765eeedf542e86c054a42bd297a7098209e497ca69"), looks := true }, kinds := [], alts := [], laidByText := true, laidKinds := [.data, .data, .data, .handle, .data], laidTests := true, laidLooks := .later }
def StampPrintsUptoCardSaid : Prop := Claim7.holds Tryd.pinned (.plain (OpenSpec.upto stampPrintsSpec)) stampPrintsUptoCard

/-- THE SECOND FORM's CARD OF 'courierlaw01.StampBack'. -/
def stampBackUptoCard : Claim7 := { stood := { row := stampBackUptoRow, standIns := [], harness := (true, "6d2b4b8b12bb7df7066615765eeedf542e86c054a42bd297a7098209e497ca69"), looks := true }, kinds := [], alts := [], laidByText := true, laidKinds := [.data, .data, .data, .data], laidTests := true, laidLooks := .later }
def StampBackUptoCardSaid : Prop := Claim7.holds Tryd.pinned (.plain (OpenSpec.upto stampBackSpec)) stampBackUptoCard

/-- THE SECOND FORM's CARD OF 'courierlaw01.StampBackToo'. -/
def stampBackTooUptoCard : Claim7 := { stood := { row := stampBackTooUptoRow, standIns := [], harness := (true, "6d2b4b8b12bb7df7066615765eeedf542e86c054a42bd297a7098209e497ca69"), looks := true }, kinds := [], alts := [], laidByText := true, laidKinds := [.data, .data, .data, .data], laidTests := true, laidLooks := .later }
def StampBackTooUptoCardSaid : Prop := Claim7.holds Tryd.pinned (.plain (OpenSpec.upto stampBackTooSpec)) stampBackTooUptoCard

/-- THE SECOND FORM's CARD OF 'courierlaw01.StampAgain'. -/
def stampAgainUptoCard : Claim7 := { stood := { row := stampAgainUptoRow, standIns := [], harness := (true, "6d2b4b8b12bb7df7066615765eeedf542e86c054a42bd297a7098209e497ca69"), looks := true }, kinds := [], alts := [], laidByText := true, laidKinds := [.data, .data, .data, .data], laidTests := true, laidLooks := .later }
def StampAgainUptoCardSaid : Prop := Claim7.holds Tryd.pinned (.plain (OpenSpec.upto stampAgainSpec)) stampAgainUptoCard

/-- THE SECOND FORM's CARD OF 'courierlaw01.StampOrder'. -/
def stampOrderUptoCard : Claim7 := { stood := { row := stampOrderUptoRow, standIns := [], harness := (true, "6d2b4b8b12bb7df7066615765eeedf542e86c054a42bd297a7098209e497ca69"), looks := true }, kinds := [], alts := [], laidByText := true, laidKinds := [.data, .data, .data, .data], laidTests := true, laidLooks := .later }
def StampOrderUptoCardSaid : Prop := Claim7.holds Tryd.pinned (.plain (OpenSpec.upto stampOrderSpec)) stampOrderUptoCard

/-- THE SECOND FORM's CARD OF 'courierlaw01.StampGoes'. -/
def stampGoesUptoCard : Claim7 := { stood := { row := stampGoesUptoRow, standIns := [], harness := (true, "6d2b4b8b12bb7df7066615765eeedf542e86c054a42bd297a7098209e497ca69"), looks := true }, kinds := [], alts := [], laidByText := true, laidKinds := [.data, .data, .data, .data], laidTests := true, laidLooks := .later }
def StampGoesUptoCardSaid : Prop := Claim7.holds Tryd.pinned (.plain (OpenSpec.upto stampGoesSpec)) stampGoesUptoCard
end Rows
end Go.Proofs.YtpcdkafjogpdkaaDoor
