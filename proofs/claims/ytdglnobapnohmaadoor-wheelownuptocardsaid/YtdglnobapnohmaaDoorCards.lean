/-
  DERIVED. GIVEN WITH THE SEED: THE CARDS: each row of YtdglnobapnohmaaDoorRows.lean that lists a variable, with what it lists TIED to the program's text (the seventh form; the later family's looks); each row that meets fmt, with fmt's text TOLD by the authors' own Lean function (tested against real Go, not proved from fmt's source: count such statements apart). THE CARD IS WHAT COUNTS. Prove the row's statement (the work); the ties are given (YtdglnobapnohmaaDoorTie.lean); close each card by the builder's one call (the guide's Derived/Test/ToyasCard.lean, 'card_holds'). Laid BY PROGRAM, IN A SANDBOX (cutbox-door.mjs). By AI agents, Wed Nov 11 2026. No macro, syntax, notation, axiom, sorry.
-/
import Derived.Test.YtdglnobapnohmaaDoorRows
import GoSem.ClaimSeven
namespace Go.Proofs.YtdglnobapnohmaaDoor
namespace Rows

/-- THE TIED CARD OF 'courierlaw13.WheelOwn'. -/
def wheelOwnCard : Claim7 := { stood := { row := wheelOwnRow, standIns := [], harness := (true, "a117bf1726fef598c42517a84fc248a015f0c400d5f994dea2238883decfb474"), looks := true }, kinds := [], alts := [], laidByText := true, laidKinds := [.handle], laidTests := true, laidLooks := .later }
def WheelOwnCardSaid : Prop := Claim7.holds Tryd.pinned (.plain (OpenSpec.ofChange wheelOwnSpec)) wheelOwnCard

/-- THE SECOND FORM's CARD OF 'courierlaw13.WheelOwn'. -/
def wheelOwnUptoCard : Claim7 := { stood := { row := wheelOwnUptoRow, standIns := [], harness := (true, "a117bf1726fef598c42517a84fc248a015f0c400d5f994dea2238883decfb474"), looks := true }, kinds := [], alts := [], laidByText := true, laidKinds := [.handle], laidTests := true, laidLooks := .later }
def WheelOwnUptoCardSaid : Prop := Claim7.holds Tryd.pinned (.plain (OpenSpec.upto wheelOwnSpec)) wheelOwnUptoCard
end Rows
end Go.Proofs.YtdglnobapnohmaaDoor
