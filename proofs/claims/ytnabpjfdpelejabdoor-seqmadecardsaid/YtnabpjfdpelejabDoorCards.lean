/-
  DERIVED. GIVEN WITH THE SEED: THE CARDS: each row of YtnabpjfdpelejabDoorRows.lean that lists a variable, with what it lists TIED to the program's text (the seventh form; the later family's looks); each row that meets fmt, with fmt's text TOLD by the authors' own Lean function (tested against real Go, not proved from fmt's source: count such statements apart). THE CARD IS WHAT COUNTS. Prove the row's statement (the work); the ties are given (YtnabpjfdpelejabDoorTie.lean); close each card by the builder's one call (the guide's Derived/Test/ToyasCard.lean, 'card_holds'). Laid BY PROGRAM, IN A SANDBOX (cutbox-door.mjs). By AI agents, Wed Nov 11 2026. No macro, syntax, notation, axiom, sorry.
-/
import Derived.Test.YtnabpjfdpelejabDoorRows
import GoSem.ClaimSeven
namespace Go.Proofs.YtnabpjfdpelejabDoor
namespace Rows

/-- THE TIED CARD OF 'courierlaw12.SeqMade'. -/
def seqMadeCard : Claim7 := { stood := { row := seqMadeRow, standIns := [], harness := (true, "a66c8da631f0700ff0c49a87e1e28c90b0a01dc68bff53c07e5096e79cc3f63e"), looks := true }, kinds := [], alts := [], laidByText := true, laidKinds := [.handle], laidTests := true, laidLooks := .later }
def SeqMadeCardSaid : Prop := Claim7.holds Tryd.pinned (.plain (OpenSpec.ofChange seqMadeSpec)) seqMadeCard

/-- THE SECOND FORM's CARD OF 'courierlaw12.SeqMade'. -/
def seqMadeUptoCard : Claim7 := { stood := { row := seqMadeUptoRow, standIns := [], harness := (true, "a66c8da631f0700ff0c49a87e1e28c90b0a01dc68bff53c07e5096e79cc3f63e"), looks := true }, kinds := [], alts := [], laidByText := true, laidKinds := [.handle], laidTests := true, laidLooks := .later }
def SeqMadeUptoCardSaid : Prop := Claim7.holds Tryd.pinned (.plain (OpenSpec.upto seqMadeSpec)) seqMadeUptoCard
end Rows
end Go.Proofs.YtnabpjfdpelejabDoor
