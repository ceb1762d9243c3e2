/-
  DERIVED. GIVEN WITH THE SEED: THE CARDS: each row of YtkpebmhokdckfaaDoorRows.lean that lists a variable, with what it lists TIED to the program's text (the seventh form; the later family's looks); each row that meets fmt, with fmt's text TOLD by the authors' own Lean function (tested against real Go, not proved from fmt's source: count such statements apart). THE CARD IS WHAT COUNTS. Prove the row's statement (the work); the ties are given (YtkpebmhokdckfaaDoorTie.lean); close each card by the builder's one call (the guide's Derived/Test/ToyasCard.lean, 'card_holds'). Laid BY PROGRAM, IN A SANDBOX (cutbox-door.mjs). By AI agents, Wed Nov 11 2026. No macro, syntax, notation, axiom, sorry.
-/
import Derived.Test.YtkpebmhokdckfaaDoorRows
import GoSem.ClaimSeven
namespace Go.Proofs.YtkpebmhokdckfaaDoor
namespace Rows

/-- THE TIED CARD OF 'courierlaw05.EscEscapes'. -/
def escEscapesCard : Claim7 := { stood := { row := escEscapesRow, standIns := [], harness := (true, "d1ff2efcd39757cf9dbae23e6252fa47ca9a23a48e1267ab078bd0c7399b62e6"), looks := true }, kinds := [], alts := [], laidByText := true, laidKinds := [.data, .data, .data, .data], laidTests := true, laidLooks := .later }
def EscEscapesCardSaid : Prop := Claim7.holds Tryd.pinned (.plain (OpenSpec.ofChange escEscapesSpec)) escEscapesCard

/-- THE SECOND FORM's CARD OF 'courierlaw05.EscEscapes'. -/
def escEscapesUptoCard : Claim7 := { stood := { row := escEscapesUptoRow, standIns := [], harness := (true, "d1ff2efcd39757cf9dbae23e6252fa47ca9a23a48e1267ab078bd0c7399b62e6"), looks := true }, kinds := [], alts := [], laidByText := true, laidKinds := [.data, .data, .data, .data], laidTests := true, laidLooks := .later }
def EscEscapesUptoCardSaid : Prop := Claim7.holds Tryd.pinned (.plain (OpenSpec.upto escEscapesSpec)) escEscapesUptoCard
end Rows
end Go.Proofs.YtkpebmhokdckfaaDoor
