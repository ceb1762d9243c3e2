/-
  DERIVED. GIVEN WITH THE SEED: THE CARDS: each row of YtcllcpjdoaeaiaaDoorRRRRows.lean that lists a variable, with what it lists TIED to the program's text (the seventh form; the later family's looks); each row that meets fmt, with fmt's text TOLD by the authors' own Lean function (tested against real Go, not proved from fmt's source: count such statements apart). THE CARD IS WHAT COUNTS. Prove the row's statement (the work); the ties are given (YtcllcpjdoaeaiaaDoorRRRTie.lean); close each card by the builder's one call (the guide's Derived/Test/ToyasCard.lean, 'card_holds'). Laid BY PROGRAM, IN A SANDBOX (cutbox-door.mjs). By AI agents, Wed Nov 11 2026. No macro, syntax, notation, axiom, sorry.
-/
import Derived.Test.YtcllcpjdoaeaiaaDoorRRRRows
import GoSem.ClaimSeven
namespace Go.Proofs.YtcllcpjdoaeaiaaDoorRRR
namespace Rows

/-- THE TIED CARD OF 'courierlaw05.EscReads'. -/
def escReadsCard : Claim7 := { stood := { row := escReadsRow, standIns := [], harness := (true, "4821ea3b5b3e7a8998a9ca945f336ee715479ec1584f8d17080cffe943ff7130"), looks := true }, kinds := [], alts := [], laidByText := true, laidKinds := [.data], laidTests := true, laidLooks := .later }
def EscReadsCardSaid : Prop := Claim7.holds Tryd.pinned (.plain (OpenSpec.ofChange escReadsSpec)) escReadsCard

/-- THE TIED CARD OF 'courierlaw05.EscMarks'. -/
def escMarksCard : Claim7 := { stood := { row := escMarksRow, standIns := [], harness := (true, "4821ea3b5b3e7a8998a9ca945f336ee715479ec1584f8d17080cffe943ff7130"), looks := true }, kinds := [], alts := [], laidByText := true, laidKinds := [.data], laidTests := true, laidLooks := .later }
def EscMarksCardSaid : Prop := Claim7.holds Tryd.pinned (.plain (OpenSpec.ofChange escMarksSpec)) escMarksCard

/-- THE TIED CARD OF 'courierlaw05.EscEscapes'. -/
def escEscapesCard : Claim7 := { stood := { row := escEscapesRow, standIns := [], harness := (true, "4821ea3b5b3e7a8998a9ca945f336ee715479ec1584f8d17080cffe943ff7130"), looks := true }, kinds := [], alts := [], laidByText := true, laidKinds := [.data, .data, .data, .data], laidTests := true, laidLooks := .later }
def EscEscapesCardSaid : Prop := Claim7.holds Tryd.pinned (.plain (OpenSpec.ofChange escEscapesSpec)) escEscapesCard

/-- THE SECOND FORM's CARD OF 'courierlaw05.EscReads'. -/
def escReadsUptoCard : Claim7 := { stood := { row := escReadsUptoRow, standIns := [], harness := (true, "4821ea3b5b3e7a8998a9ca945f336ee715479ec1584f8d17080cffe943ff7130"), looks := true }, kinds := [], alts := [], laidByText := true, laidKinds := [.data], laidTests := true, laidLooks := .later }
def EscReadsUptoCardSaid : Prop := Claim7.holds Tryd.pinned (.plain (OpenSpec.upto escReadsSpec)) escReadsUptoCard

/-- THE SECOND FORM's CARD OF 'courierlaw05.EscMarks'. -/
def escMarksUptoCard : Claim7 := { stood := { row := escMarksUptoRow, standIns := [], harness := (true, "4821ea3b5b3e7a8998a9ca945f336ee715479ec1584f8d17080cffe943ff7130"), looks := true }, kinds := [], alts := [], laidByText := true, laidKinds := [.data], laidTests := true, laidLooks := .later }
def EscMarksUptoCardSaid : Prop := Claim7.holds Tryd.pinned (.plain (OpenSpec.upto escMarksSpec)) escMarksUptoCard

/-- THE SECOND FORM's CARD OF 'courierlaw05.EscEscapes'. -/
def escEscapesUptoCard : Claim7 := { stood := { row := escEscapesUptoRow, standIns := [], harness := (true, "4821ea3b5b3e7a8998a9ca945f336ee715479ec1584f8d17080cffe943ff7130"), looks := true }, kinds := [], alts := [], laidByText := true, laidKinds := [.data, .data, .data, .data], laidTests := true, laidLooks := .later }
def EscEscapesUptoCardSaid : Prop := Claim7.holds Tryd.pinned (.plain (OpenSpec.upto escEscapesSpec)) escEscapesUptoCard
end Rows
end Go.Proofs.YtcllcpjdoaeaiaaDoorRRR
