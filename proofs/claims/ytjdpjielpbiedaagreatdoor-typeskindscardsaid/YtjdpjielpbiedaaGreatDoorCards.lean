/-
  DERIVED. GIVEN WITH THE SEED: THE CARDS: each row of YtjdpjielpbiedaaGreatDoorRows.lean that lists a variable, with what it lists TIED to the program's text (the seventh form; the later family's looks); each row that meets fmt, with fmt's text TOLD by the authors' own Lean function (tested against real Go, not proved from fmt's source: count such statements apart). THE CARD IS WHAT COUNTS. Prove the row's statement (the work); the ties are given (YtjdpjielpbiedaaGreatDoorTie.lean); close each card by the builder's one call (the guide's Derived/Test/ToyasCard.lean, 'card_holds'). Laid BY PROGRAM, IN A SANDBOX (cutbox-door.mjs). By AI agents, Wed Nov 11 2026. No macro, syntax, notation, axiom, sorry.
-/
import Derived.Test.YtjdpjielpbiedaaGreatDoorRows
import GoSem.ClaimSeven
namespace Go.Proofs.YtjdpjielpbiedaaGreatDoor
namespace Rows

/-- THE TIED CARD OF 'courierlaw08.TypesKinds'. -/
def typesKindsCard : Claim7 := { stood := { row := typesKindsRow, standIns := [], harness := (true, "94a3de3c6df440eadfee19dd12a3bc1f5e9e4b8c2c3e956fd63e26e37eb5ffc0"), looks := true }, kinds := [], alts := [], laidByText := true, laidKinds := [.handle, .listed, .data, .data, .data, .data], laidTests := true, laidLooks := .later }
def TypesKindsCardSaid : Prop := Claim7.holds Tryz.pinned (.plain (OpenSpec.ofChange typesKindsSpec)) typesKindsCard

/-- THE SECOND FORM's CARD OF 'courierlaw08.TypesKinds'. -/
def typesKindsUptoCard : Claim7 := { stood := { row := typesKindsUptoRow, standIns := [], harness := (true, "94a3de3c6df440eadfee19dd12a3bc1f5e9e4b8c2c3e956fd63e26e37eb5ffc0"), looks := true }, kinds := [], alts := [], laidByText := true, laidKinds := [.handle, .listed, .data, .data, .data, .data], laidTests := true, laidLooks := .later }
def TypesKindsUptoCardSaid : Prop := Claim7.holds Tryz.pinned (.plain (OpenSpec.upto typesKindsSpec)) typesKindsUptoCard
end Rows
end Go.Proofs.YtjdpjielpbiedaaGreatDoor
