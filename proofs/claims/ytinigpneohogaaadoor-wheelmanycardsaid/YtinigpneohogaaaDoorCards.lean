/-
  DERIVED. GIVEN WITH THE SEED: THE CARDS: each row of YtinigpneohogaaaDoorRows.lean that lists a variable, with what it lists TIED to the program's text (the seventh form; the later family's looks); each row that meets fmt, with fmt's text TOLD by the authors' own Lean function (tested against real Go, not proved from fmt's source: count such statements apart). THE CARD IS WHAT COUNTS. Prove the row's statement (the work); the ties are given (YtinigpneohogaaaDoorTie.lean); close each card by the builder's one call (the guide's Derived/Test/ToyasCard.lean, 'card_holds'). Laid BY PROGRAM, IN A SANDBOX (cutbox-door.mjs). By AI agents, Wed Nov 11 2026. No macro, syntax, notation, axiom, sorry.
-/
import Derived.Test.YtinigpneohogaaaDoorRows
import GoSem.ClaimSeven
namespace Go.Proofs.YtinigpneohogaaaDoor
namespace Rows

/-- THE TIED CARD OF 'courierlaw13.WheelMany'. -/
def wheelManyCard : Claim7 := { stood := { row := wheelManyRow, standIns := [], harness := (true, "6a8facb347a40505caf71800b0c46dce4ff4ce8c3fdd84faacfb215cca4af6e0"), looks := true }, kinds := [], alts := [], laidByText := true, laidKinds := [.handle], laidTests := true, laidLooks := .later }
def WheelManyCardSaid : Prop := Claim7.holds Tryd.pinned (.plain (OpenSpec.ofChange wheelManySpec)) wheelManyCard

/-- THE TIED CARD OF 'courierlaw13.WheelNone'. -/
def wheelNoneCard : Claim7 := { stood := { row := wheelNoneRow, standIns := [], harness := (true, "6a8facb347a40505caf71800b0c46dce4ff4ce8c3fdd84faacfb215cca4af6e0"), looks := true }, kinds := [], alts := [], laidByText := true, laidKinds := [.handle], laidTests := true, laidLooks := .later }
def WheelNoneCardSaid : Prop := Claim7.holds Tryd.pinned (.plain (OpenSpec.ofChange wheelNoneSpec)) wheelNoneCard

/-- THE TIED CARD OF 'courierlaw13.WheelPlays'. -/
def wheelPlaysCard : Claim7 := { stood := { row := wheelPlaysRow, standIns := [], harness := (true, "6a8facb347a40505caf71800b0c46dce4ff4ce8c3fdd84faacfb215cca4af6e0"), looks := true }, kinds := [], alts := [], laidByText := true, laidKinds := [.handle], laidTests := true, laidLooks := .later }
def WheelPlaysCardSaid : Prop := Claim7.holds Tryd.pinned (.plain (OpenSpec.ofChange wheelPlaysSpec)) wheelPlaysCard

/-- THE SECOND FORM's CARD OF 'courierlaw13.WheelMany'. -/
def wheelManyUptoCard : Claim7 := { stood := { row := wheelManyUptoRow, standIns := [], harness := (true, "6a8facb347a40505caf71800b0c46dce4ff4ce8c3fdd84faacfb215cca4af6e0"), looks := true }, kinds := [], alts := [], laidByText := true, laidKinds := [.handle], laidTests := true, laidLooks := .later }
def WheelManyUptoCardSaid : Prop := Claim7.holds Tryd.pinned (.plain (OpenSpec.upto wheelManySpec)) wheelManyUptoCard

/-- THE SECOND FORM's CARD OF 'courierlaw13.WheelNone'. -/
def wheelNoneUptoCard : Claim7 := { stood := { row := wheelNoneUptoRow, standIns := [], harness := (true, "6a8facb347a40505caf71800b0c46dce4ff4ce8c3fdd84faacfb215cca4af6e0"), looks := true }, kinds := [], alts := [], laidByText := true, laidKinds := [.handle], laidTests := true, laidLooks := .later }
def WheelNoneUptoCardSaid : Prop := Claim7.holds Tryd.pinned (.plain (OpenSpec.upto wheelNoneSpec)) wheelNoneUptoCard

/-- THE SECOND FORM's CARD OF 'courierlaw13.WheelPlays'. -/
def wheelPlaysUptoCard : Claim7 := { stood := { row := wheelPlaysUptoRow, standIns := [], harness := (true, "6a8facb347a40505caf71800b0c46dce4ff4ce8c3fdd84faacfb215cca4af6e0"), looks := true }, kinds := [], alts := [], laidByText := true, laidKinds := [.handle], laidTests := true, laidLooks := .later }
def WheelPlaysUptoCardSaid : Prop := Claim7.holds Tryd.pinned (.plain (OpenSpec.upto wheelPlaysSpec)) wheelPlaysUptoCard
end Rows
end Go.Proofs.YtinigpneohogaaaDoor
