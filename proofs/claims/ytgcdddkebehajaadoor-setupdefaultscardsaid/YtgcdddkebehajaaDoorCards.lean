/-
  DERIVED. GIVEN WITH THE SEED: THE CARDS: each row of YtgcdddkebehajaaDoorRows.lean that lists a variable, with what it lists TIED to the program's text (the seventh form; the later family's looks); each row that meets fmt, with fmt's text TOLD by the authors' own Lean function (tested against real Go, not proved from fmt's source: count such statements apart). THE CARD IS WHAT COUNTS. Prove the row's statement (the work); the ties are given (YtgcdddkebehajaaDoorTie.lean); close each card by the builder's one call (the guide's Derived/Test/ToyasCard.lean, 'card_holds'). Laid BY PROGRAM, IN A SANDBOX (cutbox-door.mjs). By AI agents, Wed Nov 11 2026. No macro, syntax, notation, axiom, sorry.
-/
import Derived.Test.YtgcdddkebehajaaDoorRows
import GoSem.ClaimSeven
namespace Go.Proofs.YtgcdddkebehajaaDoor
namespace Rows

/-- THE TIED CARD OF 'courierlaw17.SetupDefaults'. -/
def setupDefaultsCard : Claim7 := { stood := { row := setupDefaultsRow, standIns := [], harness := (true, "5282236f4ee87b3848ab77ad2940f33a65fc369b9c60b48f3bbb2b1d461c0805"), looks := true }, kinds := [], alts := [], laidByText := true, laidKinds := [.handle, .listed, .data, .data, .data, .data], laidTests := true, laidLooks := .later }
def SetupDefaultsCardSaid : Prop := Claim7.holds Tryd.pinned (.plain (OpenSpec.ofChange setupDefaultsSpec)) setupDefaultsCard

/-- THE SECOND FORM's CARD OF 'courierlaw17.SetupDefaults'. -/
def setupDefaultsUptoCard : Claim7 := { stood := { row := setupDefaultsUptoRow, standIns := [], harness := (true, "5282236f4ee87b3848ab77ad2940f33a65fc369b9c60b48f3bbb2b1d461c0805"), looks := true }, kinds := [], alts := [], laidByText := true, laidKinds := [.handle, .listed, .data, .data, .data, .data], laidTests := true, laidLooks := .later }
def SetupDefaultsUptoCardSaid : Prop := Claim7.holds Tryd.pinned (.plain (OpenSpec.upto setupDefaultsSpec)) setupDefaultsUptoCard
end Rows
end Go.Proofs.YtgcdddkebehajaaDoor
