/-
  One call at a pair of senders (the law's plays): both answer the same.
-/
import Derived.Test.YtnabpjfdpelejabDoorSqSend
namespace Go.Proofs.YtnabpjfdpelejabDoor
open Go.RowKit

/-- What a call at a pair answers. -/
def PlQ (W w : World) (x : Nat) (so : Option Nat) (r : Ending) (w' : World) : Prop := r = .returned (.bool true) ∧ (∃ n, PS w' x so n) ∧ Off (PF x so) w w' ∧ In W w' (PF x so)
end Go.Proofs.YtnabpjfdpelejabDoor
