/-
  DecideEnds: noted or not.
-/
import Derived.Test.YtjmjimbhoncidaaDoorDcEndsT
import Derived.Test.YtjmjimbhoncidaaDoorDcEndsF
namespace Go.Proofs.YtjmjimbhoncidaaDoor
open Go.RowKit

theorem ends_law (D : DecOk) (e : Bool) (a p tries : Int) (noted : Bool) (ao : Option Addr) (cap : Nat) (xs : List (Bool × ByteArray × Bool)) (w : World) (hV : PV w) (hS : Stps w ao xs) (hn : xs.length ≤ 140737488355328) : Calls Tryd.prog 9 #[.agg #[.bool e, .int .i64 a, .int .i64 p], .int .i64 tries, .bool noted, .slice ao xs.length cap] w fun r w' => r = .returned (.bool true) ∧ Below w.heap.size w w' := by
  cases noted
  · exact ends_false D e a p tries ao cap xs w hV hS hn
  · exact ends_true D e a p tries ao cap xs w hV hS hn
end Go.Proofs.YtjmjimbhoncidaaDoor
