/-
  InboxStill: whatever its numbers.
-/
import Derived.Test.YtnpndbehbcaghaaIbStill
namespace Go.Proofs.Ytnpndbehbcaghaa
open Go.RowKit

section
variable {K R : Int} {ao : Option Addr} {cap : Nat} {xs : List Opv}
theorem still_all (w : World) (hO : Ops w ao xs) (hm : xs.length ≤ 9223372036854775807) (hx : ∀ y ∈ xs, OpOk y) : Calls Try.prog 3 #[.int .i64 K, .int .i64 R, .slice ao xs.length cap] w fun r w' => r = .returned (.bool true) ∧ Below w.heap.size w w' := by
  by_cases h : 1 ≤ K ∧ K ≤ 64 ∧ 1 ≤ R ∧ R ≤ 32
  · exact still_law w h.1 h.2.1 h.2.2.1 h.2.2.2 hO hx rfl hm
  · exact still_no w h
end
end Go.Proofs.Ytnpndbehbcaghaa
