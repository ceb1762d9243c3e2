/-
  The law DiskZero, walked.
-/
import Derived.Test.YtlgjjemfckmidaaDkUn
import Derived.Test.YtlgjjemfckmidaaDkOps
namespace Go.Proofs.Ytlgjjemfckmidaa
open Go.RowKit

set_option maxHeartbeats 400000 in
theorem New_any (w : World) : Calls Try.prog 9 #[] w fun e w' => e = .returned (.pointer (some ⟨w.heap.size, 0, none⟩)) ∧ w' = w.alloc (.cells #[.slice none 0 0, .int .i64 0, .slice none 0 0, .int .i64 0, .int .i64 1, .int .i64 (-1), .int .i64 0, .int .i64 0, .int .i64 0] 75) := by
  go_enter Try.func9, Try.ntmps9
  go_wp2
  go_ret
  exact ⟨rfl, rfl⟩
set_option maxHeartbeats 400000 in
theorem Alive_1 {K : Nat} (w : World) (h : w.cell? ⟨K, 4, none⟩ = some (.int .i64 1)) :
    Calls Try.prog 24 #[.pointer (some ⟨K, 0, none⟩)] w fun e w' => e = .returned (.bool true) ∧ w' = w := by
  go_enter Try.func24, Try.ntmps24
  go_wp2
  go_ret
  exact ⟨rfl, rfl⟩
set_option maxHeartbeats 400000 in
theorem Alive_2 {K : Nat} (w : World) (h : w.cell? ⟨K, 4, none⟩ = some (.int .i64 2)) :
    Calls Try.prog 24 #[.pointer (some ⟨K, 0, none⟩)] w fun e w' => e = .returned (.bool false) ∧ w' = w := by
  go_enter Try.func24, Try.ntmps24
  go_wp2
  go_ret
  exact ⟨rfl, rfl⟩

end Go.Proofs.Ytlgjjemfckmidaa
