/-
  The document's link: New; a plain one.
-/
import Derived.Test.YtpcickhellkiaaaDoorLkRef
namespace Go.Proofs.YtpcickhellkiaaaDoor
open Go.RowKit

def lk0 : Array Value := #[.bool true, .slice none 0 0, .int .i64 (-1), .slice none 0 0, .int .i64 (-1)]
set_option maxHeartbeats 1000000 in
theorem rnew_any (w : World) : Calls Tryd.prog 26 #[] w fun e w' => e = .returned (.agg lk0) ∧ Below w.heap.size w w' := by
  go_enter Tryd.func26, Tryd.ntmps26
  go_wp2_with fail
  refine bodyPost_ret (v := .agg lk0) ?_ rfl ⟨rfl, (Below.refl _ _).alloc (Nat.le_refl _) _⟩
  simp [results, Tryd.results26, go_sem, lk0]
/-- A side of nothing. -/
def wy0 : Wy := ⟨none, 0, 0, [], -1⟩
theorem RLk.new {w : World} {rb : Nat} (h : w.heap[rb]? = some (.cells lk0 59 (0, 0))) : RLk w rb wy0 wy0 :=
  have k : WyOk w (rb + 1) wy0 := ⟨ERow.nil _ _ _ _ _, fun p hp => (List.not_mem_nil hp).elim, Nat.zero_le _⟩
  ⟨h, k, k, fun g hg => by simp [wyOwn, wy0, Value.ownBlock] at hg⟩
set_option maxHeartbeats 1000000 in
/-- A link that New did not make has no side. -/
theorem rway_plain {w : World} {rb : Nat} {s : Int} (h : w.cell? ⟨rb, 0, none⟩ = some (.bool false)) : Calls Tryd.prog 70 #[.pointer (some ⟨rb, 0, none⟩), .int .i64 s] w fun e w' => e = .returned (.tuple #[.pointer none, .int .i64 3]) ∧ w' = w := by
  go_enter Tryd.func70, Tryd.ntmps70
  go_wp2_with fail
  refine bodyPost_ret (v := .tuple #[.pointer none, .int .i64 3]) ?_ rfl ⟨rfl, rfl⟩
  simp [results, Tryd.results70, go_sem]
end Go.Proofs.YtpcickhellkiaaaDoor
