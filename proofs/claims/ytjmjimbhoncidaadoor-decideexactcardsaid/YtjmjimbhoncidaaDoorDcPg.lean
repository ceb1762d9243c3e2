/-
  The program's states, standing.
-/
import Derived.Test.YtjmjimbhoncidaaDoorDcPc
import Derived.Test.YtjmjimbhoncidaaDoorDcPd
import Derived.Laws.EntriesVeiled
import Derived.Deep.WholeRow
namespace Go.Proofs.YtjmjimbhoncidaaDoor
open Go.RowKit

abbrev fv (f : FuncId) : Value := .func (.func f) #[] #[]
/-- The states' table. -/
abbrev stA : Array Value := #[.nilFunc, .nilFunc, .nilFunc, fv 67, fv 68, fv 69, fv 70, fv 71, fv 69, fv 72, fv 71, fv 73, fv 66, fv 74, fv 75, fv 66, fv 74, fv 75, fv 76, fv 74, fv 75]
set_option maxRecDepth 100000 in
set_option maxHeartbeats 2000000 in
theorem states_any (w : World) : Calls Tryd.prog 65 #[] w fun r w' => r = .returned (.agg stA) ∧ Below w.heap.size w w' := by
  have hl := run_loadVar_new (P := Tryd.prog) w 138 stA 7 128 Tryd.underlying138 (by kernel_rfl)
  have hs : ∀ c, (c : Array Value).size = 21 → (w.alloc (.cells c 138)).setRow w.heap.size stA = w.alloc (.cells stA 138) := fun c _ => World.setRow_alloc_new w c stA _
  go_enter Tryd.func65, Tryd.ntmps65
  go_wp2_with (refine wpList_store_row rfl 138 (.tmp 0) (.tmp 10) rfl w.heap.size stA rfl rfl 138 _ (heap_alloc_last w _) ?_ ?_ ?_ ?_; kernel_rfl; kernel_rfl; kernel_rfl; rw [hs _ rfl])
  refine bodyPost_ret (v := .agg stA) ?_ rfl ⟨rfl, ?_⟩
  · simp [results, Tryd.results65, asAddr]
    exact hl
  · exact (Below.refl _ _).alloc (Nat.le_refl _) _
theorem idx_1 (w : World) : (Instr.index 138 (.agg stA) (.int .i64 1)).run Tryd.prog w = .ok (.agg #[fv 67, fv 68, fv 69]) w := by kernel_rfl
theorem idx_2 (w : World) : (Instr.index 138 (.agg stA) (.int .i64 2)).run Tryd.prog w = .ok (.agg #[fv 70, fv 71, fv 69]) w := by kernel_rfl
theorem idx_3 (w : World) : (Instr.index 138 (.agg stA) (.int .i64 3)).run Tryd.prog w = .ok (.agg #[fv 72, fv 71, fv 73]) w := by kernel_rfl
theorem idx_4 (w : World) : (Instr.index 138 (.agg stA) (.int .i64 4)).run Tryd.prog w = .ok (.agg #[fv 66, fv 74, fv 75]) w := by kernel_rfl
theorem idx_5 (w : World) : (Instr.index 138 (.agg stA) (.int .i64 5)).run Tryd.prog w = .ok (.agg #[fv 66, fv 74, fv 75]) w := by kernel_rfl
theorem idx_6 (w : World) : (Instr.index 138 (.agg stA) (.int .i64 6)).run Tryd.prog w = .ok (.agg #[fv 76, fv 74, fv 75]) w := by kernel_rfl
theorem pfit_1 (a b c : Bool) (w : World) : Calls Tryd.prog 67 #[.agg #[.bool a, .bool b, .bool c]] w fun r w' => r = .returned (.bool a) ∧ Below w.heap.size w w' := by
  go_enter Tryd.func67, Tryd.ntmps67
  go_wp2_with fail
  go_ret
  exact ⟨rfl, (Below.refl _ _).alloc (Nat.le_refl _) _⟩
theorem pfit_2 (a b c : Bool) (w : World) : Calls Tryd.prog 70 #[.agg #[.bool a, .bool b, .bool c]] w fun r w' => r = .returned (.bool b) ∧ Below w.heap.size w w' := by
  go_enter Tryd.func70, Tryd.ntmps70
  go_wp2_with fail
  go_ret
  exact ⟨rfl, (Below.refl _ _).alloc (Nat.le_refl _) _⟩
theorem pfit_3 (a b c : Bool) (w : World) : Calls Tryd.prog 72 #[.agg #[.bool a, .bool b, .bool c]] w fun r w' => r = .returned (.bool c) ∧ Below w.heap.size w w' := by
  go_enter Tryd.func72, Tryd.ntmps72
  go_wp2_with fail
  go_ret
  exact ⟨rfl, (Below.refl _ _).alloc (Nat.le_refl _) _⟩
theorem pfit_4 (a b c : Bool) (w : World) : Calls Tryd.prog 66 #[.agg #[.bool a, .bool b, .bool c]] w fun r w' => r = .returned (.bool true) ∧ Below w.heap.size w w' := by
  go_enter Tryd.func66, Tryd.ntmps66
  go_wp2_with fail
  go_ret
  exact ⟨rfl, (Below.refl _ _).alloc (Nat.le_refl _) _⟩
theorem pfit_6 (a b c : Bool) (w : World) : Calls Tryd.prog 76 #[.agg #[.bool a, .bool b, .bool c]] w fun r w' => r = .returned (.bool (a || b)) ∧ Below w.heap.size w w' := by
  cases a
  all_goals
    go_enter Tryd.func76, Tryd.ntmps76
    go_wp2_with fail
    go_ret
    exact ⟨rfl, (Below.refl _ _).alloc (Nat.le_refl _) _⟩
end Go.Proofs.YtjmjimbhoncidaaDoor
