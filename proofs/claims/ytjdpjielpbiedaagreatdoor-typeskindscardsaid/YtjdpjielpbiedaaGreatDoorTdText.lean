/-
  primitiveOf of "NM"; judge; Text of "NM".
-/
import Derived.Test.YtjdpjielpbiedaaGreatDoorTdCut
import Derived.Laws.EntriesVeiled
namespace Go.Proofs.YtjdpjielpbiedaaGreatDoor.Td
open Go.RowKit

abbrev fv (f : FuncId) : Value := .func (.func f) #[] #[]
/-- The primitive kinds' rules. -/
abbrev prA : Array Value := #[.string ⟨#[83, 84]⟩, fv 41, fv 42, .slice none 0 0, .string ⟨#[84, 88]⟩, fv 43, fv 42, .slice none 0 0, .string ⟨#[70, 84]⟩, fv 43, fv 44, .slice none 0 0, .string ⟨#[78, 77]⟩, fv 45, fv 44, .slice none 0 0, .string ⟨#[83, 73]⟩, fv 46, fv 44, .slice none 0 0, .string ⟨#[73, 68]⟩, fv 47, fv 44, .slice none 0 0, .string ⟨#[73, 83]⟩, fv 47, fv 44, .slice none 0 0, .string ⟨#[68, 84]⟩, fv 48, fv 44, .slice none 0 0, .string ⟨#[84, 77]⟩, fv 49, fv 44, .slice none 0 0, .string ⟨#[84, 83]⟩, fv 50, fv 44, .slice none 0 0]
theorem pidx_0 (w : World) : (Instr.index 93 (.agg prA) (.int .i64 0)).run Tryz.prog w = .ok (.agg #[.string ⟨#[83, 84]⟩, fv 41, fv 42, .slice none 0 0]) w := by kernel_rfl
theorem pidx_1 (w : World) : (Instr.index 93 (.agg prA) (.int .i64 1)).run Tryz.prog w = .ok (.agg #[.string ⟨#[84, 88]⟩, fv 43, fv 42, .slice none 0 0]) w := by kernel_rfl
theorem pidx_2 (w : World) : (Instr.index 93 (.agg prA) (.int .i64 2)).run Tryz.prog w = .ok (.agg #[.string ⟨#[70, 84]⟩, fv 43, fv 44, .slice none 0 0]) w := by kernel_rfl
theorem pidx_3 (w : World) : (Instr.index 93 (.agg prA) (.int .i64 3)).run Tryz.prog w = .ok (.agg #[.string ⟨#[78, 77]⟩, fv 45, fv 44, .slice none 0 0]) w := by kernel_rfl
theorem pidx_4 (w : World) : (Instr.index 93 (.agg prA) (.int .i64 4)).run Tryz.prog w = .ok (.agg #[.string ⟨#[83, 73]⟩, fv 46, fv 44, .slice none 0 0]) w := by kernel_rfl
theorem pidx_5 (w : World) : (Instr.index 93 (.agg prA) (.int .i64 5)).run Tryz.prog w = .ok (.agg #[.string ⟨#[73, 68]⟩, fv 47, fv 44, .slice none 0 0]) w := by kernel_rfl
theorem pidx_6 (w : World) : (Instr.index 93 (.agg prA) (.int .i64 6)).run Tryz.prog w = .ok (.agg #[.string ⟨#[73, 83]⟩, fv 47, fv 44, .slice none 0 0]) w := by kernel_rfl
theorem pidx_7 (w : World) : (Instr.index 93 (.agg prA) (.int .i64 7)).run Tryz.prog w = .ok (.agg #[.string ⟨#[68, 84]⟩, fv 48, fv 44, .slice none 0 0]) w := by kernel_rfl
theorem pidx_8 (w : World) : (Instr.index 93 (.agg prA) (.int .i64 8)).run Tryz.prog w = .ok (.agg #[.string ⟨#[84, 77]⟩, fv 49, fv 44, .slice none 0 0]) w := by kernel_rfl
theorem pidx_9 (w : World) : (Instr.index 93 (.agg prA) (.int .i64 9)).run Tryz.prog w = .ok (.agg #[.string ⟨#[84, 83]⟩, fv 50, fv 44, .slice none 0 0]) w := by kernel_rfl
set_option maxRecDepth 100000 in
set_option maxHeartbeats 4000000 in
theorem prim_nm (w : World) : Calls Tryz.prog 31 #[.string ⟨#[78, 77]⟩] w fun e w' => e = .returned (.tuple #[.agg #[.string ⟨#[78, 77]⟩, .func (.func 45) #[] #[], .func (.func 44) #[] #[], .slice none 0 0], .bool true]) ∧ Below w.heap.size w w' := by
  have i0 := pidx_0
  have i1 := pidx_1
  have i2 := pidx_2
  have i3 := pidx_3
  go_enter Tryz.func31, Tryz.ntmps31
  go_wp2_with fail
  refine wp_loop_rounds 4 ?_
  rw [rounds_succ]
  go_wp2_with fail
  rw [rounds_succ]
  go_wp2_with fail
  rw [rounds_succ]
  go_wp2_with fail
  rw [rounds_succ]
  go_wp2_with fail
  refine bodyPost_ret ?_ rfl ⟨rfl, ?_⟩
  · simp [results, Tryz.results31, go_sem]
  · repeat (first | exact Below.refl _ _ | refine Below.setCell ?_ (by simp) _ | refine Below.alloc ?_ (by simp <;> omega) _)
end Go.Proofs.YtjdpjielpbiedaaGreatDoor.Td
