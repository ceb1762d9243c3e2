/-
  primitiveOf of every kind.
-/
import Derived.Test.YtjdpjielpbiedaaGreatDoorTtLeaf
import Derived.Lib.Space
import Derived.Lib.LaidTab
namespace Go.Proofs.YtjdpjielpbiedaaGreatDoor.Td
open Go.RowKit

/-- What the table of tables holds. -/
abbrev tbA : Array Value := #[.int .i64 3, .string ⟨#[73, 68, 48, 48, 48, 51]⟩, .string ⟨#[65, 48, 49, 32, 65, 48, 50, 32, 65, 48, 51, 32, 65, 48, 52, 32, 65, 48, 56, 32, 65, 49, 49, 32, 65, 49, 50, 32, 65, 49, 51, 32, 79, 48, 49, 32, 79, 50, 49, 32, 80, 48, 49, 32, 81, 48, 49, 32, 82, 48, 49]⟩, .int .i64 8, .string ⟨#[73, 68, 48, 48, 48, 56]⟩, .string ⟨#[65, 65, 32, 65, 69, 32, 65, 82, 32, 67, 65, 32, 67, 69, 32, 67, 82]⟩, .int .i64 61, .string ⟨#[73, 68, 48, 48, 54, 49]⟩, .string ⟨#[68, 78, 83, 32, 73, 83, 79, 32, 77, 49, 48, 32, 77, 49, 49, 32, 85, 85, 73, 68]⟩, .int .i64 76, .string ⟨#[73, 68, 48, 48, 55, 54]⟩, .string ⟨#[65, 67, 75, 32, 65, 68, 84, 32, 66, 65, 82, 32, 79, 82, 77, 32, 79, 82, 85, 32, 81, 82, 89]⟩, .int .i64 103, .string ⟨#[73, 68, 48, 49, 48, 51]⟩, .string ⟨#[68, 32, 80, 32, 84]⟩, .int .i64 104, .string ⟨#[73, 68, 48, 49, 48, 52]⟩, .string ⟨#[50, 46, 49, 32, 50, 46, 50, 32, 50, 46, 51, 32, 50, 46, 51, 46, 49, 32, 50, 46, 52, 32, 50, 46, 53, 32, 50, 46, 53, 46, 49]⟩, .int .i64 155, .string ⟨#[73, 68, 48, 49, 53, 53]⟩, .string ⟨#[65, 76, 32, 69, 82, 32, 78, 69, 32, 83, 85]⟩, .int .i64 357, .string ⟨#[73, 68, 48, 51, 53, 55]⟩, .string ⟨#[48, 32, 49, 48, 48, 32, 49, 48, 49, 32, 49, 48, 50, 32, 49, 48, 51, 32, 50, 48, 48, 32, 50, 48, 49, 32, 50, 48, 50, 32, 50, 48, 51, 32, 50, 48, 52, 32, 50, 48, 53, 32, 50, 48, 54, 32, 50, 48, 55]⟩, .int .i64 516, .string ⟨#[73, 68, 48, 53, 49, 54]⟩, .string ⟨#[69, 32, 70, 32, 73, 32, 87]⟩]
def Tabs (w : World) : Prop := ∀ o, w.cell? ⟨0, o, none⟩ = tbA[o]?
theorem Tabs.below {w w' : World} (h : Tabs w) (hb : Below w.heap.size w w') : Tabs w' := fun o => by
  have hl := cell_lt (show w.cell? ⟨0, 0, none⟩ = some (.int .i64 3) from h 0)
  rw [hb.cell (p := ⟨0, o, none⟩) hl]; exact h o
theorem tidx_0 (w : World) : (Instr.index 57 (.agg tbA) (.int .i64 0)).run Tryz.prog w = .ok (.agg #[.int .i64 3, .string ⟨#[73, 68, 48, 48, 48, 51]⟩, .string ⟨#[65, 48, 49, 32, 65, 48, 50, 32, 65, 48, 51, 32, 65, 48, 52, 32, 65, 48, 56, 32, 65, 49, 49, 32, 65, 49, 50, 32, 65, 49, 51, 32, 79, 48, 49, 32, 79, 50, 49, 32, 80, 48, 49, 32, 81, 48, 49, 32, 82, 48, 49]⟩]) w := by kernel_rfl
theorem tidx_1 (w : World) : (Instr.index 57 (.agg tbA) (.int .i64 1)).run Tryz.prog w = .ok (.agg #[.int .i64 8, .string ⟨#[73, 68, 48, 48, 48, 56]⟩, .string ⟨#[65, 65, 32, 65, 69, 32, 65, 82, 32, 67, 65, 32, 67, 69, 32, 67, 82]⟩]) w := by kernel_rfl
theorem tidx_2 (w : World) : (Instr.index 57 (.agg tbA) (.int .i64 2)).run Tryz.prog w = .ok (.agg #[.int .i64 61, .string ⟨#[73, 68, 48, 48, 54, 49]⟩, .string ⟨#[68, 78, 83, 32, 73, 83, 79, 32, 77, 49, 48, 32, 77, 49, 49, 32, 85, 85, 73, 68]⟩]) w := by kernel_rfl
theorem tidx_3 (w : World) : (Instr.index 57 (.agg tbA) (.int .i64 3)).run Tryz.prog w = .ok (.agg #[.int .i64 76, .string ⟨#[73, 68, 48, 48, 55, 54]⟩, .string ⟨#[65, 67, 75, 32, 65, 68, 84, 32, 66, 65, 82, 32, 79, 82, 77, 32, 79, 82, 85, 32, 81, 82, 89]⟩]) w := by kernel_rfl
theorem tidx_4 (w : World) : (Instr.index 57 (.agg tbA) (.int .i64 4)).run Tryz.prog w = .ok (.agg #[.int .i64 103, .string ⟨#[73, 68, 48, 49, 48, 51]⟩, .string ⟨#[68, 32, 80, 32, 84]⟩]) w := by kernel_rfl
theorem tidx_5 (w : World) : (Instr.index 57 (.agg tbA) (.int .i64 5)).run Tryz.prog w = .ok (.agg #[.int .i64 104, .string ⟨#[73, 68, 48, 49, 48, 52]⟩, .string ⟨#[50, 46, 49, 32, 50, 46, 50, 32, 50, 46, 51, 32, 50, 46, 51, 46, 49, 32, 50, 46, 52, 32, 50, 46, 53, 32, 50, 46, 53, 46, 49]⟩]) w := by kernel_rfl
theorem tidx_6 (w : World) : (Instr.index 57 (.agg tbA) (.int .i64 6)).run Tryz.prog w = .ok (.agg #[.int .i64 155, .string ⟨#[73, 68, 48, 49, 53, 53]⟩, .string ⟨#[65, 76, 32, 69, 82, 32, 78, 69, 32, 83, 85]⟩]) w := by kernel_rfl
theorem tidx_7 (w : World) : (Instr.index 57 (.agg tbA) (.int .i64 7)).run Tryz.prog w = .ok (.agg #[.int .i64 357, .string ⟨#[73, 68, 48, 51, 53, 55]⟩, .string ⟨#[48, 32, 49, 48, 48, 32, 49, 48, 49, 32, 49, 48, 50, 32, 49, 48, 51, 32, 50, 48, 48, 32, 50, 48, 49, 32, 50, 48, 50, 32, 50, 48, 51, 32, 50, 48, 52, 32, 50, 48, 53, 32, 50, 48, 54, 32, 50, 48, 55]⟩]) w := by kernel_rfl
theorem tidx_8 (w : World) : (Instr.index 57 (.agg tbA) (.int .i64 8)).run Tryz.prog w = .ok (.agg #[.int .i64 516, .string ⟨#[73, 68, 48, 53, 49, 54]⟩, .string ⟨#[69, 32, 70, 32, 73, 32, 87]⟩]) w := by kernel_rfl
end Go.Proofs.YtjdpjielpbiedaaGreatDoor.Td
