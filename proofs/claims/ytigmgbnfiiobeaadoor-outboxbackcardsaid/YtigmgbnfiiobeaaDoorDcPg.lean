import Derived.Test.YtigmgbnfiiobeaaDoorDcPd
import Derived.Test.YtigmgbnfiiobeaaDoorDcPc
import Derived.Laws.EntriesVeiled
import Derived.Deep.WholeRow
/-
  The program's May, Refuse, Owes, Texts, Mode.
-/
namespace Go.Proofs.YtigmgbnfiiobeaaDoor
open Go.RowKit

set_option maxRecDepth 100000 in
set_option maxHeartbeats 2000000 in
theorem May_no (e : Bool) (a p : Int) (s : ByteArray) (w : World) (ok : okB e a p = false) : Calls Tryd.prog 51 #[.agg #[.bool e, .int .i64 a, .int .i64 p], .string s] w (fun r w' => ∃ z, r = .returned (.tuple #[.bool false, .iface 91 (.pointer (some ⟨z, 0, none⟩))]) ∧ DFault w' z 0 220 ∧ Below w.heap.size w w') := by
  have c1 := fun x => refuse_no e a p x ok
  go_enter Tryd.func51, Tryd.ntmps51
  go_wp2_with fail
  refine (c1 _).mono ?_
  rintro _ w1 ⟨z, rfl, hz, b1⟩
  have HB1 : Hid (Below w.heap.size w w1) := below_then ((Below.refl _ _).alloc (Nat.le_refl _) _) b1
  have X1_0 : Hid (Box w1 (w.heap.size) #[.bool e, .int .i64 a, .int .i64 p]) := (Box.new' _ #[.bool e, .int .i64 a, .int .i64 p] 37 (w.heap.size) (by simp)).below b1
  obtain ⟨l1_0, k1_0, f1_0⟩ := X1_0.out
  have HZ : Hid (DFault w1 z 0 220) := hz
  clear b1 hz
  go_wp2_with fail
  refine bodyPost_ret (v := .tuple #[.bool false, .iface 91 (.pointer (some ⟨z, 0, none⟩))]) ?_ rfl ⟨z, rfl, HZ.out, HB1.out⟩
  simp [results, Tryd.results51, go_sem]
set_option maxRecDepth 100000 in
set_option maxHeartbeats 4000000 in
theorem May_ok (e : Bool) (a p : Int) (s : ByteArray) (w : World) (hV : PVc w) (ok : okB e a p = true) : Calls Tryd.prog 51 #[.agg #[.bool e, .int .i64 a, .int .i64 p], .string s] w (fun r w' => r = .returned (.tuple #[.bool (sentB e a p s), .nilIface]) ∧ Below w.heap.size w w') := by
  have HV : Hid (PVc w) := hV
  clear hV
  have c1 := fun x => refuse_ok e a p x ok
  go_enter Tryd.func51, Tryd.ntmps51
  go_wp2_with fail
  refine (c1 _).mono ?_
  rintro _ w1 ⟨rfl, b1⟩
  have HB1 : Hid (Below w.heap.size w w1) := below_then ((Below.refl _ _).alloc (Nat.le_refl _) _) b1
  have X1_0 : Hid (Box w1 (w.heap.size) #[.bool e, .int .i64 a, .int .i64 p]) := (Box.new' _ #[.bool e, .int .i64 a, .int .i64 p] 37 (w.heap.size) (by simp)).below b1
  obtain ⟨l1_0, k1_0, f1_0⟩ := X1_0.out
  clear b1
  go_wp2_with fail
  refine (may_any e a p s _ (HV.out.below HB1.out)).mono ?_
  rintro _ w2 ⟨rfl, b2⟩
  have HB2 : Hid (Below w.heap.size w w2) := below_then HB1.out b2
  have X2_0 : Hid (Box w2 (w.heap.size) #[.bool e, .int .i64 a, .int .i64 p]) := X1_0.out.below b2
  clear k1_0 l1_0 f1_0 X1_0 HB1
  obtain ⟨l2_0, k2_0, f2_0⟩ := X2_0.out
  clear b2
  go_wp2_with fail
  refine bodyPost_ret (v := .tuple #[.bool (sentB e a p s), .nilIface]) ?_ rfl ⟨rfl, HB2.out⟩
  simp [results, Tryd.results51, go_sem]
end Go.Proofs.YtigmgbnfiiobeaaDoor

/-
  The program's states, standing.
-/
namespace Go.Proofs.YtigmgbnfiiobeaaDoor
open Go.RowKit

abbrev fv (f : FuncId) : Value := .func (.func f) #[] #[]
/-- The states' table. -/
abbrev stA : Array Value := #[.nilFunc, .nilFunc, .nilFunc, fv 63, fv 64, fv 65, fv 66, fv 67, fv 65, fv 68, fv 67, fv 69, fv 62, fv 70, fv 71, fv 62, fv 70, fv 71, fv 72, fv 70, fv 71]
set_option maxRecDepth 100000 in
set_option maxHeartbeats 2000000 in
theorem states_any (w : World) : Calls Tryd.prog 58 #[] w fun r w' => r = .returned (.agg stA) ∧ Below w.heap.size w w' := by
  have hl := run_loadVar_new (P := Tryd.prog) w 136 stA 7 113 Tryd.underlying136 (by kernel_rfl)
  have hs : ∀ c, (c : Array Value).size = 21 → (w.alloc (.cells c 136)).setRow w.heap.size stA = w.alloc (.cells stA 136) := fun c _ => World.setRow_alloc_new w c stA _
  go_enter Tryd.func58, Tryd.ntmps58
  go_wp2_with (refine wpList_store_row rfl 136 (.tmp 0) (.tmp 10) rfl w.heap.size stA rfl rfl 136 _ (heap_alloc_last w _) ?_ ?_ ?_ ?_; kernel_rfl; kernel_rfl; kernel_rfl; rw [hs _ rfl])
  refine bodyPost_ret (v := .agg stA) ?_ rfl ⟨rfl, ?_⟩
  · simp [results, Tryd.results58, asAddr]
    exact hl
  · exact (Below.refl _ _).alloc (Nat.le_refl _) _
theorem idx_1 (w : World) : (Instr.index 136 (.agg stA) (.int .i64 1)).run Tryd.prog w = .ok (.agg #[fv 63, fv 64, fv 65]) w := by kernel_rfl
theorem idx_2 (w : World) : (Instr.index 136 (.agg stA) (.int .i64 2)).run Tryd.prog w = .ok (.agg #[fv 66, fv 67, fv 65]) w := by kernel_rfl
theorem idx_3 (w : World) : (Instr.index 136 (.agg stA) (.int .i64 3)).run Tryd.prog w = .ok (.agg #[fv 68, fv 67, fv 69]) w := by kernel_rfl
theorem idx_4 (w : World) : (Instr.index 136 (.agg stA) (.int .i64 4)).run Tryd.prog w = .ok (.agg #[fv 62, fv 70, fv 71]) w := by kernel_rfl
theorem idx_5 (w : World) : (Instr.index 136 (.agg stA) (.int .i64 5)).run Tryd.prog w = .ok (.agg #[fv 62, fv 70, fv 71]) w := by kernel_rfl
theorem idx_6 (w : World) : (Instr.index 136 (.agg stA) (.int .i64 6)).run Tryd.prog w = .ok (.agg #[fv 72, fv 70, fv 71]) w := by kernel_rfl
theorem pfit_1 (a b c : Bool) (w : World) : Calls Tryd.prog 63 #[.agg #[.bool a, .bool b, .bool c]] w fun r w' => r = .returned (.bool a) ∧ Below w.heap.size w w' := by
  go_enter Tryd.func63, Tryd.ntmps63
  go_wp2_with fail
  go_ret
  exact ⟨rfl, (Below.refl _ _).alloc (Nat.le_refl _) _⟩
theorem pfit_2 (a b c : Bool) (w : World) : Calls Tryd.prog 66 #[.agg #[.bool a, .bool b, .bool c]] w fun r w' => r = .returned (.bool b) ∧ Below w.heap.size w w' := by
  go_enter Tryd.func66, Tryd.ntmps66
  go_wp2_with fail
  go_ret
  exact ⟨rfl, (Below.refl _ _).alloc (Nat.le_refl _) _⟩
theorem pfit_3 (a b c : Bool) (w : World) : Calls Tryd.prog 68 #[.agg #[.bool a, .bool b, .bool c]] w fun r w' => r = .returned (.bool c) ∧ Below w.heap.size w w' := by
  go_enter Tryd.func68, Tryd.ntmps68
  go_wp2_with fail
  go_ret
  exact ⟨rfl, (Below.refl _ _).alloc (Nat.le_refl _) _⟩
theorem pfit_4 (a b c : Bool) (w : World) : Calls Tryd.prog 62 #[.agg #[.bool a, .bool b, .bool c]] w fun r w' => r = .returned (.bool true) ∧ Below w.heap.size w w' := by
  go_enter Tryd.func62, Tryd.ntmps62
  go_wp2_with fail
  go_ret
  exact ⟨rfl, (Below.refl _ _).alloc (Nat.le_refl _) _⟩
theorem pfit_6 (a b c : Bool) (w : World) : Calls Tryd.prog 72 #[.agg #[.bool a, .bool b, .bool c]] w fun r w' => r = .returned (.bool (a || b)) ∧ Below w.heap.size w w' := by
  cases a
  all_goals
    go_enter Tryd.func72, Tryd.ntmps72
    go_wp2_with fail
    go_ret
    exact ⟨rfl, (Below.refl _ _).alloc (Nat.le_refl _) _⟩
end Go.Proofs.YtigmgbnfiiobeaaDoor
