/-
  primitiveOf of some names.
-/
import Derived.Test.YtjdpjielpbiedaaGreatDoorTtPrim
namespace Go.Proofs.YtjdpjielpbiedaaGreatDoor.Td
open Go.RowKit

set_option maxRecDepth 100000 in
set_option maxHeartbeats 8000000 in
theorem prim_ts (w : World) : Calls Tryz.prog 31 #[.string ⟨#[84, 83]⟩] w fun e w' => e = .returned (.tuple #[.agg #[.string ⟨#[84, 83]⟩, .func (.func 50) #[] #[], .func (.func 44) #[] #[], .slice none 0 0], .bool true]) ∧ Below w.heap.size w w' := by
  have i0 := pidx_0
  have i1 := pidx_1
  have i2 := pidx_2
  have i3 := pidx_3
  have i4 := pidx_4
  have i5 := pidx_5
  have i6 := pidx_6
  have i7 := pidx_7
  have i8 := pidx_8
  have i9 := pidx_9
  go_enter Tryz.func31, Tryz.ntmps31
  go_wp2_with fail
  refine wp_loop_rounds 10 ?_
  rw [rounds_succ]
  go_wp2_with fail
  rw [rounds_succ]
  go_wp2_with fail
  rw [rounds_succ]
  go_wp2_with fail
  rw [rounds_succ]
  go_wp2_with fail
  rw [rounds_succ]
  go_wp2_with fail
  rw [rounds_succ]
  go_wp2_with fail
  rw [rounds_succ]
  go_wp2_with fail
  rw [rounds_succ]
  go_wp2_with fail
  rw [rounds_succ]
  go_wp2_with fail
  rw [rounds_succ]
  go_wp2_with fail
  refine bodyPost_ret ?_ rfl ⟨rfl, ?_⟩
  · simp [results, Tryz.results31, go_sem]
  · repeat (first | exact Below.refl _ _ | refine Below.setCell ?_ (by simp) _ | refine Below.alloc ?_ (by simp <;> omega) _)
end Go.Proofs.YtjdpjielpbiedaaGreatDoor.Td
