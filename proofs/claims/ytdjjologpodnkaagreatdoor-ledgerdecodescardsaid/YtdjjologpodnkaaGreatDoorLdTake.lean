/-
  The reader takes bytes, and numbers.
-/
import Derived.Test.YtdjjologpodnkaaGreatDoorLdBase
namespace Go.Proofs.YtdjjologpodnkaaGreatDoor
open Go.RowKit

section
variable {w : World} {fb : Nat} {po : Option Addr} {n c p m : Nat}
set_option maxRecDepth 100000 in
set_option maxHeartbeats 1000000 in
theorem take_no (h : Box w fb #[.slice po n c, .int .i64 p]) (hm : n < p + m) (hp : p ≤ n) (hn : n ≤ 9223372036854775807) : Calls Tryz.prog 118 #[.pointer (some ⟨fb, 0, none⟩), .int .i64 m] w fun r w' => r = gaveUp n ∧ ∃ k, w' = w.drewN k := by
  have cx := h.cell
  have q1 : IntKind.i64.wrap ((n : Int) - p) = (n : Int) - p := by rw [IntKind.wrap_i64]; omega
  have q2 : (m : Int) > (n : Int) - p := by omega
  clear h hm hp hn
  go_enter Tryz.func118, Tryz.ntmps118
  go_wp2_with fail
  go_quiet (fail)
  go_wp2_with fail
  refine (giveUp_any _ _).mono ?_
  rintro _ w9 ⟨rfl, rfl⟩
  exact ⟨rfl, rfl, _, rfl⟩
set_option maxRecDepth 100000 in
set_option maxHeartbeats 1000000 in
theorem take_ok (h : Box w fb #[.slice po n c, .int .i64 p]) (hm : p + m ≤ n) (hnc : n ≤ c) (hpo : po = none → c = 0) (hn : n ≤ 9223372036854775807) : Calls Tryz.prog 118 #[.pointer (some ⟨fb, 0, none⟩), .int .i64 m] w fun r w' => r = .returned (.slice (winA po c p) m (c - p)) ∧ ∃ k, w' = (w.drewN k).setCell ⟨fb, 1, none⟩ (.int .i64 ((p : Int) + m)) := by
  have cx := h.cell
  have fx := h.free
  have q1 : IntKind.i64.wrap ((n : Int) - p) = (n : Int) - p := by rw [IntKind.wrap_i64]; omega
  have q2 : ¬ (m : Int) > (n : Int) - p := by omega
  have q3 : IntKind.i64.wrap ((p : Int) + m) = (p : Int) + m := by rw [IntKind.wrap_i64]; omega
  have hsl : ∀ W, (Instr.sliceAt 22 (.slice po n c) (some (.int .i64 (p : Int))) (some (.int .i64 ((p : Int) + (m : Int)))) none).run Tryz.prog W = .ok (.slice (winA po c p) m (c - p)) W := fun W => by
    have := slice_win po n c p (p + m) W hpo (by omega) (by omega)
    rw [Nat.add_sub_cancel_left, Int.natCast_add] at this
    exact this
  clear h hm hnc hpo hn
  go_enter Tryz.func118, Tryz.ntmps118
  go_wp2_with fail
  go_quiet (fail)
  go_wp2_with fail
  go_quiet (fail)
  go_wp2_with fail
  go_ret
  exact ⟨rfl, _, rfl⟩
end
end Go.Proofs.YtdjjologpodnkaaGreatDoor
