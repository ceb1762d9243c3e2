/-
  The document's reader: a fault is kept, bytes are taken.
-/
import Derived.Test.YtdjjologpodnkaaGreatDoorLdDec2
namespace Go.Proofs.YtdjjologpodnkaaGreatDoor
open Go.RowKit

section
variable {w : World} {db : Nat} {po : Option Addr} {n c p : Nat}
set_option maxRecDepth 100000 in
set_option maxHeartbeats 1000000 in
theorem rfault_new (h : Box w db #[.slice po n c, .int .i64 p, .int .i64 (-1)]) (x : Int) : Calls Tryz.prog 29 #[.pointer (some ⟨db, 0, none⟩), .int .i64 x] w fun r w' => r = .returned (.tuple #[]) ∧ w' = w.setCell ⟨db, 2, none⟩ (.int .i64 x) := by
  have cx := h.cell
  have fx := h.free
  clear h
  go_enter Tryz.func29, Tryz.ntmps29
  go_wp2_with fail
  go_end0
  exact ⟨rfl, rfl⟩
set_option maxRecDepth 100000 in
set_option maxHeartbeats 1000000 in
theorem rfault_old {e : Nat} (h : Box w db #[.slice po n c, .int .i64 p, .int .i64 e]) (x : Int) : Calls Tryz.prog 29 #[.pointer (some ⟨db, 0, none⟩), .int .i64 x] w fun r w' => r = .returned (.tuple #[]) ∧ w' = w := by
  have cx := h.cell
  have q : ¬ (e : Int) < 0 := by omega
  clear h
  go_enter Tryz.func29, Tryz.ntmps29
  go_wp2_with fail
  go_end0
  exact ⟨rfl, rfl⟩
set_option maxRecDepth 100000 in
set_option maxHeartbeats 1000000 in
theorem rtake_ok {m : Nat} (h : Box w db #[.slice po n c, .int .i64 p, .int .i64 (-1)]) (hm : p + m ≤ n) (hnc : n ≤ c) (hpo : po = none → c = 0) (hn : n ≤ 9223372036854775807) : Calls Tryz.prog 27 #[.pointer (some ⟨db, 0, none⟩), .int .i64 m] w fun r w' => r = .returned (.slice (winA po c p) m (c - p)) ∧ ∃ k, w' = (w.drewN k).setCell ⟨db, 1, none⟩ (.int .i64 ((p : Int) + m)) := by
  have cx := h.cell
  have fx := h.free
  have q1 : IntKind.i64.wrap ((n : Int) - p) = (n : Int) - p := by rw [IntKind.wrap_i64]; omega
  have q2 : ¬ (m : Int) > (n : Int) - p := by omega
  have q3 : IntKind.i64.wrap ((p : Int) + m) = (p : Int) + m := by rw [IntKind.wrap_i64]; omega
  have hsl : ∀ W, (Instr.sliceAt 22 (.slice po n c) (some (.int .i64 (p : Int))) (some (.int .i64 ((p : Int) + (m : Int)))) none).run Tryz.prog W = .ok (.slice (winA po c p) m (c - p)) W := fun W => by
    have := slice_win po n c p (p + m) W hpo (by omega) (by omega)
    rw [Nat.add_sub_cancel_left, Int.natCast_add] at this
    exact this
  clear h hm hnc hpo hn
  go_enter Tryz.func27, Tryz.ntmps27
  go_wp2_with fail
  go_quiet (fail)
  go_wp2_with fail
  go_quiet (fail)
  go_wp2_with fail
  go_ret
  exact ⟨rfl, _, rfl⟩
set_option maxRecDepth 100000 in
set_option maxHeartbeats 1000000 in
theorem rtake_no {m : Nat} (h : Box w db #[.slice po n c, .int .i64 p, .int .i64 (-1)]) (hm : n < p + m) (hp : p ≤ n) (hn : n ≤ 9223372036854775807) : Calls Tryz.prog 27 #[.pointer (some ⟨db, 0, none⟩), .int .i64 m] w fun r w' => r = .returned (.slice none 0 0) ∧ ∃ k, w' = (w.drewN k).setCell ⟨db, 2, none⟩ (.int .i64 n) := by
  have cx := h.cell
  have fx := h.free
  have q1 : IntKind.i64.wrap ((n : Int) - p) = (n : Int) - p := by rw [IntKind.wrap_i64]; omega
  have q2 : (m : Int) > (n : Int) - p := by omega
  have q3 : (n : Int) ≥ 0 := by omega
  have HF : Hid (∀ k, Box (w.drewN k) db #[.slice po n c, .int .i64 p, .int .i64 (-1)]) := fun k => h.below (below_drewN (Below.refl w.heap.size w) k)
  clear hm hp hn h
  go_enter Tryz.func27, Tryz.ntmps27
  go_wp2_with fail
  go_quiet (fail)
  go_wp2_with fail
  refine (rfault_new (HF.out _) _).mono ?_
  rintro _ z ⟨rfl, hz⟩
  have bz := (HF.out nq).pPut (j := 2) (by simp) (.int .i64 (n : Int))
  rw [← hz] at bz
  have cz := bz.cell
  have HZ : Hid (z = (w.drewN nq).setCell ⟨db, 2, none⟩ (.int .i64 n)) := hz
  clear bz hz cx fx HF
  go_wp2_with fail
  go_ret
  exact ⟨rfl, _, HZ.out⟩
end
end Go.Proofs.YtdjjologpodnkaaGreatDoor
