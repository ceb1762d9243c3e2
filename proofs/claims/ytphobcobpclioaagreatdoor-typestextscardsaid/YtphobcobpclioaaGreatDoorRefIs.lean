/-
  The reference's Reader: is.
-/
import Derived.Test.YtphobcobpclioaaGreatDoorRefRd
namespace Go.Proofs.YtphobcobpclioaaGreatDoor
open Go.RowKit

set_option maxHeartbeats 1000000 in
theorem ris_any {R : Nat} {s : ByteArray} {a : Nat} {bad : Option Nat} (c : Nat) (w : World) (h : RRd w R s a bad) (hc0 : 0 < c) (hc : c ≤ 255) :
    Calls Tryz.prog 73 #[.pointer (some ⟨R, 0, none⟩), .int .u8 c] w fun e w' => e = .returned (.bool (ahd s a bad == c)) ∧ ∃ n, w' = w.drewN n := by
  have c0 := h.text
  have c1 := h.at_
  have c2 := h.bad
  have hs : s.size ≤ maxLen := h.fit
  unfold maxLen at hs
  clear h
  cases bad with
  | some q =>
    have c2' : w.cell? ⟨R, 2, none⟩ = some (.int .i64 (q : Int)) := c2
    have hq : decide ((q : Int) < 0) = false := by simp
    have e : (ahd s a (some q) == c) = false := by show ((0 : Nat) == c) = false; simpa using (by omega : ¬ 0 = c)
    rw [e]
    clear c2 e
    go_enter Tryz.func73, Tryz.ntmps73
    go_wp2
    go_quiet (fail)
    go_wp2
    go_ret
    exact ⟨rfl, _, rfl⟩
  | none =>
    have c2' : w.cell? ⟨R, 2, none⟩ = some (.int .i64 (-1)) := c2
    clear c2
    by_cases hl : a < s.size
    · have hl2 : (a : Int) < s.size := by omega
      have HI : Hid ((ahd s a none == c) = ((s[a].toNat : Int) == (c : Int))) := by
        unfold Hid; rw [ahd_in hl, Bool.eq_iff_iff]; simp only [beq_iff_eq]; omega
      go_enter Tryz.func73, Tryz.ntmps73
      go_wp2
      go_quiet (fail)
      go_wp2
      go_ret
      exact ⟨ret_bool (by rw [HI.out]), _, rfl⟩
    · have hl2 : decide (a < s.size) = false := by simpa using (by omega : s.size ≤ a)
      have e : (ahd s a none == c) = false := by rw [ahd_end (by omega)]; simpa using (by omega : ¬ 0 = c)
      rw [e]
      clear hl e
      go_enter Tryz.func73, Tryz.ntmps73
      go_wp2
      go_quiet (fail)
      go_wp2
      go_ret
      exact ⟨rfl, _, rfl⟩
end Go.Proofs.YtphobcobpclioaaGreatDoor
