/-
  The reference's Date; the law StampDates, walked.
-/
import Derived.Test.YtphobcobpclioaaGreatDoorRefEnd
import Derived.Test.YtphobcobpclioaaGreatDoorRdDates
namespace Go.Proofs.YtphobcobpclioaaGreatDoor
open Go.RowKit

set_option maxHeartbeats 1000000 in
theorem refDate_any (s : ByteArray) (w : World) (hs : s.size ≤ maxLen) :
    Calls Tryz.prog 33 #[.string s] w fun e w' => e = .returned (.tuple #[.int .i64 (placeI (dateE s)), .int .i64 (codeI (dateE s))]) ∧ Below w.heap.size w w' := by
  have HR : Hid (RRd (w.alloc (.cells #[.string s, .int .i64 0, .int .i64 (-1)] 107)) w.heap.size s 0 none) := rrd_new hs
  obtain ⟨E, hE⟩ : ∃ E, dateE s = E := ⟨_, rfl⟩
  have HE : Hid (dateE s = E) := hE
  rw [hE]
  clear hE hs
  go_enter Tryz.func33, Tryz.ntmps33
  go_wp2_with fail
  refine (rdate_any _ HR.out).mono ?_
  rintro e w1 ⟨l, y, m, d, a1, rfl, r1, q1, o1⟩
  have HR1 : Hid (RRd w1 w.heap.size s a1 (dateS s 0 none).2.2.2.2.2) := r1
  have HB1 : Hid (endB s a1 (dateS s 0 none).2.2.2.2.2 = E) := by unfold Hid; rw [end_same (fun e => (q1 e).1)]; exact HE.out
  have HO1 : Hid (Off (· = w.heap.size) (w.alloc (.cells #[.string s, .int .i64 0, .int .i64 (-1)] 107)) w1) := o1
  clear r1 o1 q1
  go_wp2_with fail
  refine (rend_any _ HR1.out).mono ?_
  rintro e w2 ⟨rfl, r2, o2⟩
  rw [HB1.out] at r2
  have k2 := r2.bad
  have HB : Hid (Below w.heap.size w w2) := (below_box w _).trans ((HO1.out.trans o2).below (B := w.heap.size) (by simp) (by rintro k rfl; exact Nat.le_refl _))
  clear r2 o2
  cases E with
  | none =>
    have k2' : w2.cell? ⟨w.heap.size, 2, none⟩ = some (.int .i64 (-1)) := k2
    clear k2
    go_wp2_with fail
    go_ret2
    exact ⟨rfl, HB.out⟩
  | some p =>
    have k2' : w2.cell? ⟨w.heap.size, 2, none⟩ = some (.int .i64 (p : Int)) := k2
    have hp : (0 : Int) ≤ p := by omega
    clear k2
    go_wp2_with fail
    go_ret2
    exact ⟨rfl, HB.out⟩

end Go.Proofs.YtphobcobpclioaaGreatDoor
