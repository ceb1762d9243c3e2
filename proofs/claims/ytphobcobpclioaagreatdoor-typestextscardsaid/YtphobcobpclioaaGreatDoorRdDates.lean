/-
  stamp.Date.
-/
import Derived.Test.YtphobcobpclioaaGreatDoorRdEnd
namespace Go.Proofs.YtphobcobpclioaaGreatDoor
open Go.RowKit

/-- The first fault of a text as a date. -/
def dateE (s : ByteArray) : Option Nat := endB s (dateS s 0 none).2.2.2.2.1 (dateS s 0 none).2.2.2.2.2
theorem rdr_newD {w : World} {s : ByteArray} (hs : s.size ≤ maxLen) : Rdr (w.alloc (.cells #[.string s, .int .i64 0, .nilIface] 116)) w.heap.size s 0 none .nilIface :=
  ⟨by simp, by simp, by simp, rfl, by simp, by simp, Nat.zero_le _, hs⟩
set_option maxHeartbeats 1000000 in
theorem Date_any (s : ByteArray) (w : World) (hs : s.size ≤ maxLen) (hM : Months w) :
    Calls Tryz.prog 48 #[.string s] w fun e w' => ∃ v, e = .returned v ∧ ErrAt w' w.heap.size v (dateE s) ∧ Below w.heap.size w w' := by
  have HR : Hid (Rdr (w.alloc (.cells #[.string s, .int .i64 0, .nilIface] 116)) w.heap.size s 0 none .nilIface) := rdr_newD hs
  have HM : Hid (Months (w.alloc (.cells #[.string s, .int .i64 0, .nilIface] 116)) ∧ w.heap.size ≠ 5) := ⟨months_alloc hM _, by have := cell_lt hM.1; simp only at this; omega⟩
  have HD : Hid (dateE s = endB s (dateS s 0 none).2.2.2.2.1 (dateS s 0 none).2.2.2.2.2) := rfl
  clear hM hs
  go_enter Tryz.func48, Tryz.ntmps48
  go_wp2_with fail
  refine (date_any _ HR.out HM.out.1 HM.out.2).mono ?_
  rintro e w1 ⟨rfl, ⟨v1, r1⟩, o1⟩
  have HR1 : Hid (Rdr w1 w.heap.size s (dateS s 0 none).2.2.2.2.1 (dateS s 0 none).2.2.2.2.2 v1) := r1
  have HO1 : Hid (Off (· = w.heap.size) (w.alloc (.cells #[.string s, .int .i64 0, .nilIface] 116)) w1) := o1
  clear r1 o1
  go_wp2_with fail
  refine (end_any _ HR1.out).mono ?_
  rintro e w2 ⟨v2, rfl, r2, o2⟩
  have HR2 : Hid (Rdr w2 w.heap.size s (dateS s 0 none).2.2.2.2.1 (endB s (dateS s 0 none).2.2.2.2.1 (dateS s 0 none).2.2.2.2.2) v2) := r2
  have HO2 : Hid (Off (· = w.heap.size) (w.alloc (.cells #[.string s, .int .i64 0, .nilIface] 116)) w2) := HO1.out.trans o2
  clear r2 o2
  go_wp2_with fail
  go_ret
  exact ⟨v2, rfl, by rw [HD.out]; exact HR2.out.held, (below_box w _).trans (HO2.out.below (B := w.heap.size) (by simp) (by rintro k rfl; exact Nat.le_refl _))⟩
end Go.Proofs.YtphobcobpclioaaGreatDoor
