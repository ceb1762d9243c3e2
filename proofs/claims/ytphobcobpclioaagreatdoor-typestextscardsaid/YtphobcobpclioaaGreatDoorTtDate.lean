/-
  Dates, times, stamps: whether a text is one; the program's.
-/
import Derived.Test.YtphobcobpclioaaGreatDoorTtLeaf
import Derived.Test.YtphobcobpclioaaGreatDoorRefParse
import Derived.Test.YtphobcobpclioaaGreatDoorRefDates
namespace Go.Proofs.YtphobcobpclioaaGreatDoor.Td
open Go.RowKit

def parE (s : ByteArray) : Option Nat :=
  endB s (zoneS s (clkS s (dateS s 0 none).2.2.2.2.1 (dateS s 0 none).2.2.2.2.2 (dateS s 0 none).1).2.2.2.2.2.2.1 (clkS s (dateS s 0 none).2.2.2.2.1 (dateS s 0 none).2.2.2.2.2 (dateS s 0 none).1).2.2.2.2.2.2.2).2.2.1 (zoneS s (clkS s (dateS s 0 none).2.2.2.2.1 (dateS s 0 none).2.2.2.2.2 (dateS s 0 none).1).2.2.2.2.2.2.1 (clkS s (dateS s 0 none).2.2.2.2.1 (dateS s 0 none).2.2.2.2.2 (dateS s 0 none).1).2.2.2.2.2.2.2).2.2.2
set_option maxHeartbeats 1000000 in
theorem isDate_any (s : ByteArray) (w : World) (hs : s.size ≤ 140737488355328) (hM : Months w) : Calls Tryz.prog 25 #[.string s] w fun e w' => e = .returned (.bool (dateE s).isNone) ∧ Below w.heap.size w w' := by
  have HC : Hid (type_of% (Date_any s w (by unfold maxLen; omega) hM)) := Date_any s w (by unfold maxLen; omega) hM
  clear hM
  cases hE : dateE s with
  | none =>
    rw [hE] at HC
    clear hE
    go_enter Tryz.func25, Tryz.ntmps25
    go_wp2_with fail
    refine HC.out.mono ?_
    rintro _ w1 ⟨v, rfl, hv, hb⟩
    obtain rfl : v = .nilIface := hv
    have HB : Hid (Below w.heap.size w w1) := hb
    clear hb HC
    go_wp2_with fail
    go_ret
    exact ⟨rfl, HB.out⟩
  | some p =>
    rw [hE] at HC
    clear hE
    go_enter Tryz.func25, Tryz.ntmps25
    go_wp2_with fail
    refine HC.out.mono ?_
    rintro _ w1 ⟨v, rfl, hv, hb⟩
    obtain ⟨b, _, rfl, _⟩ := hv
    have HB : Hid (Below w.heap.size w w1) := hb
    clear hb HC
    go_wp2_with fail
    go_ret
    exact ⟨rfl, HB.out⟩
set_option maxHeartbeats 1000000 in
theorem isTime_any (s : ByteArray) (w : World) (hs : s.size ≤ 140737488355328) : Calls Tryz.prog 26 #[.string s] w fun e w' => e = .returned (.bool (timeE s).isNone) ∧ Below w.heap.size w w' := by
  have HC : Hid (type_of% (Time_any s w (by unfold maxLen; omega))) := Time_any s w (by unfold maxLen; omega)
  cases hE : timeE s with
  | none =>
    rw [hE] at HC
    clear hE
    go_enter Tryz.func26, Tryz.ntmps26
    go_wp2_with fail
    refine HC.out.mono ?_
    rintro _ w1 ⟨v, rfl, hv, hb⟩
    obtain rfl : v = .nilIface := hv
    have HB : Hid (Below w.heap.size w w1) := hb
    clear hb HC
    go_wp2_with fail
    go_ret
    exact ⟨rfl, HB.out⟩
  | some p =>
    rw [hE] at HC
    clear hE
    go_enter Tryz.func26, Tryz.ntmps26
    go_wp2_with fail
    refine HC.out.mono ?_
    rintro _ w1 ⟨v, rfl, hv, hb⟩
    obtain ⟨b, _, rfl, _⟩ := hv
    have HB : Hid (Below w.heap.size w w1) := hb
    clear hb HC
    go_wp2_with fail
    go_ret
    exact ⟨rfl, HB.out⟩
set_option maxHeartbeats 1000000 in
theorem isStamp_any (s : ByteArray) (w : World) (hs : s.size ≤ 140737488355328) (hM : Months w) : Calls Tryz.prog 27 #[.string s] w fun e w' => e = .returned (.bool (parE s).isNone) ∧ Below w.heap.size w w' := by
  obtain ⟨⟨lv, y, mo, d, A, B⟩, hd⟩ : ∃ x, dateS s 0 none = x := ⟨_, rfl⟩
  obtain ⟨⟨lv2, h, mi, sc, p, dg, A2, B2⟩, hc⟩ : ∃ x, clkS s A B lv = x := ⟨_, rfl⟩
  obtain ⟨⟨Z, ZN, A3, B3⟩, hz⟩ : ∃ x, zoneS s A2 B2 = x := ⟨_, rfl⟩
  obtain ⟨E, he⟩ : ∃ x, endB s A3 B3 = x := ⟨_, rfl⟩
  have hp : parE s = E := by simp only [parE, hd, hc, hz, he]
  have HC := Parse_any s w (by unfold maxLen; omega) hM hd hc hz he
  have HC : Hid (type_of% HC) := HC
  rw [hp]
  clear hM hd hc hz he hp
  cases E with
  | none =>
    go_enter Tryz.func27, Tryz.ntmps27
    go_wp2_with fail
    refine HC.out.mono ?_
    rintro e w1 ⟨he, hb⟩
    obtain rfl : e = _ := he
    have HB : Hid (Below w.heap.size w w1) := hb
    clear hb HC
    go_wp2_with fail
    go_ret
    exact ⟨rfl, by first | exact HB.out | exact HB.out.alloc HB.out.size _⟩
  | some q =>
    go_enter Tryz.func27, Tryz.ntmps27
    go_wp2_with fail
    refine HC.out.mono ?_
    rintro e w1 ⟨⟨b, rfl, _⟩, hb⟩
    have HB : Hid (Below w.heap.size w w1) := hb
    clear hb HC
    go_wp2_with fail
    go_ret
    exact ⟨rfl, by first | exact HB.out | exact HB.out.alloc HB.out.size _⟩
end Go.Proofs.YtphobcobpclioaaGreatDoor.Td
