/-
  stamp.At.
-/
import Derived.Test.YtpcdkafjogpdkaaDoorCmp
import Derived.Test.YtpcdkafjogpdkaaDoorStampOf
namespace Go.Proofs.YtpcdkafjogpdkaaDoor
open Go.RowKit

/-- The second that At tells. -/
def atS (t0 tick : Int) : Int := min (t0 / 10000 + tick) 315537897599
theorem ofV_sec {T S y m d : Int} (h1 : S * 10000 ≤ T) (h2 : T < S * 10000 + 10000) : ofV 6 T y m d = ofV 6 (S * 10000) y m d := by
  rw [ofV6, ofV6]
  exact ret_stamp rfl rfl rfl rfl (by unfold hourOf; omega) (by unfold minuteOf; omega) (by unfold secondOf; omega) rfl rfl rfl rfl

theorem fault_at_size {X : World} {n : Nat} (hn : X.heap.size = n) (a c : Int) : FaultAt (X.alloc (.cells #[.string ⟨#[115, 116, 97, 109, 112]⟩, .int .i64 a, .int .i64 c, .nilIface] 56)) n a c := by
  subst hn; exact fault_new X a c
theorem below_set11k {B k : Nat} {w w1 : World} (h : Below B w w1) (hk : B ≤ k) (v0 v1 v2 v3 v4 v5 v6 v7 v8 v9 v10 : Value) :
    Below B w (((((((((((w1.setCell ⟨k, 0, none⟩ v0).setCell ⟨k, 1, none⟩ v1).setCell ⟨k, 2, none⟩ v2).setCell ⟨k, 3, none⟩ v3).setCell ⟨k, 4, none⟩ v4).setCell ⟨k, 5, none⟩ v5).setCell ⟨k, 6, none⟩ v6).setCell ⟨k, 7, none⟩ v7).setCell ⟨k, 8, none⟩ v8).setCell ⟨k, 9, none⟩ v9).setCell ⟨k, 10, none⟩ v10) :=
  ((((((((((h.setCell (p := ⟨k, 0, none⟩) hk _).setCell (p := ⟨k, 1, none⟩) hk _).setCell (p := ⟨k, 2, none⟩) hk _).setCell (p := ⟨k, 3, none⟩) hk _).setCell (p := ⟨k, 4, none⟩) hk _).setCell (p := ⟨k, 5, none⟩) hk _).setCell (p := ⟨k, 6, none⟩) hk _).setCell (p := ⟨k, 7, none⟩) hk _).setCell (p := ⟨k, 8, none⟩) hk _).setCell (p := ⟨k, 9, none⟩) hk _).setCell (p := ⟨k, 10, none⟩) hk _

set_option maxHeartbeats 1000000 in
theorem at_bad {lv y mo d h mi s p dg zn : Int} {z : Bool} (hr : rightB lv y mo d h mi s p dg zn z = false) (tick : Int) (w : World) (hM : Months w) :
    Calls Tryd.prog 19 #[.agg #[.int .i64 lv, .int .i64 y, .int .i64 mo, .int .i64 d, .int .i64 h, .int .i64 mi, .int .i64 s, .int .i64 p, .int .i64 dg, .bool z, .int .i64 zn], .int .i64 tick] w fun e w' => (∃ b, e = .returned (.tuple #[.agg #[.int .i64 0, .int .i64 0, .int .i64 0, .int .i64 0, .int .i64 0, .int .i64 0, .int .i64 0, .int .i64 0, .int .i64 0, .bool false, .int .i64 0], .iface 52 (.pointer (some ⟨b, 0, none⟩))]) ∧ FaultAt w' b 0 20) ∧ Below w.heap.size w w' := by
  have HM : Hid (Months ((w.alloc (.cells #[.int .i64 lv, .int .i64 y, .int .i64 mo, .int .i64 d, .int .i64 h, .int .i64 mi, .int .i64 s, .int .i64 p, .int .i64 dg, .bool z, .int .i64 zn] 23)).alloc (.cells #[.int .i64 0, .int .i64 0, .int .i64 0, .int .i64 0, .int .i64 0, .int .i64 0, .int .i64 0, .int .i64 0, .int .i64 0, .bool false, .int .i64 0] 23))) := months_alloc (months_alloc hM _) _
  have HR : Hid (rightB lv y mo d h mi s p dg zn z = false) := hr
  clear hM hr
  go_enter Tryd.func19, Tryd.ntmps19
  go_wp2_with fail
  refine (right_rel HR.out HM.out (Below.refl _ _)).mono ?_
  rintro e w1 ⟨rfl, hb1⟩
  obtain ⟨hc, hf⟩ := bcell hb1
  have HB1 : Hid (Below ((w.alloc (.cells #[.int .i64 lv, .int .i64 y, .int .i64 mo, .int .i64 d, .int .i64 h, .int .i64 mi, .int .i64 s, .int .i64 p, .int .i64 dg, .bool z, .int .i64 zn] 23)).alloc (.cells #[.int .i64 0, .int .i64 0, .int .i64 0, .int .i64 0, .int .i64 0, .int .i64 0, .int .i64 0, .int .i64 0, .int .i64 0, .bool false, .int .i64 0] 23)).heap.size ((w.alloc (.cells #[.int .i64 lv, .int .i64 y, .int .i64 mo, .int .i64 d, .int .i64 h, .int .i64 mi, .int .i64 s, .int .i64 p, .int .i64 dg, .bool z, .int .i64 zn] 23)).alloc (.cells #[.int .i64 0, .int .i64 0, .int .i64 0, .int .i64 0, .int .i64 0, .int .i64 0, .int .i64 0, .int .i64 0, .int .i64 0, .bool false, .int .i64 0] 23)) w1) := hb1
  have hz : w.heap.size + 1 < w1.heap.size := by have := hb1.size; simp at this; omega
  clear hb1
  go_wp2_with fail
  refine (fault_any _ _ _).mono ?_
  rintro e w2 ⟨rfl, rfl⟩
  go_wp2_with fail
  refine bodyPost_ret (v := .tuple #[.agg #[.int .i64 0, .int .i64 0, .int .i64 0, .int .i64 0, .int .i64 0, .int .i64 0, .int .i64 0, .int .i64 0, .int .i64 0, .bool false, .int .i64 0], .iface 52 (.pointer (some ⟨w1.heap.size, 0, none⟩))]) (by simp [results, Tryd.results19, go_sem, hc, hz]) rfl ⟨⟨_, rfl, fault_at_size (by simp) _ _⟩, below_new (below_set11k (below_two HB1.out) (Nat.le_succ _) _ _ _ _ _ _ _ _ _ _ _) _⟩

set_option maxHeartbeats 1000000 in
theorem at_level {lv y mo d h mi s p dg zn : Int} {z : Bool} (hr : rightB lv y mo d h mi s p dg zn z = true) (h6 : lv ≠ 6) (tick : Int) (w : World) (hM : Months w) :
    Calls Tryd.prog 19 #[.agg #[.int .i64 lv, .int .i64 y, .int .i64 mo, .int .i64 d, .int .i64 h, .int .i64 mi, .int .i64 s, .int .i64 p, .int .i64 dg, .bool z, .int .i64 zn], .int .i64 tick] w fun e w' => (∃ b, e = .returned (.tuple #[.agg #[.int .i64 0, .int .i64 0, .int .i64 0, .int .i64 0, .int .i64 0, .int .i64 0, .int .i64 0, .int .i64 0, .int .i64 0, .bool false, .int .i64 0], .iface 52 (.pointer (some ⟨b, 0, none⟩))]) ∧ FaultAt w' b 0 20) ∧ Below w.heap.size w w' := by
  have HM : Hid (Months ((w.alloc (.cells #[.int .i64 lv, .int .i64 y, .int .i64 mo, .int .i64 d, .int .i64 h, .int .i64 mi, .int .i64 s, .int .i64 p, .int .i64 dg, .bool z, .int .i64 zn] 23)).alloc (.cells #[.int .i64 0, .int .i64 0, .int .i64 0, .int .i64 0, .int .i64 0, .int .i64 0, .int .i64 0, .int .i64 0, .int .i64 0, .bool false, .int .i64 0] 23))) := months_alloc (months_alloc hM _) _
  have HR : Hid (rightB lv y mo d h mi s p dg zn z = true) := hr
  have h6b : (lv != 6) = true := by simpa using h6
  have h6c : (lv == 6) = false := by simpa using h6
  clear h6
  clear hM hr
  go_enter Tryd.func19, Tryd.ntmps19
  go_wp2_with fail
  refine (right_rel HR.out HM.out (Below.refl _ _)).mono ?_
  rintro e w1 ⟨rfl, hb1⟩
  obtain ⟨hc, hf⟩ := bcell hb1
  have HB1 : Hid (Below ((w.alloc (.cells #[.int .i64 lv, .int .i64 y, .int .i64 mo, .int .i64 d, .int .i64 h, .int .i64 mi, .int .i64 s, .int .i64 p, .int .i64 dg, .bool z, .int .i64 zn] 23)).alloc (.cells #[.int .i64 0, .int .i64 0, .int .i64 0, .int .i64 0, .int .i64 0, .int .i64 0, .int .i64 0, .int .i64 0, .int .i64 0, .bool false, .int .i64 0] 23)).heap.size ((w.alloc (.cells #[.int .i64 lv, .int .i64 y, .int .i64 mo, .int .i64 d, .int .i64 h, .int .i64 mi, .int .i64 s, .int .i64 p, .int .i64 dg, .bool z, .int .i64 zn] 23)).alloc (.cells #[.int .i64 0, .int .i64 0, .int .i64 0, .int .i64 0, .int .i64 0, .int .i64 0, .int .i64 0, .int .i64 0, .int .i64 0, .bool false, .int .i64 0] 23)) w1) := hb1
  have hz : w.heap.size + 1 < w1.heap.size := by have := hb1.size; simp at this; omega
  clear hb1
  go_wp2_with fail
  refine (fault_any _ _ _).mono ?_
  rintro e w2 ⟨rfl, rfl⟩
  go_wp2_with fail
  refine bodyPost_ret (v := .tuple #[.agg #[.int .i64 0, .int .i64 0, .int .i64 0, .int .i64 0, .int .i64 0, .int .i64 0, .int .i64 0, .int .i64 0, .int .i64 0, .bool false, .int .i64 0], .iface 52 (.pointer (some ⟨w1.heap.size, 0, none⟩))]) (by simp [results, Tryd.results19, go_sem, hc, hz]) rfl ⟨⟨_, rfl, fault_at_size (by simp) _ _⟩, below_new (below_set11k (below_two HB1.out) (Nat.le_succ _) _ _ _ _ _ _ _ _ _ _ _) _⟩

set_option maxHeartbeats 1000000 in
theorem at_zone {y mo d h mi s p dg zn : Int} (hr : rightB 6 y mo d h mi s p dg zn true = true) (tick : Int) (w : World) (hM : Months w) :
    Calls Tryd.prog 19 #[.agg #[.int .i64 6, .int .i64 y, .int .i64 mo, .int .i64 d, .int .i64 h, .int .i64 mi, .int .i64 s, .int .i64 p, .int .i64 dg, .bool true, .int .i64 zn], .int .i64 tick] w fun e w' => (∃ b, e = .returned (.tuple #[.agg #[.int .i64 0, .int .i64 0, .int .i64 0, .int .i64 0, .int .i64 0, .int .i64 0, .int .i64 0, .int .i64 0, .int .i64 0, .bool false, .int .i64 0], .iface 52 (.pointer (some ⟨b, 0, none⟩))]) ∧ FaultAt w' b 0 20) ∧ Below w.heap.size w w' := by
  have HM : Hid (Months ((w.alloc (.cells #[.int .i64 6, .int .i64 y, .int .i64 mo, .int .i64 d, .int .i64 h, .int .i64 mi, .int .i64 s, .int .i64 p, .int .i64 dg, .bool true, .int .i64 zn] 23)).alloc (.cells #[.int .i64 0, .int .i64 0, .int .i64 0, .int .i64 0, .int .i64 0, .int .i64 0, .int .i64 0, .int .i64 0, .int .i64 0, .bool false, .int .i64 0] 23))) := months_alloc (months_alloc hM _) _
  have HR : Hid (rightB 6 y mo d h mi s p dg zn true = true) := hr
  clear hM hr
  go_enter Tryd.func19, Tryd.ntmps19
  go_wp2_with fail
  refine (right_rel HR.out HM.out (Below.refl _ _)).mono ?_
  rintro e w1 ⟨rfl, hb1⟩
  obtain ⟨hc, hf⟩ := bcell hb1
  have HB1 : Hid (Below ((w.alloc (.cells #[.int .i64 6, .int .i64 y, .int .i64 mo, .int .i64 d, .int .i64 h, .int .i64 mi, .int .i64 s, .int .i64 p, .int .i64 dg, .bool true, .int .i64 zn] 23)).alloc (.cells #[.int .i64 0, .int .i64 0, .int .i64 0, .int .i64 0, .int .i64 0, .int .i64 0, .int .i64 0, .int .i64 0, .int .i64 0, .bool false, .int .i64 0] 23)).heap.size ((w.alloc (.cells #[.int .i64 6, .int .i64 y, .int .i64 mo, .int .i64 d, .int .i64 h, .int .i64 mi, .int .i64 s, .int .i64 p, .int .i64 dg, .bool true, .int .i64 zn] 23)).alloc (.cells #[.int .i64 0, .int .i64 0, .int .i64 0, .int .i64 0, .int .i64 0, .int .i64 0, .int .i64 0, .int .i64 0, .int .i64 0, .bool false, .int .i64 0] 23)) w1) := hb1
  have hz : w.heap.size + 1 < w1.heap.size := by have := hb1.size; simp at this; omega
  clear hb1
  go_wp2_with fail
  refine (fault_any _ _ _).mono ?_
  rintro e w2 ⟨rfl, rfl⟩
  go_wp2_with fail
  refine bodyPost_ret (v := .tuple #[.agg #[.int .i64 0, .int .i64 0, .int .i64 0, .int .i64 0, .int .i64 0, .int .i64 0, .int .i64 0, .int .i64 0, .int .i64 0, .bool false, .int .i64 0], .iface 52 (.pointer (some ⟨w1.heap.size, 0, none⟩))]) (by simp [results, Tryd.results19, go_sem, hc, hz]) rfl ⟨⟨_, rfl, fault_at_size (by simp) _ _⟩, below_new (below_set11k (below_two HB1.out) (Nat.le_succ _) _ _ _ _ _ _ _ _ _ _ _) _⟩

set_option maxHeartbeats 1000000 in
theorem at_neg {y mo d h mi s p dg zn : Int} (hr : rightB 6 y mo d h mi s p dg zn false = true) (tick : Int) (w : World) (hM : Months w) (ht : tick < 0) :
    Calls Tryd.prog 19 #[.agg #[.int .i64 6, .int .i64 y, .int .i64 mo, .int .i64 d, .int .i64 h, .int .i64 mi, .int .i64 s, .int .i64 p, .int .i64 dg, .bool false, .int .i64 zn], .int .i64 tick] w fun e w' => (∃ b, e = .returned (.tuple #[.agg #[.int .i64 0, .int .i64 0, .int .i64 0, .int .i64 0, .int .i64 0, .int .i64 0, .int .i64 0, .int .i64 0, .int .i64 0, .bool false, .int .i64 0], .iface 52 (.pointer (some ⟨b, 0, none⟩))]) ∧ FaultAt w' b 0 2) ∧ Below w.heap.size w w' := by
  have HM : Hid (Months ((w.alloc (.cells #[.int .i64 6, .int .i64 y, .int .i64 mo, .int .i64 d, .int .i64 h, .int .i64 mi, .int .i64 s, .int .i64 p, .int .i64 dg, .bool false, .int .i64 zn] 23)).alloc (.cells #[.int .i64 0, .int .i64 0, .int .i64 0, .int .i64 0, .int .i64 0, .int .i64 0, .int .i64 0, .int .i64 0, .int .i64 0, .bool false, .int .i64 0] 23))) := months_alloc (months_alloc hM _) _
  have HR : Hid (rightB 6 y mo d h mi s p dg zn false = true) := hr
  clear hM hr
  go_enter Tryd.func19, Tryd.ntmps19
  go_wp2_with fail
  refine (right_rel HR.out HM.out (Below.refl _ _)).mono ?_
  rintro e w1 ⟨rfl, hb1⟩
  obtain ⟨hc, hf⟩ := bcell hb1
  have HB1 : Hid (Below ((w.alloc (.cells #[.int .i64 6, .int .i64 y, .int .i64 mo, .int .i64 d, .int .i64 h, .int .i64 mi, .int .i64 s, .int .i64 p, .int .i64 dg, .bool false, .int .i64 zn] 23)).alloc (.cells #[.int .i64 0, .int .i64 0, .int .i64 0, .int .i64 0, .int .i64 0, .int .i64 0, .int .i64 0, .int .i64 0, .int .i64 0, .bool false, .int .i64 0] 23)).heap.size ((w.alloc (.cells #[.int .i64 6, .int .i64 y, .int .i64 mo, .int .i64 d, .int .i64 h, .int .i64 mi, .int .i64 s, .int .i64 p, .int .i64 dg, .bool false, .int .i64 zn] 23)).alloc (.cells #[.int .i64 0, .int .i64 0, .int .i64 0, .int .i64 0, .int .i64 0, .int .i64 0, .int .i64 0, .int .i64 0, .int .i64 0, .bool false, .int .i64 0] 23)) w1) := hb1
  have hz : w.heap.size + 1 < w1.heap.size := by have := hb1.size; simp at this; omega
  clear hb1
  go_wp2_with fail
  refine (fault_any _ _ _).mono ?_
  rintro e w2 ⟨rfl, rfl⟩
  go_wp2_with fail
  refine bodyPost_ret (v := .tuple #[.agg #[.int .i64 0, .int .i64 0, .int .i64 0, .int .i64 0, .int .i64 0, .int .i64 0, .int .i64 0, .int .i64 0, .int .i64 0, .bool false, .int .i64 0], .iface 52 (.pointer (some ⟨w1.heap.size, 0, none⟩))]) (by simp [results, Tryd.results19, go_sem, hc, hz]) rfl ⟨⟨_, rfl, fault_at_size (by simp) _ _⟩, below_new (below_set11k (below_two HB1.out) (Nat.le_succ _) _ _ _ _ _ _ _ _ _ _ _) _⟩

set_option maxHeartbeats 1000000 in
theorem at_far {y mo d h mi s p dg zn : Int} (hr : rightB 6 y mo d h mi s p dg zn false = true) (tick : Int) (w : World) (hM : Months w) (ht : 1099511627776 < tick) :
    Calls Tryd.prog 19 #[.agg #[.int .i64 6, .int .i64 y, .int .i64 mo, .int .i64 d, .int .i64 h, .int .i64 mi, .int .i64 s, .int .i64 p, .int .i64 dg, .bool false, .int .i64 zn], .int .i64 tick] w fun e w' => (∃ b, e = .returned (.tuple #[.agg #[.int .i64 0, .int .i64 0, .int .i64 0, .int .i64 0, .int .i64 0, .int .i64 0, .int .i64 0, .int .i64 0, .int .i64 0, .bool false, .int .i64 0], .iface 52 (.pointer (some ⟨b, 0, none⟩))]) ∧ FaultAt w' b 0 2) ∧ Below w.heap.size w w' := by
  have HM : Hid (Months ((w.alloc (.cells #[.int .i64 6, .int .i64 y, .int .i64 mo, .int .i64 d, .int .i64 h, .int .i64 mi, .int .i64 s, .int .i64 p, .int .i64 dg, .bool false, .int .i64 zn] 23)).alloc (.cells #[.int .i64 0, .int .i64 0, .int .i64 0, .int .i64 0, .int .i64 0, .int .i64 0, .int .i64 0, .int .i64 0, .int .i64 0, .bool false, .int .i64 0] 23))) := months_alloc (months_alloc hM _) _
  have HR : Hid (rightB 6 y mo d h mi s p dg zn false = true) := hr
  have ht0 : ¬ tick < 0 := by omega
  clear hM hr
  go_enter Tryd.func19, Tryd.ntmps19
  go_wp2_with fail
  refine (right_rel HR.out HM.out (Below.refl _ _)).mono ?_
  rintro e w1 ⟨rfl, hb1⟩
  obtain ⟨hc, hf⟩ := bcell hb1
  have HB1 : Hid (Below ((w.alloc (.cells #[.int .i64 6, .int .i64 y, .int .i64 mo, .int .i64 d, .int .i64 h, .int .i64 mi, .int .i64 s, .int .i64 p, .int .i64 dg, .bool false, .int .i64 zn] 23)).alloc (.cells #[.int .i64 0, .int .i64 0, .int .i64 0, .int .i64 0, .int .i64 0, .int .i64 0, .int .i64 0, .int .i64 0, .int .i64 0, .bool false, .int .i64 0] 23)).heap.size ((w.alloc (.cells #[.int .i64 6, .int .i64 y, .int .i64 mo, .int .i64 d, .int .i64 h, .int .i64 mi, .int .i64 s, .int .i64 p, .int .i64 dg, .bool false, .int .i64 zn] 23)).alloc (.cells #[.int .i64 0, .int .i64 0, .int .i64 0, .int .i64 0, .int .i64 0, .int .i64 0, .int .i64 0, .int .i64 0, .int .i64 0, .bool false, .int .i64 0] 23)) w1) := hb1
  have hz : w.heap.size + 1 < w1.heap.size := by have := hb1.size; simp at this; omega
  clear hb1
  go_wp2_with fail
  refine (fault_any _ _ _).mono ?_
  rintro e w2 ⟨rfl, rfl⟩
  go_wp2_with fail
  refine bodyPost_ret (v := .tuple #[.agg #[.int .i64 0, .int .i64 0, .int .i64 0, .int .i64 0, .int .i64 0, .int .i64 0, .int .i64 0, .int .i64 0, .int .i64 0, .bool false, .int .i64 0], .iface 52 (.pointer (some ⟨w1.heap.size, 0, none⟩))]) (by simp [results, Tryd.results19, go_sem, hc, hz]) rfl ⟨⟨_, rfl, fault_at_size (by simp) _ _⟩, below_new (below_set11k (below_two HB1.out) (Nat.le_succ _) _ _ _ _ _ _ _ _ _ _ _) _⟩

theorem zone_zero {y mo d h mi s p dg zn : Int} (hr : rightB 6 y mo d h mi s p dg zn false = true) : zn = 0 := by
  rw [right_ref] at hr
  simp only [refB, Bool.and_eq_true] at hr
  exact (fit_bd hr.2).2 rfl
theorem inst_6 {y mo d h mi s p dg zn : Int} (hr : rightB 6 y mo d h mi s p dg zn false = true) : 0 ≤ instI 6 y mo d h mi s p dg zn ∧ instI 6 y mo d h mi s p dg zn ≤ 3155378975990000 ∧ instI 6 y mo d h mi s p dg zn % 10000 = 0 := by
  have hz := zone_zero hr
  obtain ⟨l1, l2, y1, y2, mo0, mo1, mo2, d0, d2, v, h0, h2, mi0, mi2, s0, s2, dg0, dg1, dg2, p0, p2, zn1, zn2, d1⟩ := facts_of hr
  have nl := num_lim v
  unfold instI; rw [if_neg (by omega)]; omega

set_option maxHeartbeats 1000000 in
theorem at_ok {y mo d h mi s p dg zn : Int} (hr : rightB 6 y mo d h mi s p dg zn false = true) (tick : Int) (w : World) (hM : Months w) (t0 : 0 ≤ tick) (t1 : tick ≤ 1099511627776) :
    Calls Tryd.prog 19 #[.agg #[.int .i64 6, .int .i64 y, .int .i64 mo, .int .i64 d, .int .i64 h, .int .i64 mi, .int .i64 s, .int .i64 p, .int .i64 dg, .bool false, .int .i64 zn], .int .i64 tick] w fun e w' => (∃ y' m' d' : Int, e = .returned (.tuple #[ofV 6 (atS (instI 6 y mo d h mi s p dg zn) tick * 10000) y' m' d', .nilIface]) ∧ vldB y' m' d' = true ∧ num y' m' d' = atS (instI 6 y mo d h mi s p dg zn) tick * 10000 / 864000000) ∧ Below w.heap.size w w' := by
  have HM : Hid (Months ((w.alloc (.cells #[.int .i64 6, .int .i64 y, .int .i64 mo, .int .i64 d, .int .i64 h, .int .i64 mi, .int .i64 s, .int .i64 p, .int .i64 dg, .bool false, .int .i64 zn] 23)).alloc (.cells #[.int .i64 0, .int .i64 0, .int .i64 0, .int .i64 0, .int .i64 0, .int .i64 0, .int .i64 0, .int .i64 0, .int .i64 0, .bool false, .int .i64 0] 23))) := months_alloc (months_alloc hM _) _
  have HR : Hid (rightB 6 y mo d h mi s p dg zn false = true) := hr
  have HF : Hid (Facts 6 y mo d h mi s p dg zn false) := facts_of hr
  have ib := inst_6 hr
  obtain ⟨x, hx⟩ : ∃ x, instI 6 y mo d h mi s p dg zn = x := ⟨_, rfl⟩
  have HX : Hid (instI 6 y mo d h mi s p dg zn = x) := hx
  rw [hx] at ib
  rw [hx]
  have HI : Hid (x % 10000 = 0) := ib.2.2
  have ib1 := ib.1
  have ib2 := ib.2.1
  have HS : Hid (∀ T, T = min (x + tick * 10000) 3155378975999999 → 0 ≤ T ∧ T ≤ 3155378975999999 ∧ atS x tick * 10000 ≤ T ∧ T < atS x tick * 10000 + 10000 ∧ T / 864000000 = atS x tick * 10000 / 864000000) := by
    rintro T rfl; have := HI.out; unfold atS; omega
  clear hM hr hx ib
  go_enter Tryd.func19, Tryd.ntmps19
  go_wp2_with fail
  refine (right_rel HR.out HM.out (Below.refl _ _)).mono ?_
  rintro e w1 ⟨rfl, hb1⟩
  obtain ⟨hc, hf⟩ := bcell hb1
  have HB1 : Hid (Below ((w.alloc (.cells #[.int .i64 6, .int .i64 y, .int .i64 mo, .int .i64 d, .int .i64 h, .int .i64 mi, .int .i64 s, .int .i64 p, .int .i64 dg, .bool false, .int .i64 zn] 23)).alloc (.cells #[.int .i64 0, .int .i64 0, .int .i64 0, .int .i64 0, .int .i64 0, .int .i64 0, .int .i64 0, .int .i64 0, .int .i64 0, .bool false, .int .i64 0] 23)).heap.size ((w.alloc (.cells #[.int .i64 6, .int .i64 y, .int .i64 mo, .int .i64 d, .int .i64 h, .int .i64 mi, .int .i64 s, .int .i64 p, .int .i64 dg, .bool false, .int .i64 zn] 23)).alloc (.cells #[.int .i64 0, .int .i64 0, .int .i64 0, .int .i64 0, .int .i64 0, .int .i64 0, .int .i64 0, .int .i64 0, .int .i64 0, .bool false, .int .i64 0] 23)) w1) := hb1
  clear hb1
  go_wp2_with fail
  refine (instant_rel HF.out HM.out HB1.out).mono ?_
  rintro e w2 ⟨he, hb2⟩
  rw [HX.out] at he
  subst he
  have HB2 : Hid (Below ((w.alloc (.cells #[.int .i64 6, .int .i64 y, .int .i64 mo, .int .i64 d, .int .i64 h, .int .i64 mi, .int .i64 s, .int .i64 p, .int .i64 dg, .bool false, .int .i64 zn] 23)).alloc (.cells #[.int .i64 0, .int .i64 0, .int .i64 0, .int .i64 0, .int .i64 0, .int .i64 0, .int .i64 0, .int .i64 0, .int .i64 0, .bool false, .int .i64 0] 23)).heap.size ((w.alloc (.cells #[.int .i64 6, .int .i64 y, .int .i64 mo, .int .i64 d, .int .i64 h, .int .i64 mi, .int .i64 s, .int .i64 p, .int .i64 dg, .bool false, .int .i64 zn] 23)).alloc (.cells #[.int .i64 0, .int .i64 0, .int .i64 0, .int .i64 0, .int .i64 0, .int .i64 0, .int .i64 0, .int .i64 0, .int .i64 0, .bool false, .int .i64 0] 23)) w2) := hb2
  clear hb2 hc hf
  obtain ⟨hc, hf⟩ := bcell HB2.out
  have hz : w.heap.size + 1 < w2.heap.size := by have := HB2.out.size; simp at this; omega
  by_cases g : x + tick * 10000 ≤ 3155378975999999
  · have hT := HS.out (x + tick * 10000) (by omega)
    have HT : Hid (atS x tick * 10000 ≤ x + tick * 10000 ∧ x + tick * 10000 < atS x tick * 10000 + 10000 ∧ (x + tick * 10000) / 864000000 = atS x tick * 10000 / 864000000) := ⟨hT.2.2.1, hT.2.2.2.1, hT.2.2.2.2⟩
    clear hT
    go_wp2_with fail
    refine (stampOf6 _ _ (months_below HM.out HB2.out) (by omega) (by omega)).mono ?_
    rintro e w3 ⟨⟨y', m', d', he, hv, hn⟩, hb3⟩
    rw [← ofV6, ofV_sec HT.out.1 HT.out.2.1, ofV6] at he
    subst he
    have HV : Hid (vldB y' m' d' = true) := hv
    have HN : Hid (num y' m' d' = atS x tick * 10000 / 864000000) := hn.trans HT.out.2.2
    have HB3 : Hid (Below ((w.alloc (.cells #[.int .i64 6, .int .i64 y, .int .i64 mo, .int .i64 d, .int .i64 h, .int .i64 mi, .int .i64 s, .int .i64 p, .int .i64 dg, .bool false, .int .i64 zn] 23)).alloc (.cells #[.int .i64 0, .int .i64 0, .int .i64 0, .int .i64 0, .int .i64 0, .int .i64 0, .int .i64 0, .int .i64 0, .int .i64 0, .bool false, .int .i64 0] 23)).heap.size ((w.alloc (.cells #[.int .i64 6, .int .i64 y, .int .i64 mo, .int .i64 d, .int .i64 h, .int .i64 mi, .int .i64 s, .int .i64 p, .int .i64 dg, .bool false, .int .i64 zn] 23)).alloc (.cells #[.int .i64 0, .int .i64 0, .int .i64 0, .int .i64 0, .int .i64 0, .int .i64 0, .int .i64 0, .int .i64 0, .int .i64 0, .bool false, .int .i64 0] 23)) w3) := below_then HB2.out hb3
    clear hb3 hc hf hv hn
    obtain ⟨hc, hf⟩ := bcell HB3.out
    have hz3 : w.heap.size + 1 < w3.heap.size := by have := HB3.out.size; simp at this; omega
    go_wp2_with fail
    refine bodyPost_ret (v := .tuple #[ofV 6 (atS x tick * 10000) y' m' d', .nilIface]) (by simp [results, Tryd.results19, go_sem, ofV6, hc]) rfl ⟨⟨y', m', d', rfl, HV.out, HN.out⟩, below_set11k (below_two HB3.out) (Nat.le_succ _) _ _ _ _ _ _ _ _ _ _ _⟩
  · have hT := HS.out 3155378975999999 (by omega)
    have HT : Hid (atS x tick * 10000 ≤ 3155378975999999 ∧ 3155378975999999 < atS x tick * 10000 + 10000 ∧ 3155378975999999 / 864000000 = atS x tick * 10000 / 864000000) := ⟨hT.2.2.1, hT.2.2.2.1, hT.2.2.2.2⟩
    clear hT
    go_wp2_with fail
    refine (stampOf6 _ _ (months_below HM.out HB2.out) (by omega) (by omega)).mono ?_
    rintro e w3 ⟨⟨y', m', d', he, hv, hn⟩, hb3⟩
    rw [← ofV6, ofV_sec HT.out.1 HT.out.2.1, ofV6] at he
    subst he
    have HV : Hid (vldB y' m' d' = true) := hv
    have HN : Hid (num y' m' d' = atS x tick * 10000 / 864000000) := hn.trans HT.out.2.2
    have HB3 : Hid (Below ((w.alloc (.cells #[.int .i64 6, .int .i64 y, .int .i64 mo, .int .i64 d, .int .i64 h, .int .i64 mi, .int .i64 s, .int .i64 p, .int .i64 dg, .bool false, .int .i64 zn] 23)).alloc (.cells #[.int .i64 0, .int .i64 0, .int .i64 0, .int .i64 0, .int .i64 0, .int .i64 0, .int .i64 0, .int .i64 0, .int .i64 0, .bool false, .int .i64 0] 23)).heap.size ((w.alloc (.cells #[.int .i64 6, .int .i64 y, .int .i64 mo, .int .i64 d, .int .i64 h, .int .i64 mi, .int .i64 s, .int .i64 p, .int .i64 dg, .bool false, .int .i64 zn] 23)).alloc (.cells #[.int .i64 0, .int .i64 0, .int .i64 0, .int .i64 0, .int .i64 0, .int .i64 0, .int .i64 0, .int .i64 0, .int .i64 0, .bool false, .int .i64 0] 23)) w3) := below_then HB2.out hb3
    clear hb3 hc hf hv hn
    obtain ⟨hc, hf⟩ := bcell HB3.out
    have hz3 : w.heap.size + 1 < w3.heap.size := by have := HB3.out.size; simp at this; omega
    go_wp2_with fail
    refine bodyPost_ret (v := .tuple #[ofV 6 (atS x tick * 10000) y' m' d', .nilIface]) (by simp [results, Tryd.results19, go_sem, ofV6, hc]) rfl ⟨⟨y', m', d', rfl, HV.out, HN.out⟩, below_set11k (below_two HB3.out) (Nat.le_succ _) _ _ _ _ _ _ _ _ _ _ _⟩
end Go.Proofs.YtpcdkafjogpdkaaDoor
