/-
  stamp.Instant, stamp.Span, the reference's Span.
-/
import Derived.Test.YtpcdkafjogpdkaaDoorRefInst
namespace Go.Proofs.YtpcdkafjogpdkaaDoor
open Go.RowKit

theorem instant_any {lv y mo d h mi s p dg zn : Int} {z : Bool} (F : Facts lv y mo d h mi s p dg zn z) (w : World) (hM : Months w) :
    Calls Tryd.prog 33 #[.agg #[.int .i64 lv, .int .i64 y, .int .i64 mo, .int .i64 d, .int .i64 h, .int .i64 mi, .int .i64 s, .int .i64 p, .int .i64 dg, .bool z, .int .i64 zn]] w fun e w' => e = .returned (.int .i64 (instI lv y mo d h mi s p dg zn)) ∧ Below w.heap.size w w' := by
  by_cases h7 : lv = 7
  · subst h7; exact instant_7 F w hM (F.mo1 (by omega)) (F.d1 (by omega))
  · exact instant_n F w hM h7
theorem inst_bd {lv y mo d h mi s p dg zn : Int} {z : Bool} (F : Facts lv y mo d h mi s p dg zn z) : -504000000 ≤ instI lv y mo d h mi s p dg zn ∧ instI lv y mo d h mi s p dg zn ≤ 3155379480000000 := by
  obtain ⟨l1, l2, y1, y2, mo0, mo1, mo2, d0, d2, v, h0, h2, mi0, mi2, s0, s2, dg0, dg1, dg2, p0, p2, zn1, zn2, d1⟩ := F
  have nl := num_lim v
  have pb := part_bd dg0 dg2 p0 p2
  have tb := tensB_bd (4 - dg)
  unfold instI; split <;> omega
theorem len_bd {lv y mo d h mi s p dg zn : Int} {z : Bool} (_F : Facts lv y mo d h mi s p dg zn z) : 1 ≤ lenI lv y mo dg ∧ lenI lv y mo dg ≤ 316224000000 := by
  have hl := lp_01 y
  have db := dim_bd y mo
  have tb := tensB_bd (4 - dg)
  unfold lenI; repeat (split; · omega)
  omega

set_option maxHeartbeats 400000 in
theorem Instant_ok {lv y mo d h mi s p dg zn : Int} {z : Bool} (hr : rightB lv y mo d h mi s p dg zn z = true) (w : World) (hM : Months w) :
    Calls Tryd.prog 14 #[.agg #[.int .i64 lv, .int .i64 y, .int .i64 mo, .int .i64 d, .int .i64 h, .int .i64 mi, .int .i64 s, .int .i64 p, .int .i64 dg, .bool z, .int .i64 zn]] w fun e w' => e = .returned (.tuple #[.int .i64 (instI lv y mo d h mi s p dg zn), .nilIface]) ∧ Below w.heap.size w w' := by
  have HF : Hid (Facts lv y mo d h mi s p dg zn z) := facts_of hr
  have HR : Hid (rightB lv y mo d h mi s p dg zn z = true) := hr
  have HM : Hid (Months w) := hM
  clear hr hM
  go_enter Tryd.func14, Tryd.ntmps14
  go_wp2_with fail
  refine (right_is HR.out _ (months_alloc HM.out _)).mono ?_
  rintro e w1 ⟨rfl, hb1⟩
  obtain ⟨hc, hf⟩ := bcell hb1
  have HB : Hid (Below w.heap.size w w1) := below_step (Below.refl _ _) hb1
  clear hb1
  go_wp2_with fail
  refine (instant_any HF.out _ (months_below HM.out HB.out)).mono ?_
  rintro e w2 ⟨rfl, hb2⟩
  have HB2 : Hid (Below w.heap.size w w2) := below_then HB.out hb2
  clear hb2
  go_wp2_with fail
  go_ret2
  exact ⟨rfl, HB2.out⟩

set_option maxHeartbeats 400000 in
theorem Instant_bad {lv y mo d h mi s p dg zn : Int} {z : Bool} (hr : rightB lv y mo d h mi s p dg zn z = false) (w : World) (hM : Months w) :
    Calls Tryd.prog 14 #[.agg #[.int .i64 lv, .int .i64 y, .int .i64 mo, .int .i64 d, .int .i64 h, .int .i64 mi, .int .i64 s, .int .i64 p, .int .i64 dg, .bool z, .int .i64 zn]] w fun e w' => (∃ b, e = .returned (.tuple #[.int .i64 0, .iface 52 (.pointer (some ⟨b, 0, none⟩))]) ∧ FaultAt w' b 0 20) ∧ Below w.heap.size w w' := by
  have HR : Hid (rightB lv y mo d h mi s p dg zn z = false) := hr
  have HM : Hid (Months w) := hM
  clear hr hM
  go_enter Tryd.func14, Tryd.ntmps14
  go_wp2_with fail
  refine (right_is HR.out _ (months_alloc HM.out _)).mono ?_
  rintro e w1 ⟨rfl, hb1⟩
  have HB : Hid (Below w.heap.size w w1) := below_step (Below.refl _ _) hb1
  clear hb1
  go_wp2_with fail
  refine (fault_any _ _ _).mono ?_
  rintro e w2 ⟨rfl, rfl⟩
  go_wp2_with fail
  go_ret2
  exact ⟨⟨_, rfl, fault_new _ _ _⟩, below_new HB.out _⟩

set_option maxHeartbeats 400000 in
theorem Span_ok {lv y mo d h mi s p dg zn : Int} {z : Bool} (hr : rightB lv y mo d h mi s p dg zn z = true) (w : World) (hM : Months w) :
    Calls Tryd.prog 18 #[.agg #[.int .i64 lv, .int .i64 y, .int .i64 mo, .int .i64 d, .int .i64 h, .int .i64 mi, .int .i64 s, .int .i64 p, .int .i64 dg, .bool z, .int .i64 zn]] w fun e w' => e = .returned (.tuple #[.int .i64 (instI lv y mo d h mi s p dg zn), .int .i64 (instI lv y mo d h mi s p dg zn + lenI lv y mo dg - 1), .nilIface]) ∧ Below w.heap.size w w' := by
  have HF : Hid (Facts lv y mo d h mi s p dg zn z) := facts_of hr
  have HR : Hid (rightB lv y mo d h mi s p dg zn z = true) := hr
  have HM : Hid (Months w) := hM
  have ib := inst_bd HF.out
  have lb := len_bd HF.out
  clear hr hM
  go_enter Tryd.func18, Tryd.ntmps18
  go_wp2_with fail
  refine (right_is HR.out _ (months_alloc HM.out _)).mono ?_
  rintro e w1 ⟨rfl, hb1⟩
  obtain ⟨hc, hf⟩ := bcell hb1
  have HB : Hid (Below (w.alloc (.cells #[.int .i64 lv, .int .i64 y, .int .i64 mo, .int .i64 d, .int .i64 h, .int .i64 mi, .int .i64 s, .int .i64 p, .int .i64 dg, .bool z, .int .i64 zn] 23)).heap.size (w.alloc (.cells #[.int .i64 lv, .int .i64 y, .int .i64 mo, .int .i64 d, .int .i64 h, .int .i64 mi, .int .i64 s, .int .i64 p, .int .i64 dg, .bool z, .int .i64 zn] 23)) w1) := hb1
  clear hb1
  go_wp2_with fail
  refine (instant_any HF.out _ (months_below HM.out (below_step (Below.refl _ _) HB.out))).mono ?_
  rintro e w2 ⟨rfl, hb2⟩
  have HB2 : Hid (Below (w.alloc (.cells #[.int .i64 lv, .int .i64 y, .int .i64 mo, .int .i64 d, .int .i64 h, .int .i64 mi, .int .i64 s, .int .i64 p, .int .i64 dg, .bool z, .int .i64 zn] 23)).heap.size (w.alloc (.cells #[.int .i64 lv, .int .i64 y, .int .i64 mo, .int .i64 d, .int .i64 h, .int .i64 mi, .int .i64 s, .int .i64 p, .int .i64 dg, .bool z, .int .i64 zn] 23)) w2) := below_then HB.out hb2
  clear hb2 hc hf
  obtain ⟨hc, hf⟩ := bcell HB2.out
  go_wp2_with fail
  refine (length_any HF.out _ (months_below HM.out (below_step (Below.refl _ _) HB2.out))).mono ?_
  rintro e w3 ⟨rfl, hb3⟩
  have HB3 : Hid (Below w.heap.size w w3) := below_then (below_step (Below.refl _ _) HB2.out) hb3
  clear hb3
  go_wp2_with fail
  go_ret3
  exact ⟨rfl, HB3.out⟩

set_option maxHeartbeats 400000 in
theorem Span_bad {lv y mo d h mi s p dg zn : Int} {z : Bool} (hr : rightB lv y mo d h mi s p dg zn z = false) (w : World) (hM : Months w) :
    Calls Tryd.prog 18 #[.agg #[.int .i64 lv, .int .i64 y, .int .i64 mo, .int .i64 d, .int .i64 h, .int .i64 mi, .int .i64 s, .int .i64 p, .int .i64 dg, .bool z, .int .i64 zn]] w fun e w' => (∃ b, e = .returned (.tuple #[.int .i64 0, .int .i64 0, .iface 52 (.pointer (some ⟨b, 0, none⟩))]) ∧ FaultAt w' b 0 20) ∧ Below w.heap.size w w' := by
  have HR : Hid (rightB lv y mo d h mi s p dg zn z = false) := hr
  have HM : Hid (Months w) := hM
  clear hr hM
  go_enter Tryd.func18, Tryd.ntmps18
  go_wp2_with fail
  refine (right_is HR.out _ (months_alloc HM.out _)).mono ?_
  rintro e w1 ⟨rfl, hb1⟩
  have HB : Hid (Below w.heap.size w w1) := below_step (Below.refl _ _) hb1
  clear hb1
  go_wp2_with fail
  refine (fault_any _ _ _).mono ?_
  rintro e w2 ⟨rfl, rfl⟩
  go_wp2_with fail
  go_ret3
  exact ⟨⟨_, rfl, fault_new _ _ _⟩, below_new HB.out _⟩

end Go.Proofs.YtpcdkafjogpdkaaDoor
