/-
  stamp.length and stamp.instant, walked.
-/
import Derived.Test.YtpcdkafjogpdkaaDoorInst
import Derived.Deep.RegionWith
namespace Go.Proofs.YtpcdkafjogpdkaaDoor
open Go.RowKit

theorem below_of_drew {B : Nat} {w w1 : World} (h : Below B w.drew w1) : Below B w w1 := ⟨h.os, h.tape, h.output, h.size, h.block⟩
theorem below_drew {B : Nat} {w w1 : World} (h : Below B w w1) : Below B w w1.drew := h.drew
theorem len_year (y : Int) : (num (y + 1) 1 1 - num y 1 1) * 864000000 = (365 + lp y) * 864000000 := by
  unfold num; rw [cum_one, cum_one, dby_succ]; omega

set_option maxHeartbeats 1000000 in
theorem length1 (y mo d h mi s p dg zn : Int) (z : Bool) (w : World) (hM : Months w) (y1 : 1 ≤ y) (y2 : y ≤ 9999) :
    Calls Tryd.prog 37 #[.agg #[.int .i64 1, .int .i64 y, .int .i64 mo, .int .i64 d, .int .i64 h, .int .i64 mi, .int .i64 s, .int .i64 p, .int .i64 dg, .bool z, .int .i64 zn]] w fun e w' => e = .returned (.int .i64 ((365 + lp y) * 864000000)) ∧ Below w.heap.size w w' := by
  have HM : Hid (∀ o, Months (w.alloc o)) := fun o => months_alloc hM o
  clear hM
  have b1 := num_lim (y := y) (m := 1) (d := 1) (vld_iff.2 ⟨by omega, by omega, by omega, by omega, by omega, by have := dim_bd y 1; omega⟩)
  have b2 : 0 ≤ num (y + 1) 1 1 ∧ num (y + 1) 1 1 ≤ 3652059 := by
    have e : num (y + 1) 1 1 = num y 1 1 + 365 + lp y := by unfold num; rw [cum_one, cum_one, dby_succ]; omega
    have := lp_01 y; have c := dby_mono (a := y + 1) (b := 10000) (by omega); rw [dby_max] at c
    have e2 : num (y + 1) 1 1 = dby (y + 1) := by unfold num; rw [cum_one]; omega
    omega
  go_enter Tryd.func37, Tryd.ntmps37
  go_wp2_with (go_at_call 60; refine (daysAhead_any _ _ _ _ (HM.out _) (by omega) (by omega) (by omega) (by omega) (by omega) (by omega)).mono ?_; rintro e w' ⟨rfl, rfl⟩)
  go_ret
  exact ⟨ret_int (len_year y), below_box _ _⟩
set_option maxHeartbeats 1000000 in
theorem length2 (y mo d h mi s p dg zn : Int) (z : Bool) (w : World) (hM : Months w) (y1 : 1 ≤ y) (y2 : y ≤ 9999) (mo1 : 1 ≤ mo) (mo2 : mo ≤ 12) :
    Calls Tryd.prog 37 #[.agg #[.int .i64 2, .int .i64 y, .int .i64 mo, .int .i64 d, .int .i64 h, .int .i64 mi, .int .i64 s, .int .i64 p, .int .i64 dg, .bool z, .int .i64 zn]] w fun e w' => e = .returned (.int .i64 (dim y mo * 864000000)) ∧ Below w.heap.size w w' := by
  have HM : Hid (∀ o, Months (w.alloc o)) := fun o => months_alloc hM o
  clear hM
  have db := dim_bd y mo
  go_enter Tryd.func37, Tryd.ntmps37
  go_wp2_with (go_at_call 63; refine (daysOf_any _ _ _ (HM.out _) (by omega) (by omega) (by omega) (by omega)).mono ?_; rintro e w' ⟨rfl, rfl⟩)
  go_ret
  exact ⟨rfl, below_box _ _⟩
set_option maxHeartbeats 1000000 in
theorem length3 (y mo d h mi s p dg zn : Int) (z : Bool) (w : World)  :
    Calls Tryd.prog 37 #[.agg #[.int .i64 3, .int .i64 y, .int .i64 mo, .int .i64 d, .int .i64 h, .int .i64 mi, .int .i64 s, .int .i64 p, .int .i64 dg, .bool z, .int .i64 zn]] w fun e w' => e = .returned (.int .i64 (864000000)) ∧ Below w.heap.size w w' := by
  go_enter Tryd.func37, Tryd.ntmps37
  go_wp2_with fail
  go_ret
  exact ⟨rfl, below_box _ _⟩
set_option maxHeartbeats 1000000 in
theorem length4 (y mo d h mi s p dg zn : Int) (z : Bool) (w : World)  :
    Calls Tryd.prog 37 #[.agg #[.int .i64 4, .int .i64 y, .int .i64 mo, .int .i64 d, .int .i64 h, .int .i64 mi, .int .i64 s, .int .i64 p, .int .i64 dg, .bool z, .int .i64 zn]] w fun e w' => e = .returned (.int .i64 (36000000)) ∧ Below w.heap.size w w' := by
  go_enter Tryd.func37, Tryd.ntmps37
  go_wp2_with fail
  go_ret
  exact ⟨rfl, below_box _ _⟩
set_option maxHeartbeats 1000000 in
theorem length5 (y mo d h mi s p dg zn : Int) (z : Bool) (w : World)  :
    Calls Tryd.prog 37 #[.agg #[.int .i64 5, .int .i64 y, .int .i64 mo, .int .i64 d, .int .i64 h, .int .i64 mi, .int .i64 s, .int .i64 p, .int .i64 dg, .bool z, .int .i64 zn]] w fun e w' => e = .returned (.int .i64 (600000)) ∧ Below w.heap.size w w' := by
  go_enter Tryd.func37, Tryd.ntmps37
  go_wp2_with fail
  go_ret
  exact ⟨rfl, below_box _ _⟩
set_option maxHeartbeats 1000000 in
theorem length6 (y mo d h mi s p dg zn : Int) (z : Bool) (w : World)  :
    Calls Tryd.prog 37 #[.agg #[.int .i64 6, .int .i64 y, .int .i64 mo, .int .i64 d, .int .i64 h, .int .i64 mi, .int .i64 s, .int .i64 p, .int .i64 dg, .bool z, .int .i64 zn]] w fun e w' => e = .returned (.int .i64 (10000)) ∧ Below w.heap.size w w' := by
  go_enter Tryd.func37, Tryd.ntmps37
  go_wp2_with fail
  go_ret
  exact ⟨rfl, below_box _ _⟩
set_option maxHeartbeats 1000000 in
theorem length7 (y mo d h mi s p dg zn : Int) (z : Bool) (w : World)  (dg0 : 0 ≤ dg) (dg2 : dg ≤ 4) :
    Calls Tryd.prog 37 #[.agg #[.int .i64 7, .int .i64 y, .int .i64 mo, .int .i64 d, .int .i64 h, .int .i64 mi, .int .i64 s, .int .i64 p, .int .i64 dg, .bool z, .int .i64 zn]] w fun e w' => e = .returned (.int .i64 (tensB (4 - dg))) ∧ Below w.heap.size w w' := by
  go_enter Tryd.func37, Tryd.ntmps37
  go_wp2_with (go_at_call 64; refine (tens_any _ _).mono ?_; rintro e w' ⟨rfl, rfl⟩)
  go_ret
  exact ⟨rfl, below_box _ _⟩
theorem length_any {lv y mo d h mi s p dg zn : Int} {z : Bool} (F : Facts lv y mo d h mi s p dg zn z) (w : World) (hM : Months w) :
    Calls Tryd.prog 37 #[.agg #[.int .i64 lv, .int .i64 y, .int .i64 mo, .int .i64 d, .int .i64 h, .int .i64 mi, .int .i64 s, .int .i64 p, .int .i64 dg, .bool z, .int .i64 zn]] w fun e w' => e = .returned (.int .i64 (lenI lv y mo dg)) ∧ Below w.heap.size w w' := by
  have l1 := F.l1
  have l2 := F.l2
  rcases (by omega : lv = 1 ∨ lv = 2 ∨ lv = 3 ∨ lv = 4 ∨ lv = 5 ∨ lv = 6 ∨ lv = 7) with rfl | rfl | rfl | rfl | rfl | rfl | rfl
  · exact length1 y mo d h mi s p dg zn z w hM F.y1 F.y2
  · exact length2 y mo d h mi s p dg zn z w hM F.y1 F.y2 (F.mo1 (by omega)) F.mo2
  · exact length3 y mo d h mi s p dg zn z w
  · exact length4 y mo d h mi s p dg zn z w
  · exact length5 y mo d h mi s p dg zn z w
  · exact length6 y mo d h mi s p dg zn z w
  · exact length7 y mo d h mi s p dg zn z w F.dg0 F.dg2

set_option maxHeartbeats 1000000 in
theorem instant_n {lv y mo d h mi s p dg zn : Int} {z : Bool} (F : Facts lv y mo d h mi s p dg zn z) (w : World) (hM : Months w) (h7 : lv ≠ 7) :
    Calls Tryd.prog 33 #[.agg #[.int .i64 lv, .int .i64 y, .int .i64 mo, .int .i64 d, .int .i64 h, .int .i64 mi, .int .i64 s, .int .i64 p, .int .i64 dg, .bool z, .int .i64 zn]] w fun e w' => e = .returned (.int .i64 (instI lv y mo d h mi s p dg zn)) ∧ Below w.heap.size w w' := by
  have HM : Hid (∀ o, Months (w.alloc o)) := fun o => months_alloc hM o
  have y1 := F.y1
  have y2 := F.y2
  have h0 := F.h0
  have h2 := F.h2
  have mi0 := F.mi0
  have mi2 := F.mi2
  have s0 := F.s0
  have s2 := F.s2
  have zn1 := F.zn1
  have zn2 := F.zn2
  have mo0 := F.mo0
  have mo2 := F.mo2
  have d0 := F.d0
  have d2 := F.d2
  have nl := num_lim F.v
  have h7b : (lv == 7) = false := by simpa using h7
  have HI : Hid (∀ m d' : Int, max mo 1 = m → max d 1 = d' → num y m d' * 864000000 + h * 36000000 + mi * 600000 + s * 10000 - zn * 600000 = instI lv y mo d h mi s p dg zn) := by
    rintro m d' rfl rfl; unfold instI; rw [if_neg h7]; omega
  clear F hM h7
  by_cases a : 1 ≤ mo
  · have e1 : max mo 1 = mo := by omega
    by_cases b : 1 ≤ d
    · have e2 : max d 1 = d := by omega
      rw [e1, e2] at nl
      have HE : Hid (max mo 1 = mo ∧ max d 1 = d) := ⟨e1, e2⟩
      clear e1 e2
      go_enter Tryd.func33, Tryd.ntmps33
      go_wp2_with (go_at_call 60; refine (daysAhead_any _ _ _ _ (HM.out _) (by omega) (by omega) (by omega) (by omega) (by omega) (by omega)).mono ?_; rintro e w' ⟨rfl, rfl⟩)
      go_ret
      exact ⟨ret_int (HI.out _ _ HE.out.1 HE.out.2), below_box _ _⟩
    · have e2 : max d 1 = 1 := by omega
      rw [e1, e2] at nl
      have HE : Hid (max mo 1 = mo ∧ max d 1 = 1) := ⟨e1, e2⟩
      clear e1 e2
      go_enter Tryd.func33, Tryd.ntmps33
      go_wp2_with (go_at_call 60; refine (daysAhead_any _ _ _ _ (HM.out _) (by omega) (by omega) (by omega) (by omega) (by omega) (by omega)).mono ?_; rintro e w' ⟨rfl, rfl⟩)
      go_ret
      exact ⟨ret_int (HI.out _ _ HE.out.1 HE.out.2), below_box _ _⟩
  · have e1 : max mo 1 = 1 := by omega
    by_cases b : 1 ≤ d
    · have e2 : max d 1 = d := by omega
      rw [e1, e2] at nl
      have HE : Hid (max mo 1 = 1 ∧ max d 1 = d) := ⟨e1, e2⟩
      clear e1 e2
      go_enter Tryd.func33, Tryd.ntmps33
      go_wp2_with (go_at_call 60; refine (daysAhead_any _ _ _ _ (HM.out _) (by omega) (by omega) (by omega) (by omega) (by omega) (by omega)).mono ?_; rintro e w' ⟨rfl, rfl⟩)
      go_ret
      exact ⟨ret_int (HI.out _ _ HE.out.1 HE.out.2), below_box _ _⟩
    · have e2 : max d 1 = 1 := by omega
      rw [e1, e2] at nl
      have HE : Hid (max mo 1 = 1 ∧ max d 1 = 1) := ⟨e1, e2⟩
      clear e1 e2
      go_enter Tryd.func33, Tryd.ntmps33
      go_wp2_with (go_at_call 60; refine (daysAhead_any _ _ _ _ (HM.out _) (by omega) (by omega) (by omega) (by omega) (by omega) (by omega)).mono ?_; rintro e w' ⟨rfl, rfl⟩)
      go_ret
      exact ⟨ret_int (HI.out _ _ HE.out.1 HE.out.2), below_box _ _⟩

set_option maxHeartbeats 1000000 in
theorem instant_7 {y mo d h mi s p dg zn : Int} {z : Bool} (F : Facts 7 y mo d h mi s p dg zn z) (w : World) (hM : Months w) (mo1 : 1 ≤ mo) (d1 : 1 ≤ d) :
    Calls Tryd.prog 33 #[.agg #[.int .i64 7, .int .i64 y, .int .i64 mo, .int .i64 d, .int .i64 h, .int .i64 mi, .int .i64 s, .int .i64 p, .int .i64 dg, .bool z, .int .i64 zn]] w fun e w' => e = .returned (.int .i64 (instI 7 y mo d h mi s p dg zn)) ∧ Below w.heap.size w w' := by
  have HM : Hid (∀ o, Months (w.alloc o)) := fun o => months_alloc hM o
  have y1 := F.y1
  have y2 := F.y2
  have h0 := F.h0
  have h2 := F.h2
  have mi0 := F.mi0
  have mi2 := F.mi2
  have s0 := F.s0
  have s2 := F.s2
  have zn1 := F.zn1
  have zn2 := F.zn2
  have mo0 := F.mo0
  have mo2 := F.mo2
  have d0 := F.d0
  have d2 := F.d2
  have nl := num_lim F.v
  have e1 : max mo 1 = mo := by omega
  have e2 : max d 1 = d := by omega
  rw [e1, e2] at nl
  have pb := part_bd F.dg0 F.dg2 F.p0 F.p2
  have tb := tensB_bd (4 - dg)
  have p0 := F.p0
  have HF := F
  have HI : Hid (num y mo d * 864000000 + h * 36000000 + mi * 600000 + s * 10000 + p * tensB (4 - dg) - zn * 600000 = instI 7 y mo d h mi s p dg zn) := by
    unfold instI Hid; rw [e1, e2, if_pos rfl]
  have HL : Hid (0 ≤ dg ∧ dg ≤ 4) := ⟨F.dg0, F.dg2⟩
  clear F hM e1 e2 HF
  go_enter Tryd.func33, Tryd.ntmps33
  go_wp2_with (go_at_call 60; refine (daysAhead_any _ _ _ _ (HM.out _) (by omega) (by omega) (by omega) (by omega) (by omega) (by omega)).mono ?_; rintro e w' ⟨rfl, rfl⟩)
  go_region_with (go_at_call 37; refine (length7 _ _ _ _ _ _ _ _ _ _ _ HL.out.1 HL.out.2).mono ?_; rintro e w1 ⟨rfl, hb⟩; obtain ⟨hc, hf⟩ := bcell hb)
  all_goals
    go_wp2
    go_ret
    refine ⟨ret_int HI.out, ?_⟩
    first | exact below_step (Below.refl _ _) hb | exact below_step (Below.refl _ _) (below_of_drew hb) | exact below_drew (below_step (Below.refl _ _) hb) | exact below_drew (below_step (Below.refl _ _) (below_of_drew hb)) | exact below_drew (below_drew (below_step (Below.refl _ _) hb))
end Go.Proofs.YtpcdkafjogpdkaaDoor
