/-
  The reference's instant and span: least, before, long, Instant.
-/
import Derived.Test.YtohaiibecniacabDoorInst2
namespace Go.Proofs.YtohaiibecniacabDoor
open Go.RowKit

theorem ret_pair {a b : Int} {v : Value} (h : a = b) : Ending.returned (.tuple #[.int .i64 a, v]) = .returned (.tuple #[.int .i64 b, v]) := by rw [h]

set_option maxHeartbeats 400000 in
theorem least_any (v : Int) (w : World) (h : 0 ≤ v) : Calls Tryd.prog 42 #[.int .i64 v] w fun e w' => e = .returned (.int .i64 (max v 1)) ∧ w' = w := by
  by_cases g : v = 0
  · subst g
    go_enter Tryd.func42, Tryd.ntmps42
    go_wp2
    go_ret
    exact ⟨rfl, rfl⟩
  · have g' : (v == 0) = false := by simpa using g
    go_enter Tryd.func42, Tryd.ntmps42
    go_wp2
    go_ret
    exact ⟨ret_int (by omega), rfl⟩

set_option maxHeartbeats 1000000 in
theorem before_any (y m d : Int) (w : World) (h1 : 1 ≤ y) (h2 : y ≤ 10000) (h3 : 1 ≤ m) (h4 : m ≤ 12) (h5 : 1 ≤ d) (h6 : d ≤ 31) :
    Calls Tryd.prog 41 #[.int .i64 y, .int .i64 m, .int .i64 d] w fun e w' => e = .returned (.int .i64 (num y m d)) ∧ w' = w := by
  have b1 := dby_mono (a := 1) (b := y) h1
  have b2 := dby_mono (a := y) (b := 10000) h2
  rw [dby_one] at b1
  rw [dby_max] at b2
  go_enter Tryd.func41, Tryd.ntmps41
  go_wp2
  go_loop [8, 9] (fun tn tm => ∃ k : Int, 1 ≤ k ∧ k ≤ m ∧ tm = .int .i64 k ∧ tn = .int .i64 (dby y + cum y k)) (fun _ tm => (m - intOf tm).toNat)
  case atStart => exact ⟨1, by omega, by omega, rfl, by rw [cum_one]; congr 1; unfold dby; omega⟩
  case round =>
    obtain ⟨k, hk1, hk2, rfl, rfl⟩ := hrel
    have cb := cum_bd y k hk1 (by omega)
    have db := dim_bd y k
    have hl := lp_01 y
    have CS : Hid (cum y (k + 1) = cum y k + dim y k) := cum_succ y k hk1 (by omega)
    by_cases hlt : k < m
    · go_wp2_with (go_at_call 75; refine (Days_any _ _ _ (by omega) (by omega)).mono ?_; rintro e w' ⟨rfl, rfl⟩)
      go_round
      case rel => exact ⟨k + 1, by omega, by omega, rfl, by rw [CS.out]; go_num⟩
      case measure => simp [intOf]; omega
    · go_wp2_with (go_at_call 75; refine (Days_any _ _ _ (by omega) (by omega)).mono ?_; rintro e w' ⟨rfl, rfl⟩)
      go_ret
      exact ⟨ret_int (by unfold num; rw [show k = m by omega]), rfl⟩

set_option maxHeartbeats 1000000 in
theorem refInstant_n {lv y mo d h mi s p dg zn : Int} {z : Bool} (hr : rightB lv y mo d h mi s p dg zn z = true) (w : World) (h7 : lv ≠ 7) :
    Calls Tryd.prog 17 #[.agg #[.int .i64 lv, .int .i64 y, .int .i64 mo, .int .i64 d, .int .i64 h, .int .i64 mi, .int .i64 s, .int .i64 p, .int .i64 dg, .bool z, .int .i64 zn]] w fun e w' => e = .returned (.tuple #[.int .i64 (instI lv y mo d h mi s p dg zn), .int .i64 0]) ∧ Below w.heap.size w w' := by
  have F := facts_of hr
  have y1 := F.y1
  have y2 := F.y2
  have h0 := F.h0
  have h2 := F.h2
  have mi0 := F.mi0
  have mi2 := F.mi2
  have s0 := F.s0
  have s2 := F.s2
  have zn1 := F.zn1
  have zn2 := F.zn2
  have mo0 := F.mo0
  have mo2 := F.mo2
  have d0 := F.d0
  have d2 := F.d2
  have nl := num_lim F.v
  have h7b : (lv == 7) = false := by simpa using h7
  have HI : Hid (instI lv y mo d h mi s p dg zn = num y (max mo 1) (max d 1) * 864000000 + h * 36000000 + mi * 600000 + s * 10000 - zn * 600000) := by
    unfold instI Hid; rw [if_neg h7]; omega
  clear h7
  have HR : Hid (rightB lv y mo d h mi s p dg zn z = true) := hr
  have HB0 : Hid (∀ W : World, Below w.heap.size w W → True) := fun _ _ => trivial
  clear F hr HB0
  go_enter Tryd.func17, Tryd.ntmps17
  go_wp2_with fail
  refine (Right_is HR.out _).mono ?_
  rintro e w1 ⟨rfl, hb1⟩
  obtain ⟨hc, hf⟩ := bcell hb1
  have HB : Hid (Below w.heap.size w w1) := below_step (Below.refl _ _) hb1
  clear hb1
  go_wp2_with fail
  go_quiet ((first | (go_at_call 42; exact Calls.quiet_of_same (least_any _ _ (by omega))) | (go_at_call 41; exact Calls.quiet_of_same (before_any _ _ _ _ (by omega) (by omega) (by omega) (by omega) (by omega) (by omega)))))
  go_wp2_with fail
  go_ret2
  exact ⟨ret_pair (by rw [HI.out]; omega), below_dr HB.out _⟩

set_option maxHeartbeats 1000000 in
theorem refInstant_7 {y mo d h mi s p dg zn : Int} {z : Bool} (hr : rightB 7 y mo d h mi s p dg zn z = true) (w : World) :
    Calls Tryd.prog 17 #[.agg #[.int .i64 7, .int .i64 y, .int .i64 mo, .int .i64 d, .int .i64 h, .int .i64 mi, .int .i64 s, .int .i64 p, .int .i64 dg, .bool z, .int .i64 zn]] w fun e w' => e = .returned (.tuple #[.int .i64 (instI 7 y mo d h mi s p dg zn), .int .i64 0]) ∧ Below w.heap.size w w' := by
  have F := facts_of hr
  have y1 := F.y1
  have y2 := F.y2
  have h0 := F.h0
  have h2 := F.h2
  have mi0 := F.mi0
  have mi2 := F.mi2
  have s0 := F.s0
  have s2 := F.s2
  have zn1 := F.zn1
  have zn2 := F.zn2
  have mo0 := F.mo0
  have mo2 := F.mo2
  have d0 := F.d0
  have d2 := F.d2
  have nl := num_lim F.v
  have pb := part_bd F.dg0 F.dg2 F.p0 F.p2
  have tb := tensB_bd (4 - dg)
  have p0 := F.p0
  have dg0 := F.dg0
  have dg2 := F.dg2
  have HI : Hid (instI 7 y mo d h mi s p dg zn = num y (max mo 1) (max d 1) * 864000000 + h * 36000000 + mi * 600000 + s * 10000 + p * tensB (4 - dg) - zn * 600000) := by
    unfold instI Hid; rw [if_pos rfl]
  have HR : Hid (rightB 7 y mo d h mi s p dg zn z = true) := hr
  have HB0 : Hid (∀ W : World, Below w.heap.size w W → True) := fun _ _ => trivial
  clear F hr HB0
  go_enter Tryd.func17, Tryd.ntmps17
  go_wp2_with fail
  refine (Right_is HR.out _).mono ?_
  rintro e w1 ⟨rfl, hb1⟩
  obtain ⟨hc, hf⟩ := bcell hb1
  have HB : Hid (Below w.heap.size w w1) := below_step (Below.refl _ _) hb1
  clear hb1
  go_wp2_with fail
  go_quiet ((first | (go_at_call 42; exact Calls.quiet_of_same (least_any _ _ (by omega))) | (go_at_call 41; exact Calls.quiet_of_same (before_any _ _ _ _ (by omega) (by omega) (by omega) (by omega) (by omega) (by omega)))))
  go_wp2_with fail
  go_quiet ((go_at_call 43; exact quiet_plus (power_any _ _ (by omega) (by omega))))
  go_wp2_with fail
  go_ret2
  exact ⟨ret_pair (by rw [HI.out]; omega), by first | exact below_dr HB.out _ | exact below_dr (below_dr HB.out _) _⟩

theorem refInstant_ok {lv y mo d h mi s p dg zn : Int} {z : Bool} (hr : rightB lv y mo d h mi s p dg zn z = true) (w : World) :
    Calls Tryd.prog 17 #[.agg #[.int .i64 lv, .int .i64 y, .int .i64 mo, .int .i64 d, .int .i64 h, .int .i64 mi, .int .i64 s, .int .i64 p, .int .i64 dg, .bool z, .int .i64 zn]] w fun e w' => e = .returned (.tuple #[.int .i64 (instI lv y mo d h mi s p dg zn), .int .i64 0]) ∧ Below w.heap.size w w' := by
  by_cases h7 : lv = 7
  · subst h7; exact refInstant_7 hr w
  · exact refInstant_n hr w h7

set_option maxHeartbeats 400000 in
theorem refInstant_bad {lv y mo d h mi s p dg zn : Int} {z : Bool} (hr : rightB lv y mo d h mi s p dg zn z = false) (w : World) :
    Calls Tryd.prog 17 #[.agg #[.int .i64 lv, .int .i64 y, .int .i64 mo, .int .i64 d, .int .i64 h, .int .i64 mi, .int .i64 s, .int .i64 p, .int .i64 dg, .bool z, .int .i64 zn]] w fun e w' => e = .returned (.tuple #[.int .i64 0, .int .i64 20]) ∧ Below w.heap.size w w' := by
  have HR : Hid (rightB lv y mo d h mi s p dg zn z = false) := hr
  clear hr
  go_enter Tryd.func17, Tryd.ntmps17
  go_wp2_with fail
  refine (Right_is HR.out _).mono ?_
  rintro e w1 ⟨rfl, hb1⟩
  have HB : Hid (Below w.heap.size w w1) := below_step (Below.refl _ _) hb1
  clear hb1
  go_wp2_with fail
  go_ret2
  exact ⟨rfl, HB.out⟩

set_option maxHeartbeats 400000 in
theorem long1 (y mo d h mi s p dg zn : Int) (z : Bool) (w : World) (y1 : 1 ≤ y) (y2 : y ≤ 9999) :
    Calls Tryd.prog 44 #[.agg #[.int .i64 1, .int .i64 y, .int .i64 mo, .int .i64 d, .int .i64 h, .int .i64 mi, .int .i64 s, .int .i64 p, .int .i64 dg, .bool z, .int .i64 zn]] w fun e w' => e = .returned (.int .i64 ((365 + lp y) * 864000000)) ∧ Below w.heap.size w w' := by
  cases hl : lpB y with
  | true =>
    go_enter Tryd.func44, Tryd.ntmps44
    go_wp2_with (go_at_call 76; refine (Leap_any _ _ (by omega) (by omega)).mono ?_; rintro e w' ⟨rfl, rfl⟩)
    go_ret
    exact ⟨ret_int (by unfold lp; rw [if_pos hl]; rfl), below_box _ _⟩
  | false =>
    go_enter Tryd.func44, Tryd.ntmps44
    go_wp2_with (go_at_call 76; refine (Leap_any _ _ (by omega) (by omega)).mono ?_; rintro e w' ⟨rfl, rfl⟩)
    go_ret
    exact ⟨ret_int (by unfold lp; rw [if_neg (by rw [hl]; decide)]; rfl), below_box _ _⟩
set_option maxHeartbeats 400000 in
theorem long2 (y mo d h mi s p dg zn : Int) (z : Bool) (w : World) (y1 : 1 ≤ y) (y2 : y ≤ 9999) :
    Calls Tryd.prog 44 #[.agg #[.int .i64 2, .int .i64 y, .int .i64 mo, .int .i64 d, .int .i64 h, .int .i64 mi, .int .i64 s, .int .i64 p, .int .i64 dg, .bool z, .int .i64 zn]] w fun e w' => e = .returned (.int .i64 (dim y mo * 864000000)) ∧ Below w.heap.size w w' := by
  have db := dim_bd y mo
  go_enter Tryd.func44, Tryd.ntmps44
  go_wp2_with (go_at_call 75; refine (Days_any _ _ _ (by omega) (by omega)).mono ?_; rintro e w' ⟨rfl, rfl⟩)
  go_ret
  exact ⟨rfl, below_box _ _⟩
set_option maxHeartbeats 400000 in
theorem long3 (y mo d h mi s p dg zn : Int) (z : Bool) (w : World) :
    Calls Tryd.prog 44 #[.agg #[.int .i64 3, .int .i64 y, .int .i64 mo, .int .i64 d, .int .i64 h, .int .i64 mi, .int .i64 s, .int .i64 p, .int .i64 dg, .bool z, .int .i64 zn]] w fun e w' => e = .returned (.int .i64 (864000000)) ∧ Below w.heap.size w w' := by
  go_enter Tryd.func44, Tryd.ntmps44
  go_wp2_with fail
  go_ret
  exact ⟨rfl, below_box _ _⟩
set_option maxHeartbeats 400000 in
theorem long4 (y mo d h mi s p dg zn : Int) (z : Bool) (w : World) :
    Calls Tryd.prog 44 #[.agg #[.int .i64 4, .int .i64 y, .int .i64 mo, .int .i64 d, .int .i64 h, .int .i64 mi, .int .i64 s, .int .i64 p, .int .i64 dg, .bool z, .int .i64 zn]] w fun e w' => e = .returned (.int .i64 (36000000)) ∧ Below w.heap.size w w' := by
  go_enter Tryd.func44, Tryd.ntmps44
  go_wp2_with fail
  go_ret
  exact ⟨rfl, below_box _ _⟩
set_option maxHeartbeats 400000 in
theorem long5 (y mo d h mi s p dg zn : Int) (z : Bool) (w : World) :
    Calls Tryd.prog 44 #[.agg #[.int .i64 5, .int .i64 y, .int .i64 mo, .int .i64 d, .int .i64 h, .int .i64 mi, .int .i64 s, .int .i64 p, .int .i64 dg, .bool z, .int .i64 zn]] w fun e w' => e = .returned (.int .i64 (600000)) ∧ Below w.heap.size w w' := by
  go_enter Tryd.func44, Tryd.ntmps44
  go_wp2_with fail
  go_ret
  exact ⟨rfl, below_box _ _⟩
set_option maxHeartbeats 400000 in
theorem long6 (y mo d h mi s p dg zn : Int) (z : Bool) (w : World) :
    Calls Tryd.prog 44 #[.agg #[.int .i64 6, .int .i64 y, .int .i64 mo, .int .i64 d, .int .i64 h, .int .i64 mi, .int .i64 s, .int .i64 p, .int .i64 dg, .bool z, .int .i64 zn]] w fun e w' => e = .returned (.int .i64 (10000)) ∧ Below w.heap.size w w' := by
  go_enter Tryd.func44, Tryd.ntmps44
  go_wp2_with fail
  go_ret
  exact ⟨rfl, below_box _ _⟩
set_option maxHeartbeats 400000 in
theorem long7 (y mo d h mi s p dg zn : Int) (z : Bool) (w : World) (dg0 : 0 ≤ dg) (dg2 : dg ≤ 4) :
    Calls Tryd.prog 44 #[.agg #[.int .i64 7, .int .i64 y, .int .i64 mo, .int .i64 d, .int .i64 h, .int .i64 mi, .int .i64 s, .int .i64 p, .int .i64 dg, .bool z, .int .i64 zn]] w fun e w' => e = .returned (.int .i64 (tensB (4 - dg))) ∧ Below w.heap.size w w' := by
  go_enter Tryd.func44, Tryd.ntmps44
  go_wp2_with (go_at_call 43; refine (power_any _ _ (by omega) (by omega)).mono ?_; rintro e w' ⟨rfl, rfl⟩)
  go_ret
  exact ⟨rfl, below_box _ _⟩
theorem long_any {lv y mo d h mi s p dg zn : Int} {z : Bool} (F : Facts lv y mo d h mi s p dg zn z) (w : World) :
    Calls Tryd.prog 44 #[.agg #[.int .i64 lv, .int .i64 y, .int .i64 mo, .int .i64 d, .int .i64 h, .int .i64 mi, .int .i64 s, .int .i64 p, .int .i64 dg, .bool z, .int .i64 zn]] w fun e w' => e = .returned (.int .i64 (lenI lv y mo dg)) ∧ Below w.heap.size w w' := by
  have l1 := F.l1
  have l2 := F.l2
  rcases (by omega : lv = 1 ∨ lv = 2 ∨ lv = 3 ∨ lv = 4 ∨ lv = 5 ∨ lv = 6 ∨ lv = 7) with rfl | rfl | rfl | rfl | rfl | rfl | rfl
  · exact long1 y mo d h mi s p dg zn z w F.y1 F.y2
  · exact long2 y mo d h mi s p dg zn z w F.y1 F.y2
  · exact long3 y mo d h mi s p dg zn z w
  · exact long4 y mo d h mi s p dg zn z w
  · exact long5 y mo d h mi s p dg zn z w
  · exact long6 y mo d h mi s p dg zn z w
  · exact long7 y mo d h mi s p dg zn z w F.dg0 F.dg2
end Go.Proofs.YtohaiibecniacabDoor
