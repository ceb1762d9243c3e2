/-
  stamp.dayAt: the day of a number of days.
-/
import Derived.Test.YtpcdkafjogpdkaaDoorLeaf
namespace Go.Proofs.YtpcdkafjogpdkaaDoor
open Go.RowKit

theorem dayAt_raw (D Y T c o : Int) (h0 : 0 ≤ D) (hc : c = min (D % 146097 / 36524) 3) (ho : o = min ((D % 146097 - c * 36524) % 1461 / 365) 3)
    (hY : Y = 400 * (D / 146097) + 100 * c + 4 * ((D % 146097 - c * 36524) / 1461) + o + 1) (hT : T = (D % 146097 - c * 36524) % 1461 - o * 365) : dby Y + T = D ∧ 0 ≤ T ∧ T < 365 + lp Y :=
  dayAt_year D _ _ c _ _ _ o T Y h0 rfl rfl hc rfl rfl rfl ho hT hY
/-- A day's year is from 1 to 9999. -/
theorem year_bd {D Y T : Int} (h0 : 0 ≤ D) (h1 : D ≤ 3652058) (h : dby Y + T = D ∧ 0 ≤ T ∧ T < 365 + lp Y) : 1 ≤ Y ∧ Y ≤ 9999 := by
  obtain ⟨a, b, c⟩ := h
  have hl := lp_01 Y
  have hs := dby_succ Y
  constructor
  · rcases Int.lt_or_le 0 Y with g | g
    · omega
    · have := dby_mono (a := Y + 1) (b := 1) (by omega); rw [dby_one] at this; omega
  · rcases Int.lt_or_le Y 10000 with g | g
    · omega
    · have := dby_mono (a := 10000) (b := Y) g; rw [dby_max] at this; omega
theorem vld_of {Y m T : Int} (h1 : 1 ≤ Y) (h2 : Y ≤ 9999) (h3 : 1 ≤ m) (h4 : m ≤ 12) (h5 : 0 ≤ T - cum Y m) (h6 : T - cum Y m < dim Y m) : vldB Y m (T - cum Y m + 1) = true :=
  vld_iff.2 ⟨h1, h2, h3, h4, by omega, by omega⟩
theorem num_of {D Y m T : Int} (h : dby Y + T = D) : num Y m (T - cum Y m + 1) = D := by unfold num; omega

set_option maxHeartbeats 1000000 in
theorem dayAt_any (D : Int) (w : World) (hM : Months w) (h0 : 0 ≤ D) (h1 : D ≤ 3652058) :
    Calls Tryd.prog 61 #[.int .i64 D] w fun e w' => (∃ y m d : Int, e = .returned (.tuple #[.int .i64 y, .int .i64 m, .int .i64 d]) ∧ vldB y m d = true ∧ num y m d = D) ∧ w' = w := by
  go_enter Tryd.func61, Tryd.ntmps61
  go_wp2_with fail
  all_goals
    first
      | (obtain ⟨Y, hY⟩ : ∃ Y : Int, 400 * (D / 146097) + 300 + 4 * ((D % 146097 - 109572) / 1461) + 3 + 1 = Y := ⟨_, rfl⟩; obtain ⟨T, hT⟩ : ∃ T : Int, (D % 146097 - 109572) % 1461 - 1095 = T := ⟨_, rfl⟩; rw [hY, hT]; have hD := dayAt_raw D Y T 3 3 h0 (by omega) (by omega) (by omega) (by omega); clear hY hT)
      | (obtain ⟨Y, hY⟩ : ∃ Y : Int, 400 * (D / 146097) + 300 + 4 * ((D % 146097 - 109572) / 1461) + (D % 146097 - 109572) % 1461 / 365 + 1 = Y := ⟨_, rfl⟩; obtain ⟨T, hT⟩ : ∃ T : Int, (D % 146097 - 109572) % 1461 - (D % 146097 - 109572) % 1461 / 365 * 365 = T := ⟨_, rfl⟩; rw [hY, hT]; have hD := dayAt_raw D Y T 3 ((D % 146097 - 109572) % 1461 / 365) h0 (by omega) (by omega) (by omega) (by omega); clear hY hT)
      | (obtain ⟨Y, hY⟩ : ∃ Y : Int, 400 * (D / 146097) + 100 * (D % 146097 / 36524) + 4 * ((D % 146097 - D % 146097 / 36524 * 36524) / 1461) + 3 + 1 = Y := ⟨_, rfl⟩; obtain ⟨T, hT⟩ : ∃ T : Int, (D % 146097 - D % 146097 / 36524 * 36524) % 1461 - 1095 = T := ⟨_, rfl⟩; rw [hY, hT]; have hD := dayAt_raw D Y T (D % 146097 / 36524) 3 h0 (by omega) (by omega) (by omega) (by omega); clear hY hT)
      | (obtain ⟨Y, hY⟩ : ∃ Y : Int, 400 * (D / 146097) + 100 * (D % 146097 / 36524) + 4 * ((D % 146097 - D % 146097 / 36524 * 36524) / 1461) + (D % 146097 - D % 146097 / 36524 * 36524) % 1461 / 365 + 1 = Y := ⟨_, rfl⟩; obtain ⟨T, hT⟩ : ∃ T : Int, (D % 146097 - D % 146097 / 36524 * 36524) % 1461 - (D % 146097 - D % 146097 / 36524 * 36524) % 1461 / 365 * 365 = T := ⟨_, rfl⟩; rw [hY, hT]; have hD := dayAt_raw D Y T (D % 146097 / 36524) ((D % 146097 - D % 146097 / 36524 * 36524) % 1461 / 365) h0 (by omega) (by omega) (by omega) (by omega); clear hY hT)
    obtain ⟨y1, y2⟩ := year_bd h0 h1 hD
    obtain ⟨d1, d2, d3⟩ := hD
    have HD : Hid (dby Y + T = D) := d1
    have hl := lp_01 Y
    clear d1
    go_loop [3, 6] (fun tm tr => ∃ m : Int, tm = .int .i64 m ∧ tr = .int .i64 (T - cum Y m) ∧ 1 ≤ m ∧ m ≤ 12 ∧ 0 ≤ T - cum Y m) (fun tm _ => (12 - intOf tm).toNat)
    case atStart => exact ⟨1, rfl, by rw [cum_one, Int.sub_zero], by omega, by omega, by rw [cum_one]; omega⟩
    case round =>
      obtain ⟨m, rfl, rfl, hm1, hm2, hr⟩ := hrel
      have cb := cum_bd Y m hm1 hm2
      have db := dim_bd Y m
      have CS : Hid (cum Y (m + 1) = cum Y m + dim Y m) := cum_succ Y m hm1 hm2
      by_cases hc : dim Y m ≤ T - cum Y m
      · have hm : m < 12 := by
          rcases Int.lt_or_le m 12 with g | g
          · exact g
          · have e : m = 12 := by omega
            subst e
            have := CS.out; rw [show (12 : Int) + 1 = 13 from rfl, cum_13] at this; omega
        go_wp2_with (go_at_call 63; refine (daysOf_any _ _ _ hM (by omega) (by omega) (by omega) (by omega)).mono ?_; rintro e w' ⟨rfl, rfl⟩)
        go_round
        case rel => exact ⟨m + 1, rfl, by rw [CS.out]; go_num, by omega, by omega, by rw [CS.out]; omega⟩
        case measure => simp [intOf]; omega
      · have hv : T - cum Y m < dim Y m := by omega
        clear hc
        go_wp2_with (go_at_call 63; refine (daysOf_any _ _ _ hM (by omega) (by omega) (by omega) (by omega)).mono ?_; rintro e w' ⟨rfl, rfl⟩)
        go_ret3
        exact ⟨⟨Y, m, _, rfl, vld_of y1 y2 hm1 hm2 hr hv, num_of HD.out⟩, rfl⟩
end Go.Proofs.YtpcdkafjogpdkaaDoor
