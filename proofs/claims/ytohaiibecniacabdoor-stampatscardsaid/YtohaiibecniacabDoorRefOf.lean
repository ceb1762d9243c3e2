/-
  courierref01.Of.
-/
import Derived.Test.YtohaiibecniacabDoorStampOf
namespace Go.Proofs.YtohaiibecniacabDoor
open Go.RowKit

set_option maxHeartbeats 1000000 in
theorem refOf_bad (t level : Int) (w : World) (h : t < 0 ∨ 3155378975999999 < t ∨ (level ≠ 6 ∧ level ≠ 7)) :
    Calls Tryd.prog 47 #[.int .i64 t, .int .i64 level] w fun e w' => e = .returned (.tuple #[.agg #[.int .i64 0, .int .i64 0, .int .i64 0, .int .i64 0, .int .i64 0, .int .i64 0, .int .i64 0, .int .i64 0, .int .i64 0, .bool false, .int .i64 0], .int .i64 2]) ∧ Below w.heap.size w w' := by
  by_cases h1 : t < 0
  · go_enter Tryd.func47, Tryd.ntmps47
    go_wp2
    exact bodyPost_ret (v := .tuple #[.agg #[.int .i64 0, .int .i64 0, .int .i64 0, .int .i64 0, .int .i64 0, .int .i64 0, .int .i64 0, .int .i64 0, .int .i64 0, .bool false, .int .i64 0], .int .i64 2]) (by simp [results, Tryd.results47, go_sem]) rfl ⟨rfl, (Below.refl _ _).alloc (Nat.le_refl _) _⟩
  · by_cases h2 : 3155378975999999 < t
    · go_enter Tryd.func47, Tryd.ntmps47
      go_wp2
      exact bodyPost_ret (v := .tuple #[.agg #[.int .i64 0, .int .i64 0, .int .i64 0, .int .i64 0, .int .i64 0, .int .i64 0, .int .i64 0, .int .i64 0, .int .i64 0, .bool false, .int .i64 0], .int .i64 2]) (by simp [results, Tryd.results47, go_sem]) rfl ⟨rfl, (Below.refl _ _).alloc (Nat.le_refl _) _⟩
    · have h3 : level ≠ 6 ∧ level ≠ 7 := by omega
      have h4 : (level != 6) = true := by simpa using h3.1
      have h5 : (level != 7) = true := by simpa using h3.2
      have h4' : (level == 6) = false := by simpa using h3.1
      have h5' : (level == 7) = false := by simpa using h3.2
      clear h h3
      go_enter Tryd.func47, Tryd.ntmps47
      go_wp2
      exact bodyPost_ret (v := .tuple #[.agg #[.int .i64 0, .int .i64 0, .int .i64 0, .int .i64 0, .int .i64 0, .int .i64 0, .int .i64 0, .int .i64 0, .int .i64 0, .bool false, .int .i64 0], .int .i64 2]) (by simp [results, Tryd.results47, go_sem]) rfl ⟨rfl, (Below.refl _ _).alloc (Nat.le_refl _) _⟩

set_option maxHeartbeats 4000000 in
theorem refOf6 (t : Int) (w : World) (h0 : 0 ≤ t) (h1 : t ≤ 3155378975999999) :
    Calls Tryd.prog 47 #[.int .i64 t, .int .i64 6] w fun e w' => (∃ y m d : Int, e = .returned (.tuple #[ofV 6 t y m d, .int .i64 0]) ∧ vldB y m d = true ∧ num y m d = t / 864000000) ∧ Below w.heap.size w w' := by
  have k0 : ¬ t < 0 := by omega
  go_enter Tryd.func47, Tryd.ntmps47
  go_wp2_with fail
  go_loopw [6] (fun td wx => ∃ Y T : Int, td = .int .i64 T ∧ wx = (w.alloc (.cells #[.int .i64 0, .int .i64 0, .int .i64 0, .int .i64 0, .int .i64 0, .int .i64 0, .int .i64 0, .int .i64 0, .int .i64 0, .bool false, .int .i64 0] 31)).alloc (.cells #[.int .i64 6, .int .i64 Y, .int .i64 1, .int .i64 0, .int .i64 0, .int .i64 0, .int .i64 0, .int .i64 0, .int .i64 0, .bool false, .int .i64 0] 31) ∧ Hid (dby Y + T = t / 864000000) ∧ 0 ≤ T ∧ 1 ≤ Y ∧ Y ≤ 9999 ∧ T ≤ 146097) (fun td _ => (intOf td).toNat)
  case atStart =>
    refine ⟨_, _, rfl, rfl, ?_, by omega, by omega, by omega, by omega⟩
    show dby (1 + 400 * (t / 864000000 / 146097)) + _ = _
    rw [dby_400]; omega
  case round =>
    obtain ⟨Y, T, rfl, rfl, HD, t0, y1, y2, t2⟩ := hrel
    by_cases hx : T < 365 + lp Y
    · have HL : Hid (T < 365 + lp Y) := hx
      have hl1 := lp_01 Y
      by_cases hy : T < 365
      · clear hx
        go_wp2_with fail
        go_loopw [6] (fun td wx => ∃ m : Int, td = .int .i64 (T - cum Y m) ∧ wx = (w.alloc (.cells #[.int .i64 0, .int .i64 0, .int .i64 0, .int .i64 0, .int .i64 0, .int .i64 0, .int .i64 0, .int .i64 0, .int .i64 0, .bool false, .int .i64 0] 31)).alloc (.cells #[.int .i64 6, .int .i64 Y, .int .i64 m, .int .i64 0, .int .i64 0, .int .i64 0, .int .i64 0, .int .i64 0, .int .i64 0, .bool false, .int .i64 0] 31) ∧ 1 ≤ m ∧ m ≤ 12 ∧ 0 ≤ T - cum Y m ∧ T - cum Y m ≤ 366) (fun td _ => (intOf td).toNat)
        case atStart => exact ⟨1, by rw [cum_one, Int.sub_zero], rfl, by omega, by omega, by rw [cum_one]; omega, by rw [cum_one]; omega⟩
        case round =>
          obtain ⟨m, rfl, rfl, hm1, hm2, hr, hr2⟩ := hrel
          have cb := cum_bd Y m hm1 hm2
          have db := dim_bd Y m
          have CS : Hid (cum Y (m + 1) = cum Y m + dim Y m) := cum_succ Y m hm1 hm2
          by_cases hc : dim Y m ≤ T - cum Y m
          · have hm : m < 12 := by
              rcases Int.lt_or_le m 12 with g | g
              · exact g
              · have e : m = 12 := by omega
                subst e
                have := CS.out; rw [show (12 : Int) + 1 = 13 from rfl, cum_13] at this; have := HL.out; omega
            go_wp2_with (go_at_call 75; refine (Days_any _ _ _ (by omega) (by omega)).mono ?_; rintro e w' ⟨rfl, rfl⟩)
            go_roundw
            case rel => exact ⟨m + 1, by rw [CS.out]; go_num, rfl, by omega, by omega, by rw [CS.out]; omega, by rw [CS.out]; omega⟩
            case measure => simp [intOf]; omega
          · have hv : T - cum Y m < dim Y m := by omega
            clear hc
            go_wp2_with (go_at_call 75; refine (Days_any _ _ _ (by omega) (by omega)).mono ?_; rintro e w' ⟨rfl, rfl⟩)
            refine bodyPost_ret (v := .tuple #[.agg #[.int .i64 6, .int .i64 Y, .int .i64 m, .int .i64 (T - cum Y m + 1), .int .i64 (t % 864000000 / 36000000), .int .i64 (t % 864000000 / 600000 % 60), .int .i64 (t % 864000000 / 10000 % 60), .int .i64 0, .int .i64 0, .bool false, .int .i64 0], .int .i64 0]) (by simp [results, Tryd.results47, go_sem]) rfl ⟨⟨Y, m, T - cum Y m + 1, ?_, vld_of y1 y2 hm1 hm2 hr hv, num_of HD.out⟩, ?_⟩
            · rw [ofV6]
              exact congrArg (fun x => Ending.returned (.tuple #[x, .int .i64 0])) (ret_stamp rfl rfl rfl rfl rfl (by unfold minuteOf; omega) (by unfold secondOf; omega) rfl rfl rfl rfl)
            · exact ((Below.refl _ _).alloc (Nat.le_refl _) _).alloc (by simp) _
      · have hlp : lpB Y = true := by
          unfold lp at hx; split at hx
          · assumption
          · omega
        have hT : T < 366 := by omega
        have hy' : 365 ≤ T := by omega
        clear hx hy
        go_wp2_with (go_at_call 76; refine (Leap_any _ _ (by omega) (by omega)).mono ?_; rintro e w' ⟨rfl, rfl⟩)
        go_loopw [6] (fun td wx => ∃ m : Int, td = .int .i64 (T - cum Y m) ∧ wx = (w.alloc (.cells #[.int .i64 0, .int .i64 0, .int .i64 0, .int .i64 0, .int .i64 0, .int .i64 0, .int .i64 0, .int .i64 0, .int .i64 0, .bool false, .int .i64 0] 31)).alloc (.cells #[.int .i64 6, .int .i64 Y, .int .i64 m, .int .i64 0, .int .i64 0, .int .i64 0, .int .i64 0, .int .i64 0, .int .i64 0, .bool false, .int .i64 0] 31) ∧ 1 ≤ m ∧ m ≤ 12 ∧ 0 ≤ T - cum Y m ∧ T - cum Y m ≤ 366) (fun td _ => (intOf td).toNat)
        case atStart => exact ⟨1, by rw [cum_one, Int.sub_zero], rfl, by omega, by omega, by rw [cum_one]; omega, by rw [cum_one]; omega⟩
        case round =>
          obtain ⟨m, rfl, rfl, hm1, hm2, hr, hr2⟩ := hrel
          have cb := cum_bd Y m hm1 hm2
          have db := dim_bd Y m
          have CS : Hid (cum Y (m + 1) = cum Y m + dim Y m) := cum_succ Y m hm1 hm2
          by_cases hc : dim Y m ≤ T - cum Y m
          · have hm : m < 12 := by
              rcases Int.lt_or_le m 12 with g | g
              · exact g
              · have e : m = 12 := by omega
                subst e
                have := CS.out; rw [show (12 : Int) + 1 = 13 from rfl, cum_13] at this; have := HL.out; omega
            go_wp2_with (go_at_call 75; refine (Days_any _ _ _ (by omega) (by omega)).mono ?_; rintro e w' ⟨rfl, rfl⟩)
            go_roundw
            case rel => exact ⟨m + 1, by rw [CS.out]; go_num, rfl, by omega, by omega, by rw [CS.out]; omega, by rw [CS.out]; omega⟩
            case measure => simp [intOf]; omega
          · have hv : T - cum Y m < dim Y m := by omega
            clear hc
            go_wp2_with (go_at_call 75; refine (Days_any _ _ _ (by omega) (by omega)).mono ?_; rintro e w' ⟨rfl, rfl⟩)
            refine bodyPost_ret (v := .tuple #[.agg #[.int .i64 6, .int .i64 Y, .int .i64 m, .int .i64 (T - cum Y m + 1), .int .i64 (t % 864000000 / 36000000), .int .i64 (t % 864000000 / 600000 % 60), .int .i64 (t % 864000000 / 10000 % 60), .int .i64 0, .int .i64 0, .bool false, .int .i64 0], .int .i64 0]) (by simp [results, Tryd.results47, go_sem]) rfl ⟨⟨Y, m, T - cum Y m + 1, ?_, vld_of y1 y2 hm1 hm2 hr hv, num_of HD.out⟩, ?_⟩
            · rw [ofV6]
              exact congrArg (fun x => Ending.returned (.tuple #[x, .int .i64 0])) (ret_stamp rfl rfl rfl rfl rfl (by unfold minuteOf; omega) (by unfold secondOf; omega) rfl rfl rfl rfl)
            · exact ((Below.refl _ _).alloc (Nat.le_refl _) _).alloc (by simp) _
    · have hs : Hid (dby (Y + 1) = dby Y + 365 + lp Y) := dby_succ Y
      have hl1 := lp_01 Y
      have hY : Y < 9999 := by
        rcases Int.lt_or_le Y 9999 with g | g
        · exact g
        · have := dby_mono (a := 10000) (b := Y + 1) (by omega); have := hs.out; have := HD.out; rw [dby_max] at *; omega
      cases hlp : lpB Y with
      | true =>
        have e1 : Hid (lp Y = 1) := by unfold lp Hid; rw [if_pos hlp]
        have hT : ¬ T < 366 := by have := e1.out; omega
        clear hx
        go_wp2_with (go_at_call 76; refine (Leap_any _ _ (by omega) (by omega)).mono ?_; rintro e w' ⟨rfl, rfl⟩)
        go_roundw
        case rel => exact ⟨Y + 1, T - 366, rfl, rfl, by have := hs.out; have := HD.out; have := e1.out; unfold Hid; omega, by omega, by omega, by omega, by omega⟩
        case measure => simp [intOf]; omega
      | false =>
        have e1 : Hid (lp Y = 0) := by unfold lp Hid; rw [if_neg (by rw [hlp]; decide)]
        have hT : ¬ T < 365 := by have := e1.out; omega
        clear hx
        go_wp2_with (go_at_call 76; refine (Leap_any _ _ (by omega) (by omega)).mono ?_; rintro e w' ⟨rfl, rfl⟩)
        go_roundw
        case rel => exact ⟨Y + 1, T - 365, rfl, rfl, by have := hs.out; have := HD.out; have := e1.out; unfold Hid; omega, by omega, by omega, by omega, by omega⟩
        case measure => simp [intOf]; omega

set_option maxHeartbeats 4000000 in
theorem refOf7 (t : Int) (w : World) (h0 : 0 ≤ t) (h1 : t ≤ 3155378975999999) :
    Calls Tryd.prog 47 #[.int .i64 t, .int .i64 7] w fun e w' => (∃ y m d : Int, e = .returned (.tuple #[ofV 7 t y m d, .int .i64 0]) ∧ vldB y m d = true ∧ num y m d = t / 864000000) ∧ Below w.heap.size w w' := by
  have k0 : ¬ t < 0 := by omega
  go_enter Tryd.func47, Tryd.ntmps47
  go_wp2_with fail
  go_loopw [6] (fun td wx => ∃ Y T : Int, td = .int .i64 T ∧ wx = (w.alloc (.cells #[.int .i64 0, .int .i64 0, .int .i64 0, .int .i64 0, .int .i64 0, .int .i64 0, .int .i64 0, .int .i64 0, .int .i64 0, .bool false, .int .i64 0] 31)).alloc (.cells #[.int .i64 7, .int .i64 Y, .int .i64 1, .int .i64 0, .int .i64 0, .int .i64 0, .int .i64 0, .int .i64 0, .int .i64 0, .bool false, .int .i64 0] 31) ∧ Hid (dby Y + T = t / 864000000) ∧ 0 ≤ T ∧ 1 ≤ Y ∧ Y ≤ 9999 ∧ T ≤ 146097) (fun td _ => (intOf td).toNat)
  case atStart =>
    refine ⟨_, _, rfl, rfl, ?_, by omega, by omega, by omega, by omega⟩
    show dby (1 + 400 * (t / 864000000 / 146097)) + _ = _
    rw [dby_400]; omega
  case round =>
    obtain ⟨Y, T, rfl, rfl, HD, t0, y1, y2, t2⟩ := hrel
    by_cases hx : T < 365 + lp Y
    · have HL : Hid (T < 365 + lp Y) := hx
      have hl1 := lp_01 Y
      by_cases hy : T < 365
      · clear hx
        go_wp2_with fail
        go_loopw [6] (fun td wx => ∃ m : Int, td = .int .i64 (T - cum Y m) ∧ wx = (w.alloc (.cells #[.int .i64 0, .int .i64 0, .int .i64 0, .int .i64 0, .int .i64 0, .int .i64 0, .int .i64 0, .int .i64 0, .int .i64 0, .bool false, .int .i64 0] 31)).alloc (.cells #[.int .i64 7, .int .i64 Y, .int .i64 m, .int .i64 0, .int .i64 0, .int .i64 0, .int .i64 0, .int .i64 0, .int .i64 0, .bool false, .int .i64 0] 31) ∧ 1 ≤ m ∧ m ≤ 12 ∧ 0 ≤ T - cum Y m ∧ T - cum Y m ≤ 366) (fun td _ => (intOf td).toNat)
        case atStart => exact ⟨1, by rw [cum_one, Int.sub_zero], rfl, by omega, by omega, by rw [cum_one]; omega, by rw [cum_one]; omega⟩
        case round =>
          obtain ⟨m, rfl, rfl, hm1, hm2, hr, hr2⟩ := hrel
          have cb := cum_bd Y m hm1 hm2
          have db := dim_bd Y m
          have CS : Hid (cum Y (m + 1) = cum Y m + dim Y m) := cum_succ Y m hm1 hm2
          by_cases hc : dim Y m ≤ T - cum Y m
          · have hm : m < 12 := by
              rcases Int.lt_or_le m 12 with g | g
              · exact g
              · have e : m = 12 := by omega
                subst e
                have := CS.out; rw [show (12 : Int) + 1 = 13 from rfl, cum_13] at this; have := HL.out; omega
            go_wp2_with (go_at_call 75; refine (Days_any _ _ _ (by omega) (by omega)).mono ?_; rintro e w' ⟨rfl, rfl⟩)
            go_roundw
            case rel => exact ⟨m + 1, by rw [CS.out]; go_num, rfl, by omega, by omega, by rw [CS.out]; omega, by rw [CS.out]; omega⟩
            case measure => simp [intOf]; omega
          · have hv : T - cum Y m < dim Y m := by omega
            clear hc
            go_wp2_with (go_at_call 75; refine (Days_any _ _ _ (by omega) (by omega)).mono ?_; rintro e w' ⟨rfl, rfl⟩)
            refine bodyPost_ret (v := .tuple #[.agg #[.int .i64 7, .int .i64 Y, .int .i64 m, .int .i64 (T - cum Y m + 1), .int .i64 (t % 864000000 / 36000000), .int .i64 (t % 864000000 / 600000 % 60), .int .i64 (t % 864000000 / 10000 % 60), .int .i64 (t % 864000000 % 10000), .int .i64 4, .bool false, .int .i64 0], .int .i64 0]) (by simp [results, Tryd.results47, go_sem]) rfl ⟨⟨Y, m, T - cum Y m + 1, ?_, vld_of y1 y2 hm1 hm2 hr hv, num_of HD.out⟩, ?_⟩
            · rw [ofV7]
              exact congrArg (fun x => Ending.returned (.tuple #[x, .int .i64 0])) (ret_stamp rfl rfl rfl rfl rfl (by unfold minuteOf; omega) (by unfold secondOf; omega) (by unfold partOf; omega) rfl rfl rfl)
            · exact ((Below.refl _ _).alloc (Nat.le_refl _) _).alloc (by simp) _
      · have hlp : lpB Y = true := by
          unfold lp at hx; split at hx
          · assumption
          · omega
        have hT : T < 366 := by omega
        have hy' : 365 ≤ T := by omega
        clear hx hy
        go_wp2_with (go_at_call 76; refine (Leap_any _ _ (by omega) (by omega)).mono ?_; rintro e w' ⟨rfl, rfl⟩)
        go_loopw [6] (fun td wx => ∃ m : Int, td = .int .i64 (T - cum Y m) ∧ wx = (w.alloc (.cells #[.int .i64 0, .int .i64 0, .int .i64 0, .int .i64 0, .int .i64 0, .int .i64 0, .int .i64 0, .int .i64 0, .int .i64 0, .bool false, .int .i64 0] 31)).alloc (.cells #[.int .i64 7, .int .i64 Y, .int .i64 m, .int .i64 0, .int .i64 0, .int .i64 0, .int .i64 0, .int .i64 0, .int .i64 0, .bool false, .int .i64 0] 31) ∧ 1 ≤ m ∧ m ≤ 12 ∧ 0 ≤ T - cum Y m ∧ T - cum Y m ≤ 366) (fun td _ => (intOf td).toNat)
        case atStart => exact ⟨1, by rw [cum_one, Int.sub_zero], rfl, by omega, by omega, by rw [cum_one]; omega, by rw [cum_one]; omega⟩
        case round =>
          obtain ⟨m, rfl, rfl, hm1, hm2, hr, hr2⟩ := hrel
          have cb := cum_bd Y m hm1 hm2
          have db := dim_bd Y m
          have CS : Hid (cum Y (m + 1) = cum Y m + dim Y m) := cum_succ Y m hm1 hm2
          by_cases hc : dim Y m ≤ T - cum Y m
          · have hm : m < 12 := by
              rcases Int.lt_or_le m 12 with g | g
              · exact g
              · have e : m = 12 := by omega
                subst e
                have := CS.out; rw [show (12 : Int) + 1 = 13 from rfl, cum_13] at this; have := HL.out; omega
            go_wp2_with (go_at_call 75; refine (Days_any _ _ _ (by omega) (by omega)).mono ?_; rintro e w' ⟨rfl, rfl⟩)
            go_roundw
            case rel => exact ⟨m + 1, by rw [CS.out]; go_num, rfl, by omega, by omega, by rw [CS.out]; omega, by rw [CS.out]; omega⟩
            case measure => simp [intOf]; omega
          · have hv : T - cum Y m < dim Y m := by omega
            clear hc
            go_wp2_with (go_at_call 75; refine (Days_any _ _ _ (by omega) (by omega)).mono ?_; rintro e w' ⟨rfl, rfl⟩)
            refine bodyPost_ret (v := .tuple #[.agg #[.int .i64 7, .int .i64 Y, .int .i64 m, .int .i64 (T - cum Y m + 1), .int .i64 (t % 864000000 / 36000000), .int .i64 (t % 864000000 / 600000 % 60), .int .i64 (t % 864000000 / 10000 % 60), .int .i64 (t % 864000000 % 10000), .int .i64 4, .bool false, .int .i64 0], .int .i64 0]) (by simp [results, Tryd.results47, go_sem]) rfl ⟨⟨Y, m, T - cum Y m + 1, ?_, vld_of y1 y2 hm1 hm2 hr hv, num_of HD.out⟩, ?_⟩
            · rw [ofV7]
              exact congrArg (fun x => Ending.returned (.tuple #[x, .int .i64 0])) (ret_stamp rfl rfl rfl rfl rfl (by unfold minuteOf; omega) (by unfold secondOf; omega) (by unfold partOf; omega) rfl rfl rfl)
            · exact ((Below.refl _ _).alloc (Nat.le_refl _) _).alloc (by simp) _
    · have hs : Hid (dby (Y + 1) = dby Y + 365 + lp Y) := dby_succ Y
      have hl1 := lp_01 Y
      have hY : Y < 9999 := by
        rcases Int.lt_or_le Y 9999 with g | g
        · exact g
        · have := dby_mono (a := 10000) (b := Y + 1) (by omega); have := hs.out; have := HD.out; rw [dby_max] at *; omega
      cases hlp : lpB Y with
      | true =>
        have e1 : Hid (lp Y = 1) := by unfold lp Hid; rw [if_pos hlp]
        have hT : ¬ T < 366 := by have := e1.out; omega
        clear hx
        go_wp2_with (go_at_call 76; refine (Leap_any _ _ (by omega) (by omega)).mono ?_; rintro e w' ⟨rfl, rfl⟩)
        go_roundw
        case rel => exact ⟨Y + 1, T - 366, rfl, rfl, by have := hs.out; have := HD.out; have := e1.out; unfold Hid; omega, by omega, by omega, by omega, by omega⟩
        case measure => simp [intOf]; omega
      | false =>
        have e1 : Hid (lp Y = 0) := by unfold lp Hid; rw [if_neg (by rw [hlp]; decide)]
        have hT : ¬ T < 365 := by have := e1.out; omega
        clear hx
        go_wp2_with (go_at_call 76; refine (Leap_any _ _ (by omega) (by omega)).mono ?_; rintro e w' ⟨rfl, rfl⟩)
        go_roundw
        case rel => exact ⟨Y + 1, T - 365, rfl, rfl, by have := hs.out; have := HD.out; have := e1.out; unfold Hid; omega, by omega, by omega, by omega, by omega⟩
        case measure => simp [intOf]; omega
end Go.Proofs.YtohaiibecniacabDoor
