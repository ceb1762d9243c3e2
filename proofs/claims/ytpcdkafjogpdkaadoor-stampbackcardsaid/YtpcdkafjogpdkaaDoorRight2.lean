/-
  The rest of what makes a Stamp right: clock, part, zone; the whole, as the program has it and as the reference has it.
-/
import Derived.Test.YtpcdkafjogpdkaaDoorRight
namespace Go.Proofs.YtpcdkafjogpdkaaDoor
open Go.RowKit

theorem tens_succ (k : Nat) : (10 : Int) ^ (k + 1) = 10 ^ k * 10 := rfl
theorem tens_pos (k : Nat) (h : k ≤ 4) : (1 : Int) ≤ 10 ^ k ∧ (10 : Int) ^ k ≤ 10000 := by
  rcases (by omega : k = 0 ∨ k = 1 ∨ k = 2 ∨ k = 3 ∨ k = 4) with rfl | rfl | rfl | rfl | rfl <;> decide
theorem tensB_bd (dg : Int) : 1 ≤ tensB dg ∧ tensB dg ≤ 10000 := tens_pos _ (by omega)

set_option maxHeartbeats 1000000 in
theorem tens_any (dg : Int) (w : World) :
    Calls Tryd.prog 64 #[.int .i64 dg] w fun e w' => e = .returned (.int .i64 (tensB dg)) ∧ w' = w := by
  go_enter Tryd.func64, Tryd.ntmps64
  go_wp2
  all_goals
    go_loop [3, 6] (fun tp ti => ∃ k : Nat, k ≤ (min dg 4).toNat ∧ ti = .int .i64 k ∧ tp = .int .i64 (10 ^ k)) (fun _ ti => (min dg 4).toNat - (intOf ti).toNat)
    case atStart => exact ⟨0, by omega, rfl, rfl⟩
    case round =>
      obtain ⟨k, hk, rfl, rfl⟩ := hrel
      have tp := tens_pos k (by omega)
      have HS : Hid ((10 : Int) ^ (k + 1) = 10 ^ k * 10) := tens_succ k
      obtain ⟨q, hq⟩ : ∃ q : Int, (10 : Int) ^ k = q := ⟨_, rfl⟩
      rw [hq] at HS tp
      rw [hq]
      have HQ : Hid ((10 : Int) ^ k = q) := hq
      clear hq
      by_cases hlt : k < (min dg 4).toNat
      · have hlt1 : (k : Int) < dg := by omega
        have hlt2 : (k : Int) < 4 := by omega
        go_wp2
        go_round
        case rel => exact ⟨k + 1, by omega, by go_num, by rw [HS.out]⟩
        case measure => simp [intOf]; omega
      · have hlt1 : dg ≤ 4 → ¬ (k : Int) < dg := by omega
        have hlt2 : 4 < dg → ¬ (k : Int) < 4 := by omega
        go_wp2
        go_ret
        exact ⟨ret_int (by rw [← HQ.out]; unfold tensB; rw [show (min dg 4).toNat = k by omega]), rfl⟩

set_option maxHeartbeats 1000000 in
theorem power_any (dg : Int) (w : World) (h0 : 0 ≤ dg) (h1 : dg ≤ 4) :
    Calls Tryd.prog 47 #[.int .i64 dg] w fun e w' => e = .returned (.int .i64 (tensB dg)) ∧ w' = w := by
  go_enter Tryd.func47, Tryd.ntmps47
  go_wp2
  go_loop [3, 4] (fun tp ti => ∃ k : Nat, (k : Int) ≤ dg ∧ ti = .int .i64 k ∧ tp = .int .i64 (10 ^ k)) (fun _ ti => (dg - intOf ti).toNat)
  case atStart => exact ⟨0, by omega, rfl, rfl⟩
  case round =>
    obtain ⟨k, hk, rfl, rfl⟩ := hrel
    have tp := tens_pos k (by omega)
    have HS : Hid ((10 : Int) ^ (k + 1) = 10 ^ k * 10) := tens_succ k
    obtain ⟨q, hq⟩ : ∃ q : Int, (10 : Int) ^ k = q := ⟨_, rfl⟩
    rw [hq] at HS tp
    rw [hq]
    have HQ : Hid ((10 : Int) ^ k = q) := hq
    clear hq
    by_cases hlt : (k : Int) < dg
    · go_wp2
      go_round
      case rel => exact ⟨k + 1, by omega, by go_num, by rw [HS.out]; go_num⟩
      case measure => simp [intOf]; omega
    · go_wp2
      go_ret
      exact ⟨ret_int (by rw [← HQ.out]; unfold tensB; rw [show (min dg 4).toNat = k by omega]), rfl⟩

set_option maxHeartbeats 400000 in
theorem rightClock_any (lv y mo d h mi s p dg zn : Int) (z : Bool) (w : World) :
    Calls Tryd.prog 40 #[.agg #[.int .i64 lv, .int .i64 y, .int .i64 mo, .int .i64 d, .int .i64 h, .int .i64 mi, .int .i64 s, .int .i64 p, .int .i64 dg, .bool z, .int .i64 zn]] w fun e w' => e = .returned (.bool (clockB lv h mi s)) ∧ Below w.heap.size w w' := by
  obtain ⟨b3, h3⟩ : ∃ b, fitB (decide (6 ≤ lv)) s 0 59 = b := ⟨_, rfl⟩
  cases h1 : fitB (decide (4 ≤ lv)) h 0 23 with
  | false =>
    go_enter Tryd.func40, Tryd.ntmps40
    go_wp2_with (go_at_call 66; refine (fits_is (by assumption) _).mono ?_; rintro e w' ⟨rfl, rfl⟩)
    go_ret
    exact ⟨ret_bool (by unfold clockB; rw [h1]; simp), below_box _ _⟩
  | true =>
    cases h2 : fitB (decide (5 ≤ lv)) mi 0 59 with
    | false =>
      go_enter Tryd.func40, Tryd.ntmps40
      go_wp2_with (go_at_call 66; refine (fits_is (by assumption) _).mono ?_; rintro e w' ⟨rfl, rfl⟩)
      go_ret
      exact ⟨ret_bool (by unfold clockB; rw [h2]; simp), below_box _ _⟩
    | true =>
      go_enter Tryd.func40, Tryd.ntmps40
      go_wp2_with (go_at_call 66; refine (fits_is (by assumption) _).mono ?_; rintro e w' ⟨rfl, rfl⟩)
      go_ret
      exact ⟨ret_bool (by unfold clockB; rw [h1, h2, h3]; simp), below_box _ _⟩

set_option maxHeartbeats 400000 in
theorem rightPart_any (lv y mo d h mi s p dg zn : Int) (z : Bool) (w : World) :
    Calls Tryd.prog 41 #[.agg #[.int .i64 lv, .int .i64 y, .int .i64 mo, .int .i64 d, .int .i64 h, .int .i64 mi, .int .i64 s, .int .i64 p, .int .i64 dg, .bool z, .int .i64 zn]] w fun e w' => e = .returned (.bool (partB lv p dg)) ∧ Below w.heap.size w w' := by
  obtain ⟨b2, h2⟩ : ∃ b, fitB (lv == 7) p 0 (tensB dg - 1) = b := ⟨_, rfl⟩
  have tb := tensB_bd dg
  cases h1 : fitB (lv == 7) dg 1 4 with
  | false =>
    go_enter Tryd.func41, Tryd.ntmps41
    go_wp2_with fail
    go_quiet ((go_at_call 66; exact Calls.quiet_of_same (fits_is (by assumption) _)))
    go_wp2
    go_ret
    exact ⟨ret_bool (by unfold partB; rw [h1]; simp), below_dr (below_box _ _) _⟩
  | true =>
    go_enter Tryd.func41, Tryd.ntmps41
    go_wp2_with fail
    go_quiet ((first | (go_at_call 66; exact Calls.quiet_of_same (fits_is (by assumption) _)) | (go_at_call 64; exact Calls.quiet_of_same (tens_any _ _))))
    go_wp2
    go_ret
    exact ⟨ret_bool (by unfold partB; rw [h1, h2]; simp), below_dr (below_box _ _) _⟩

set_option maxHeartbeats 400000 in
theorem rightZone_any (lv y mo d h mi s p dg zn : Int) (z : Bool) (w : World) :
    Calls Tryd.prog 42 #[.agg #[.int .i64 lv, .int .i64 y, .int .i64 mo, .int .i64 d, .int .i64 h, .int .i64 mi, .int .i64 s, .int .i64 p, .int .i64 dg, .bool z, .int .i64 zn]] w fun e w' => e = .returned (.bool (zoneB z zn)) ∧ Below w.heap.size w w' := by
  go_enter Tryd.func42, Tryd.ntmps42
  go_wp2_with (go_at_call 66; refine (fits_any _ _ _ _ _).mono ?_; rintro e w' ⟨rfl, rfl⟩)
  go_ret
  exact ⟨rfl, below_box _ _⟩
end Go.Proofs.YtpcdkafjogpdkaaDoor
