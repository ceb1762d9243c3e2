/-
  What makes a Stamp right, as the program reckons it and as the reference does: one Bool function of its eleven numbers.
-/
import Derived.Test.YtpcdkafjogpdkaaDoorLawIs
import Derived.Deep.QuietTactic
import Derived.BigQuiet
namespace Go.Proofs.YtpcdkafjogpdkaaDoor
open Go.RowKit

def inB (v lo hi : Int) : Bool := decide (lo ≤ v) && decide (v ≤ hi)
def fitB (told : Bool) (v lo hi : Int) : Bool := if told then inB v lo hi else v == 0
theorem inB_iff {v lo hi : Int} : inB v lo hi = true ↔ lo ≤ v ∧ v ≤ hi := by simp [inB]

set_option maxHeartbeats 400000 in
theorem within_any (n lo hi : Int) (w : World) :
    Calls Tryd.prog 65 #[.int .i64 n, .int .i64 lo, .int .i64 hi] w fun e w' => e = .returned (.bool (inB n lo hi)) ∧ w' = w := by
  go_enter Tryd.func65, Tryd.ntmps65
  go_wp2
  all_goals (go_ret; exact ⟨ret_bool (by unfold inB; rw [Bool.eq_iff_iff]; simp; omega), rfl⟩)

set_option maxHeartbeats 400000 in
theorem fits_any (told : Bool) (n lo hi : Int) (w : World) :
    Calls Tryd.prog 66 #[.bool told, .int .i64 n, .int .i64 lo, .int .i64 hi] w fun e w' => e = .returned (.bool (fitB told n lo hi)) ∧ w' = w := by
  cases told
  · go_enter Tryd.func66, Tryd.ntmps66
    go_wp2
    go_ret
    exact ⟨rfl, rfl⟩
  · go_enter Tryd.func66, Tryd.ntmps66
    go_wp2_with (go_at_call 65; refine (within_any _ _ _ _).mono ?_; rintro e w' ⟨rfl, rfl⟩)
    go_ret
    exact ⟨rfl, rfl⟩

set_option maxHeartbeats 400000 in
theorem between_any (told : Bool) (n lo hi : Int) (w : World) :
    Calls Tryd.prog 45 #[.int .i64 n, .int .i64 lo, .int .i64 hi, .bool told] w fun e w' => e = .returned (.bool (fitB told n lo hi)) ∧ w' = w := by
  cases told
  · go_enter Tryd.func45, Tryd.ntmps45
    go_wp2
    go_ret
    exact ⟨rfl, rfl⟩
  · go_enter Tryd.func45, Tryd.ntmps45
    go_wp2
    all_goals (go_ret; exact ⟨ret_bool (by unfold fitB inB; rw [Bool.eq_iff_iff]; simp; omega), rfl⟩)

theorem within_is {n lo hi : Int} {b : Bool} (h : inB n lo hi = b) (w : World) :
    Calls Tryd.prog 65 #[.int .i64 n, .int .i64 lo, .int .i64 hi] w fun e w' => e = .returned (.bool b) ∧ w' = w := by rw [← h]; exact within_any n lo hi w
theorem fits_is {told : Bool} {n lo hi : Int} {b : Bool} (h : fitB told n lo hi = b) (w : World) :
    Calls Tryd.prog 66 #[.bool told, .int .i64 n, .int .i64 lo, .int .i64 hi] w fun e w' => e = .returned (.bool b) ∧ w' = w := by rw [← h]; exact fits_any told n lo hi w
theorem between_is {told : Bool} {n lo hi : Int} {b : Bool} (h : fitB told n lo hi = b) (w : World) :
    Calls Tryd.prog 45 #[.int .i64 n, .int .i64 lo, .int .i64 hi, .bool told] w fun e w' => e = .returned (.bool b) ∧ w' = w := by rw [← h]; exact between_any told n lo hi w

def dinB (y m : Int) : Int := if inB m 1 12 then dim y m else 0
theorem din_bd (y m : Int) : 0 ≤ dinB y m ∧ dinB y m ≤ 31 := by
  have := dim_bd y m
  unfold dinB; split <;> omega
theorem din_t {y m : Int} (h : inB m 1 12 = true) : dim y m = dinB y m := by unfold dinB; rw [if_pos h]
theorem din_f {y m : Int} (h : inB m 1 12 = false) : 0 = dinB y m := by unfold dinB; rw [if_neg (by rw [h]; decide)]

set_option maxHeartbeats 400000 in
theorem daysIn_any (y m : Int) (w : World) (hM : Months w) (h1 : 1 ≤ y) (h2 : y ≤ 9999) :
    Calls Tryd.prog 55 #[.int .i64 y, .int .i64 m] w fun e w' => e = .returned (.int .i64 (dinB y m)) ∧ w' = w := by
  have db := dim_bd y m
  cases h : inB m 1 12 with
  | false =>
    go_enter Tryd.func55, Tryd.ntmps55
    go_wp2_with (go_at_call 65; refine (within_any _ _ _ _).mono ?_; rintro e w' ⟨rfl, rfl⟩)
    go_ret
    exact ⟨ret_int (din_f h), rfl⟩
  | true =>
    have hm := inB_iff.1 h
    obtain ⟨m1, m2⟩ := hm
    go_enter Tryd.func55, Tryd.ntmps55
    go_wp2_with (first | (go_at_call 65; refine (within_any _ _ _ _).mono ?_; rintro e w' ⟨rfl, rfl⟩) | (go_at_call 63; refine (daysOf_any _ _ _ hM (by omega) (by omega) (by omega) (by omega)).mono ?_; rintro e w' ⟨rfl, rfl⟩))
    go_ret
    exact ⟨ret_int (din_t h), rfl⟩

def dateB (lv y mo d : Int) : Bool := inB lv 1 7 && inB y 1 9999 && fitB (decide (2 ≤ lv)) mo 1 12 && fitB (decide (3 ≤ lv)) d 1 (dinB y mo)
def clockB (lv h mi s : Int) : Bool := fitB (decide (4 ≤ lv)) h 0 23 && fitB (decide (5 ≤ lv)) mi 0 59 && fitB (decide (6 ≤ lv)) s 0 59
def tensB (dg : Int) : Int := 10 ^ (min dg 4).toNat
def partB (lv p dg : Int) : Bool := fitB (lv == 7) dg 1 4 && fitB (lv == 7) p 0 (tensB dg - 1)
def zoneB (z : Bool) (zn : Int) : Bool := fitB z zn (-840) 840
def rightB (lv y mo d h mi s p dg zn : Int) (z : Bool) : Bool := dateB lv y mo d && clockB lv h mi s && partB lv p dg && zoneB z zn

theorem below_dr {B : Nat} {w w1 : World} (h : Below B w w1) (n : Nat) : Below B w (w1.drewN n) := below_drewN h n
theorem below_box (w : World) (o : Obj) : Below w.heap.size w (w.alloc o) := (Below.refl _ _).alloc (Nat.le_refl _) _

set_option maxHeartbeats 400000 in
theorem rightDate_any (lv y mo d h mi s p dg zn : Int) (z : Bool) (w : World) (hM : Months w) :
    Calls Tryd.prog 39 #[.agg #[.int .i64 lv, .int .i64 y, .int .i64 mo, .int .i64 d, .int .i64 h, .int .i64 mi, .int .i64 s, .int .i64 p, .int .i64 dg, .bool z, .int .i64 zn]] w fun e w' => e = .returned (.bool (dateB lv y mo d)) ∧ Below w.heap.size w w' := by
  have hM1 : ∀ o, Months (w.alloc o) := fun o => months_alloc hM o
  have HM : Hid (∀ o, Months (w.alloc o)) := hM1
  clear hM hM1
  by_cases a : lv < 1
  · go_enter Tryd.func39, Tryd.ntmps39
    go_wp2
    go_ret
    exact ⟨ret_bool (by unfold dateB inB; simp; omega), below_box _ _⟩
  · by_cases b : 7 < lv
    · go_enter Tryd.func39, Tryd.ntmps39
      go_wp2
      go_ret
      exact ⟨ret_bool (by unfold dateB inB; simp; omega), below_box _ _⟩
    · have hl : inB lv 1 7 = true := inB_iff.2 (by omega)
      have HL : Hid (inB lv 1 7 = true) := hl
      clear hl
      cases hy : inB y 1 9999 with
      | false =>
        go_enter Tryd.func39, Tryd.ntmps39
        go_wp2
        go_quiet ((go_at_call 65; exact Calls.quiet_of_same (within_is hy _)))
        go_wp2
        go_ret
        exact ⟨ret_bool (by unfold dateB; rw [hy]; simp), below_dr (below_box _ _) _⟩
      | true =>
        have y1 : 1 ≤ y := (inB_iff.1 hy).1
        have y2 : y ≤ 9999 := (inB_iff.1 hy).2
        cases hmo : fitB (decide (2 ≤ lv)) mo 1 12 with
        | false =>
          go_enter Tryd.func39, Tryd.ntmps39
          go_wp2
          go_quiet ((first | (go_at_call 65; exact Calls.quiet_of_same (within_is hy _)) | (go_at_call 66; exact Calls.quiet_of_same (fits_is hmo _))))
          go_wp2
          go_ret
          exact ⟨ret_bool (by unfold dateB; rw [hmo]; simp), below_dr (below_box _ _) _⟩
        | true =>
          have db := din_bd y mo
          obtain ⟨bd, hbd⟩ : ∃ b, fitB (decide (3 ≤ lv)) d 1 (dinB y mo) = b := ⟨_, rfl⟩
          go_enter Tryd.func39, Tryd.ntmps39
          go_wp2
          go_quiet ((first | (go_at_call 65; exact Calls.quiet_of_same (within_is hy _)) | (go_at_call 55; exact Calls.quiet_of_same (daysIn_any _ _ _ (HM.out _) y1 y2)) | (go_at_call 66; exact Calls.quiet_of_same (fits_is (by assumption) _))))
          go_wp2
          go_ret
          exact ⟨ret_bool (by unfold dateB; rw [HL.out, hy, hmo, hbd]; simp), below_dr (below_box _ _) _⟩
end Go.Proofs.YtpcdkafjogpdkaaDoor
