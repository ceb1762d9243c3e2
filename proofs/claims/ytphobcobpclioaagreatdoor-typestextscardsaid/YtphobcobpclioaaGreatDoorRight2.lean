import Derived.Test.YtphobcobpclioaaGreatDoorLawIs
import Derived.Deep.QuietTactic
import Derived.BigQuiet
/-
  What makes a Stamp right, as the program reckons it and as the reference does: one Bool function of its eleven numbers.
-/
namespace Go.Proofs.YtphobcobpclioaaGreatDoor
open Go.RowKit

def inB (v lo hi : Int) : Bool := decide (lo ≤ v) && decide (v ≤ hi)
def fitB (told : Bool) (v lo hi : Int) : Bool := if told then inB v lo hi else v == 0
theorem inB_iff {v lo hi : Int} : inB v lo hi = true ↔ lo ≤ v ∧ v ≤ hi := by simp [inB]

set_option maxHeartbeats 400000 in
theorem within_any (n lo hi : Int) (w : World) :
    Calls Tryz.prog 88 #[.int .i64 n, .int .i64 lo, .int .i64 hi] w fun e w' => e = .returned (.bool (inB n lo hi)) ∧ w' = w := by
  go_enter Tryz.func88, Tryz.ntmps88
  go_wp2
  all_goals (go_ret; exact ⟨ret_bool (by unfold inB; rw [Bool.eq_iff_iff]; simp; omega), rfl⟩)

theorem within_is {n lo hi : Int} {b : Bool} (h : inB n lo hi = b) (w : World) :
    Calls Tryz.prog 88 #[.int .i64 n, .int .i64 lo, .int .i64 hi] w fun e w' => e = .returned (.bool b) ∧ w' = w := by rw [← h]; exact within_any n lo hi w
def dinB (y m : Int) : Int := if inB m 1 12 then dim y m else 0
theorem din_bd (y m : Int) : 0 ≤ dinB y m ∧ dinB y m ≤ 31 := by
  have := dim_bd y m
  unfold dinB; split <;> omega
theorem din_t {y m : Int} (h : inB m 1 12 = true) : dim y m = dinB y m := by unfold dinB; rw [if_pos h]
theorem din_f {y m : Int} (h : inB m 1 12 = false) : 0 = dinB y m := by unfold dinB; rw [if_neg (by rw [h]; decide)]

set_option maxHeartbeats 400000 in
theorem daysIn_any (y m : Int) (w : World) (hM : Months w) (h1 : 1 ≤ y) (h2 : y ≤ 9999) :
    Calls Tryz.prog 76 #[.int .i64 y, .int .i64 m] w fun e w' => e = .returned (.int .i64 (dinB y m)) ∧ w' = w := by
  have db := dim_bd y m
  cases h : inB m 1 12 with
  | false =>
    go_enter Tryz.func76, Tryz.ntmps76
    go_wp2_with (go_at_call 88; refine (within_any _ _ _ _).mono ?_; rintro e w' ⟨rfl, rfl⟩)
    go_ret
    exact ⟨ret_int (din_f h), rfl⟩
  | true =>
    have hm := inB_iff.1 h
    obtain ⟨m1, m2⟩ := hm
    go_enter Tryz.func76, Tryz.ntmps76
    go_wp2_with (first | (go_at_call 88; refine (within_any _ _ _ _).mono ?_; rintro e w' ⟨rfl, rfl⟩) | (go_at_call 89; refine (daysOf_any _ _ _ hM (by omega) (by omega) (by omega) (by omega)).mono ?_; rintro e w' ⟨rfl, rfl⟩))
    go_ret
    exact ⟨ret_int (din_t h), rfl⟩

def dateB (lv y mo d : Int) : Bool := inB lv 1 7 && inB y 1 9999 && fitB (decide (2 ≤ lv)) mo 1 12 && fitB (decide (3 ≤ lv)) d 1 (dinB y mo)
def clockB (lv h mi s : Int) : Bool := fitB (decide (4 ≤ lv)) h 0 23 && fitB (decide (5 ≤ lv)) mi 0 59 && fitB (decide (6 ≤ lv)) s 0 59
def tensB (dg : Int) : Int := 10 ^ (min dg 4).toNat
def partB (lv p dg : Int) : Bool := fitB (lv == 7) dg 1 4 && fitB (lv == 7) p 0 (tensB dg - 1)
def zoneB (z : Bool) (zn : Int) : Bool := fitB z zn (-840) 840
def rightB (lv y mo d h mi s p dg zn : Int) (z : Bool) : Bool := dateB lv y mo d && clockB lv h mi s && partB lv p dg && zoneB z zn

theorem below_dr {B : Nat} {w w1 : World} (h : Below B w w1) (n : Nat) : Below B w (w1.drewN n) := below_drewN h n
theorem below_box (w : World) (o : Obj) : Below w.heap.size w (w.alloc o) := (Below.refl _ _).alloc (Nat.le_refl _) _

end Go.Proofs.YtphobcobpclioaaGreatDoor

/-
  The rest of what makes a Stamp right: clock, part, zone; the whole, as the program has it and as the reference has it.
-/
namespace Go.Proofs.YtphobcobpclioaaGreatDoor
open Go.RowKit

theorem tens_succ (k : Nat) : (10 : Int) ^ (k + 1) = 10 ^ k * 10 := rfl
theorem tens_pos (k : Nat) (h : k ≤ 4) : (1 : Int) ≤ 10 ^ k ∧ (10 : Int) ^ k ≤ 10000 := by
  rcases (by omega : k = 0 ∨ k = 1 ∨ k = 2 ∨ k = 3 ∨ k = 4) with rfl | rfl | rfl | rfl | rfl <;> decide
theorem tensB_bd (dg : Int) : 1 ≤ tensB dg ∧ tensB dg ≤ 10000 := tens_pos _ (by omega)

end Go.Proofs.YtphobcobpclioaaGreatDoor
