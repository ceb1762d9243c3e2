/-
  The leaves of the calendar: both Leap, both month lengths, and the fault.
-/
import Derived.Test.YtjdpjielpbiedaaGreatDoorProg
import Derived.Test.YtjdpjielpbiedaaGreatDoorCal
import Derived.WalkKit
import Derived.WalkSpells
import Derived.WalkLawsBesides
namespace Go.Proofs.YtjdpjielpbiedaaGreatDoor
open Go.RowKit

theorem ret_bool {a b : Bool} (h : a = b) : Ending.returned (.bool a) = .returned (.bool b) := by rw [h]
theorem ret_int {k : IntKind} {a b : Int} (h : a = b) : Ending.returned (.int k a) = .returned (.int k b) := by rw [h]

set_option maxHeartbeats 400000 in
theorem leap_any (y : Int) (w : World) (h1 : 1 ≤ y) (h2 : y ≤ 100000) :
    Calls Tryz.prog 93 #[.int .i64 y] w fun e w' => e = .returned (.bool (lpB y)) ∧ w' = w := by
  go_enter Tryz.func93, Tryz.ntmps93
  go_wp2
  all_goals (go_ret; exact ⟨ret_bool (by unfold lpB; rw [Bool.eq_iff_iff]; simp; omega), rfl⟩)

theorem dim_2t {y m : Int} (h : m = 2) (h2 : lpB y = true) : 29 = dim y m := by simp [dim, lp, h, h2]
theorem dim_2f {y m : Int} (h : m = 2) (h2 : lpB y = false) : 28 = dim y m := by simp [dim, lp, h, h2]
theorem dim_30 {y m : Int} (h : m = 4 ∨ m = 6 ∨ m = 9 ∨ m = 11) : 30 = dim y m := by unfold dim; rw [if_neg (by omega), if_pos h]
theorem dim_31 {y m : Int} (h : ¬ m = 2) (h2 : ¬ (m = 4 ∨ m = 6 ∨ m = 9 ∨ m = 11)) : 31 = dim y m := by unfold dim; rw [if_neg h, if_neg h2]

/-- What the program's own table holds. -/
def Months (w : World) : Prop := w.cell? ⟨6, 0, none⟩ = some (.int .i64 31) ∧ w.cell? ⟨6, 1, none⟩ = some (.int .i64 28) ∧ w.cell? ⟨6, 2, none⟩ = some (.int .i64 31) ∧ w.cell? ⟨6, 3, none⟩ = some (.int .i64 30)
  ∧ w.cell? ⟨6, 4, none⟩ = some (.int .i64 31) ∧ w.cell? ⟨6, 5, none⟩ = some (.int .i64 30) ∧ w.cell? ⟨6, 6, none⟩ = some (.int .i64 31) ∧ w.cell? ⟨6, 7, none⟩ = some (.int .i64 31)
  ∧ w.cell? ⟨6, 8, none⟩ = some (.int .i64 30) ∧ w.cell? ⟨6, 9, none⟩ = some (.int .i64 31) ∧ w.cell? ⟨6, 10, none⟩ = some (.int .i64 30) ∧ w.cell? ⟨6, 11, none⟩ = some (.int .i64 31)

theorem months_at {w : World} (h : Months w) (y : Int) {m : Int} (h1 : 1 ≤ m) (h2 : m ≤ 12) (hne : ¬ m = 2) : w.cell? ⟨6, m.toNat - 1, none⟩ = some (.int .i64 (dim y m)) := by
  obtain ⟨a, b, c, d, e, f, g, i, j, k, l, n⟩ := h
  rcases month_cases h1 h2 with rfl | rfl | rfl | rfl | rfl | rfl | rfl | rfl | rfl | rfl | rfl | rfl <;> first | exact absurd rfl hne | (simp [dim]; assumption)

set_option maxHeartbeats 400000 in
theorem daysOf_any (y m : Int) (w : World) (hM : Months w) (h1 : 1 ≤ y) (h2 : y ≤ 100000) (h3 : 1 ≤ m) (h4 : m ≤ 12) :
    Calls Tryz.prog 89 #[.int .i64 y, .int .i64 m] w fun e w' => e = .returned (.int .i64 (dim y m)) ∧ w' = w := by
  by_cases e2 : m = 2
  · subst e2
    have hc : w.cell? ⟨6, 1, none⟩ = some (.int .i64 28) := hM.2.1
    clear hM
    go_enter Tryz.func89, Tryz.ntmps89
    go_wp2_with (go_at_call 93; refine (leap_any _ _ h1 h2).mono ?_; rintro e w' ⟨rfl, rfl⟩)
    all_goals (go_ret; exact ⟨ret_int (by first | exact dim_2t rfl (by assumption) | exact dim_2f rfl (by assumption)), rfl⟩)
  · have hc := months_at hM y h3 h4 e2
    have hn : (m == 2) = false := by simpa using e2
    clear hM
    go_enter Tryz.func89, Tryz.ntmps89
    go_wp2_with (go_at_call 93; refine (leap_any _ _ h1 h2).mono ?_; rintro e w' ⟨rfl, rfl⟩)
    go_ret
    exact ⟨rfl, rfl⟩

set_option maxHeartbeats 400000 in
theorem fault_any (at_ code : Int) (w : World) :
    Calls Tryz.prog 90 #[.int .i64 at_, .int .i64 code] w fun e w' => e = .returned (.iface 77 (.pointer (some ⟨w.heap.size, 0, none⟩))) ∧ w' = w.alloc (.cells #[.string ⟨#[115, 116, 97, 109, 112]⟩, .int .i64 at_, .int .i64 code, .nilIface] 79) := by
  go_enter Tryz.func90, Tryz.ntmps90
  go_wp2
  go_ret
  exact ⟨rfl, rfl⟩
end Go.Proofs.YtjdpjielpbiedaaGreatDoor
