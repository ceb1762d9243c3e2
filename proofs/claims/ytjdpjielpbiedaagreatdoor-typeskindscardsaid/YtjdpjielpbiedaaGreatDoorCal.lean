/-
  The plain calendar: days ahead of a year, of a month; the number of a day; that each number is that of one day. Of no program.
-/
import Derived.Below
namespace Go.Proofs.YtjdpjielpbiedaaGreatDoor

def lpB (y : Int) : Bool := (y % 4 == 0 && !(y % 100 == 0)) || y % 400 == 0
def lp (y : Int) : Int := if lpB y then 1 else 0
def dim (y m : Int) : Int := if m = 2 then 28 + lp y else if m = 4 ∨ m = 6 ∨ m = 9 ∨ m = 11 then 30 else 31
def cum (y m : Int) : Int := (367 * m - 362) / 12 - (if m ≤ 2 then 0 else 2 - lp y)
def dby (y : Int) : Int := 365 * (y - 1) + (y - 1) / 4 - (y - 1) / 100 + (y - 1) / 400
def num (y m d : Int) : Int := dby y + cum y m + d - 1
def vldB (y m d : Int) : Bool := decide (1 ≤ y ∧ y ≤ 9999 ∧ 1 ≤ m ∧ m ≤ 12 ∧ 1 ≤ d ∧ d ≤ dim y m)

theorem vld_iff {y m d : Int} : vldB y m d = true ↔ (1 ≤ y ∧ y ≤ 9999 ∧ 1 ≤ m ∧ m ≤ 12 ∧ 1 ≤ d ∧ d ≤ dim y m) := by
  unfold vldB; exact decide_eq_true_iff
theorem lp_of (y : Int) : (lp y = 1 ∧ ((y % 4 = 0 ∧ y % 100 ≠ 0) ∨ y % 400 = 0)) ∨ (lp y = 0 ∧ ¬ ((y % 4 = 0 ∧ y % 100 ≠ 0) ∨ y % 400 = 0)) := by
  unfold lp
  cases h : lpB y with
  | true => left; refine ⟨by simp, ?_⟩; simpa [lpB] using h
  | false => right; refine ⟨by simp, ?_⟩; intro hc; simp [lpB] at h; omega
theorem lp_01 (y : Int) : 0 ≤ lp y ∧ lp y ≤ 1 := by rcases lp_of y with ⟨h, _⟩ | ⟨h, _⟩ <;> omega
theorem dby_succ (y : Int) : dby (y + 1) = dby y + 365 + lp y := by
  rcases lp_of y with ⟨h, hc⟩ | ⟨h, hc⟩ <;> rw [h] <;> unfold dby <;> omega
theorem dby_one : dby 1 = 0 := rfl
theorem dby_max : dby 10000 = 3652059 := rfl
theorem dby_400 (q : Int) : dby (1 + 400 * q) = 146097 * q := by unfold dby; omega
theorem dby_mono {a b : Int} (h : a ≤ b) : dby a ≤ dby b := by unfold dby; omega
theorem dby_lt {a b : Int} (h : a < b) : dby a + 365 + lp a ≤ dby b := by
  rw [← dby_succ]; exact dby_mono (by omega)
theorem dim_bd (y m : Int) : 28 ≤ dim y m ∧ dim y m ≤ 31 := by
  have := lp_01 y
  unfold dim; split
  · omega
  · split <;> omega
theorem month_cases {m : Int} (h1 : 1 ≤ m) (h2 : m ≤ 12) : m = 1 ∨ m = 2 ∨ m = 3 ∨ m = 4 ∨ m = 5 ∨ m = 6 ∨ m = 7 ∨ m = 8 ∨ m = 9 ∨ m = 10 ∨ m = 11 ∨ m = 12 := by omega
theorem cum_succ (y m : Int) (h1 : 1 ≤ m) (h2 : m ≤ 12) : cum y (m + 1) = cum y m + dim y m := by
  have hl := lp_01 y
  rcases month_cases h1 h2 with rfl | rfl | rfl | rfl | rfl | rfl | rfl | rfl | rfl | rfl | rfl | rfl <;> simp [cum, dim] <;> omega
theorem cum_one (y : Int) : cum y 1 = 0 := rfl
theorem cum_13 (y : Int) : cum y 13 = 365 + lp y := by unfold cum; rw [if_neg (by omega)]; omega
theorem cum_mono (y : Int) {a b : Int} (h1 : 1 ≤ a) (h : a ≤ b) : cum y a ≤ cum y b := by
  have hl := lp_01 y
  unfold cum; split <;> split <;> omega
theorem cum_lt (y : Int) {a b : Int} (h1 : 1 ≤ a) (h2 : a ≤ 12) (h : a < b) : cum y a + dim y a ≤ cum y b := by
  rw [← cum_succ y a h1 h2]; exact cum_mono y (by omega) (by omega)
theorem cum_bd (y m : Int) (h1 : 1 ≤ m) (h2 : m ≤ 12) : 0 ≤ cum y m ∧ cum y m + dim y m ≤ 365 + lp y := by
  have a := cum_mono y (a := 1) (b := m) (by omega) h1
  have b := cum_lt y (a := m) (b := 13) h1 h2 (by omega)
  rw [cum_one] at a; rw [cum_13] at b; exact ⟨a, b⟩
theorem num_bd {y m d : Int} (h : vldB y m d = true) : dby y ≤ num y m d ∧ num y m d < dby (y + 1) := by
  obtain ⟨_, _, h3, h4, h5, h6⟩ := vld_iff.1 h
  have := cum_bd y m h3 h4
  rw [dby_succ]; unfold num; omega
theorem num_inj {y m d y' m' d' : Int} (h : vldB y m d = true) (h' : vldB y' m' d' = true) (e : num y m d = num y' m' d') : y = y' ∧ m = m' ∧ d = d' := by
  have b := num_bd h
  have b' := num_bd h'
  have hy : y = y' := by
    rcases Int.lt_trichotomy y y' with g | g | g
    · have := dby_mono (a := y + 1) (b := y') (by omega); omega
    · exact g
    · have := dby_mono (a := y' + 1) (b := y) (by omega); omega
  subst hy
  obtain ⟨_, _, h3, h4, h5, h6⟩ := vld_iff.1 h
  obtain ⟨_, _, h3', h4', h5', h6'⟩ := vld_iff.1 h'
  unfold num at e
  have hm : m = m' := by
    rcases Int.lt_trichotomy m m' with g | g | g
    · have := cum_lt y h3 h4 g; omega
    · exact g
    · have := cum_lt y h3' h4' g; omega
  subst hm
  exact ⟨rfl, rfl, by omega⟩
/-- What dayAt reckons: the round of 400 years, the century, the round of four, the year. -/
theorem dayAt_year (D q r c r1 f r2 o r3 Y : Int) (_h0 : 0 ≤ D) (hq : q = D / 146097) (hr : r = D % 146097) (hc : c = min (r / 36524) 3) (h1 : r1 = r - c * 36524) (hf : f = r1 / 1461) (h2 : r2 = r1 % 1461)
    (ho : o = min (r2 / 365) 3) (h3 : r3 = r2 - o * 365) (hY : Y = 400 * q + 100 * c + 4 * f + o + 1) : dby Y + r3 = D ∧ 0 ≤ r3 ∧ r3 < 365 + lp Y := by
  have hr0 : 0 ≤ r ∧ r < 146097 := by omega
  have hcc : 0 ≤ c ∧ c ≤ 3 ∧ 0 ≤ r1 ∧ r1 ≤ 36524 ∧ (c < 3 → r1 < 36524) := by omega
  have hff : 0 ≤ f ∧ f ≤ 24 ∧ 0 ≤ r2 ∧ r2 ≤ 1460 ∧ (f = 24 → c < 3 → r2 < 1460) ∧ r1 = 1461 * f + r2 := by omega
  have hoo : 0 ≤ o ∧ o ≤ 3 ∧ 0 ≤ r3 ∧ r3 ≤ 365 ∧ (r3 = 365 → o = 3 ∧ r2 = 1460) := by omega
  have e4 : (Y - 1) / 4 = 100 * q + 25 * c + f := by omega
  have e100 : (Y - 1) / 100 = 4 * q + c := by omega
  have e400 : (Y - 1) / 400 = q := by omega
  refine ⟨by unfold dby; rw [e4, e100, e400]; omega, by omega, ?_⟩
  rcases lp_of Y with ⟨hl, _⟩ | ⟨hl, hn⟩
  · omega
  · by_cases g : r3 < 365
    · omega
    · exfalso; apply hn
      have g' : o = 3 ∧ r2 = 1460 := hoo.2.2.2.2 (by omega)
      by_cases hc3 : c = 3
      · by_cases hf24 : f = 24
        · right; omega
        · left; omega
      · left
        have : f ≠ 24 := fun hh => by have := hff.2.2.2.2.1 hh (by omega); omega
        omega
end Go.Proofs.YtjdpjielpbiedaaGreatDoor
