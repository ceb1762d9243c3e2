/-
  The instant of a right Stamp and the length of the time that it may stand for, as numbers; daysAhead, before, least.
-/
import Derived.Test.YtpcdkafjogpdkaaDoorRefRight
namespace Go.Proofs.YtpcdkafjogpdkaaDoor
open Go.RowKit

/-- What a right Stamp's numbers are. -/
structure Facts (lv y mo d h mi s p dg zn : Int) (z : Bool) : Prop where
  l1 : 1 ≤ lv
  l2 : lv ≤ 7
  y1 : 1 ≤ y
  y2 : y ≤ 9999
  mo0 : 0 ≤ mo
  mo1 : 2 ≤ lv → 1 ≤ mo
  mo2 : mo ≤ 12
  d0 : 0 ≤ d
  d2 : d ≤ 31
  v : vldB y (max mo 1) (max d 1) = true
  h0 : 0 ≤ h
  h2 : h ≤ 23
  mi0 : 0 ≤ mi
  mi2 : mi ≤ 59
  s0 : 0 ≤ s
  s2 : s ≤ 59
  dg0 : 0 ≤ dg
  dg1 : lv = 7 → 1 ≤ dg
  dg2 : dg ≤ 4
  p0 : 0 ≤ p
  p2 : p ≤ tensB dg - 1
  zn1 : -840 ≤ zn
  zn2 : zn ≤ 840
  d1 : 3 ≤ lv → 1 ≤ d
theorem fit_bd {t : Bool} {v lo hi : Int} (h : fitB t v lo hi = true) : (t = true → lo ≤ v ∧ v ≤ hi) ∧ (t = false → v = 0) := by
  cases t
  · exact ⟨(fun g => by cases g), (fun _ => by simpa [fitB] using h)⟩
  · exact ⟨(fun _ => inB_iff.1 h), (fun g => by cases g)⟩
theorem facts_of {lv y mo d h mi s p dg zn : Int} {z : Bool} (hb : rightB lv y mo d h mi s p dg zn z = true) : Facts lv y mo d h mi s p dg zn z := by
  rw [right_ref] at hb
  simp only [refB, Bool.and_eq_true] at hb
  obtain ⟨⟨⟨⟨⟨⟨⟨⟨⟨a0, a1⟩, a2⟩, a3⟩, a4⟩, a5⟩, a6⟩, a7⟩, a8⟩, a9⟩ := hb
  have l := inB_iff.1 a0
  have fy := (fit_bd a1).1 rfl
  have fmo := fit_bd a2
  have fd := fit_bd a3
  have fh := fit_bd a4
  have fmi := fit_bd a5
  have fs := fit_bd a6
  have fdg := fit_bd a7
  have fp := fit_bd a8
  have fzn := fit_bd a9
  simp only [decide_eq_true_eq, decide_eq_false_iff_not] at fmo fd fh fmi fs fdg fp
  have tb := tensB_bd dg
  have db := dim_bd y mo
  have zz : -840 ≤ zn ∧ zn ≤ 840 := by
    cases z
    · have := fzn.2 rfl; omega
    · exact fzn.1 rfl
  refine ⟨l.1, l.2, fy.1, fy.2, by omega, by omega, by omega, by omega, by omega, vld_iff.2 ⟨fy.1, fy.2, by omega, by omega, by omega, ?_⟩, by omega, by omega, by omega, by omega, by omega, by omega, by omega, by omega, by omega, by omega, by omega, zz.1, zz.2, by omega⟩
  by_cases g : 2 < lv
  · have e : max mo 1 = mo := by omega
    rw [e]; omega
  · have := dim_bd y (max mo 1); omega

def instI (lv y mo d h mi s p dg zn : Int) : Int := num y (max mo 1) (max d 1) * 864000000 + h * 36000000 + mi * 600000 + s * 10000 + (if lv = 7 then p * tensB (4 - dg) else 0) - zn * 600000
def lenI (lv y mo dg : Int) : Int := if lv = 1 then (365 + lp y) * 864000000 else if lv = 2 then dim y mo * 864000000 else if lv = 3 then 864000000 else if lv = 4 then 36000000 else if lv = 5 then 600000 else if lv = 6 then 10000 else tensB (4 - dg)
theorem tens_at : tensB 0 = 1 ∧ tensB 1 = 10 ∧ tensB 2 = 100 ∧ tensB 3 = 1000 ∧ tensB 4 = 10000 := by decide
theorem part_bd {p dg : Int} (h0 : 0 ≤ dg) (h1 : dg ≤ 4) (hp : 0 ≤ p) (hp2 : p ≤ tensB dg - 1) : 0 ≤ p * tensB (4 - dg) ∧ p * tensB (4 - dg) ≤ 10000 - tensB (4 - dg) := by
  obtain ⟨t0, t1, t2, t3, t4⟩ := tens_at
  rcases (by omega : dg = 0 ∨ dg = 1 ∨ dg = 2 ∨ dg = 3 ∨ dg = 4) with rfl | rfl | rfl | rfl | rfl
  · rw [show (4 : Int) - 0 = 4 from rfl]; rw [t0] at hp2; rw [t4]; omega
  · rw [show (4 : Int) - 1 = 3 from rfl]; rw [t1] at hp2; rw [t3]; omega
  · rw [show (4 : Int) - 2 = 2 from rfl]; rw [t2] at hp2; rw [t2]; omega
  · rw [show (4 : Int) - 3 = 1 from rfl]; rw [t3] at hp2; rw [t1]; omega
  · rw [show (4 : Int) - 4 = 0 from rfl]; rw [t4] at hp2; rw [t0]; omega
theorem num_lim {y m d : Int} (h : vldB y m d = true) : 0 ≤ num y m d ∧ num y m d ≤ 3652058 := by
  have b := num_bd h
  have v := vld_iff.1 h
  have a := dby_mono (a := 1) (b := y) v.1
  have c := dby_mono (a := y + 1) (b := 10000) (by omega)
  rw [dby_one] at a; rw [dby_max] at c; omega

set_option maxHeartbeats 1000000 in
theorem daysAhead_any (y m d : Int) (w : World) (hM : Months w) (h1 : 1 ≤ y) (h2 : y ≤ 10000) (h3 : 1 ≤ m) (h4 : m ≤ 12) (h5 : 1 ≤ d) (h6 : d ≤ 31) :
    Calls Tryd.prog 60 #[.int .i64 y, .int .i64 m, .int .i64 d] w fun e w' => e = .returned (.int .i64 (num y m d)) ∧ w' = w := by
  have HM : Hid (Months w) := hM
  have b1 := dby_mono (a := 1) (b := y) h1
  have b2 := dby_mono (a := y) (b := 10000) h2
  rw [dby_one] at b1
  rw [dby_max] at b2
  clear hM
  go_enter Tryd.func60, Tryd.ntmps60
  go_wp2
  go_loop [8, 9] (fun tn tm => ∃ k : Int, 1 ≤ k ∧ k ≤ m ∧ tm = .int .i64 k ∧ tn = .int .i64 (dby y + cum y k)) (fun _ tm => (m - intOf tm).toNat)
  case atStart => exact ⟨1, by omega, by omega, rfl, by rw [cum_one]; congr 1; unfold dby; omega⟩
  case round =>
    obtain ⟨k, hk1, hk2, rfl, rfl⟩ := hrel
    have cb := cum_bd y k hk1 (by omega)
    have db := dim_bd y k
    have hl := lp_01 y
    have CS : Hid (cum y (k + 1) = cum y k + dim y k) := cum_succ y k hk1 (by omega)
    by_cases hlt : k < m
    · go_wp2_with (go_at_call 63; refine (daysOf_any _ _ _ HM.out (by omega) (by omega) (by omega) (by omega)).mono ?_; rintro e w' ⟨rfl, rfl⟩)
      go_round
      case rel => exact ⟨k + 1, by omega, by omega, rfl, by rw [CS.out]; go_num⟩
      case measure => simp [intOf]; omega
    · go_wp2_with (go_at_call 63; refine (daysOf_any _ _ _ HM.out (by omega) (by omega) (by omega) (by omega)).mono ?_; rintro e w' ⟨rfl, rfl⟩)
      go_ret
      exact ⟨ret_int (by unfold num; rw [show k = m by omega]), rfl⟩
end Go.Proofs.YtpcdkafjogpdkaaDoor
