/-
  Two stamps of one level, digits and zone: they are the same, or their spans do not meet.
-/
import Derived.Test.YtpcdkafjogpdkaaDoorInst
namespace Go.Proofs.YtpcdkafjogpdkaaDoor
open Go.RowKit

/-- What a right Stamp leaves zero. -/
theorem zeros_of {lv y mo d h mi s p dg zn : Int} {z : Bool} (hr : rightB lv y mo d h mi s p dg zn z = true) : (lv < 2 → mo = 0) ∧ (lv < 3 → d = 0) ∧ (lv < 4 → h = 0) ∧ (lv < 5 → mi = 0) ∧ (lv < 6 → s = 0) ∧ (lv < 7 → p = 0) := by
  have F := facts_of hr
  have f2 := F.l2
  unfold rightB dateB clockB partB at hr
  simp only [Bool.and_eq_true] at hr
  obtain ⟨⟨⟨⟨⟨⟨_, _⟩, a3⟩, a4⟩, ⟨⟨b1, b2⟩, b3⟩⟩, ⟨_, c2⟩⟩, _⟩ := hr
  refine ⟨fun k => ?_, fun k => ?_, fun k => ?_, fun k => ?_, fun k => ?_, fun k => ?_⟩
  · exact (fit_bd a3).2 (by simp; omega)
  · exact (fit_bd a4).2 (by simp; omega)
  · exact (fit_bd b1).2 (by simp; omega)
  · exact (fit_bd b2).2 (by simp; omega)
  · exact (fit_bd b3).2 (by simp; omega)
  · exact (fit_bd c2).2 (by simp; omega)
theorem inst_split {lv y mo d h mi s p dg zn : Int} {z : Bool} (hr : rightB lv y mo d h mi s p dg zn z = true) : ∃ q, instI lv y mo d h mi s p dg zn = num y (max mo 1) (max d 1) * 864000000 + h * 36000000 + mi * 600000 + s * 10000 + q - zn * 600000 ∧ 0 ≤ q ∧ q ≤ 9999 ∧ q = (if lv = 7 then p * tensB (4 - dg) else 0) := by
  have F := facts_of hr
  refine ⟨if lv = 7 then p * tensB (4 - dg) else 0, rfl, ?_, ?_, rfl⟩
  · split
    · exact (part_bd F.dg0 F.dg2 F.p0 F.p2).1
    · omega
  · split
    · have := (part_bd F.dg0 F.dg2 F.p0 F.p2).2
      have := tensB_bd (4 - dg)
      omega
    · omega
theorem tens_cases {dg : Int} (h0 : 0 ≤ dg) (h1 : dg ≤ 4) : tensB (4 - dg) = 1 ∨ tensB (4 - dg) = 10 ∨ tensB (4 - dg) = 100 ∨ tensB (4 - dg) = 1000 ∨ tensB (4 - dg) = 10000 := by
  obtain rfl | rfl | rfl | rfl | rfl : dg = 0 ∨ dg = 1 ∨ dg = 2 ∨ dg = 3 ∨ dg = 4 := by omega
  all_goals decide
theorem order_same {lv y mo d h mi s p dg zn y' mo' d' h' mi' s' p' : Int} {z : Bool} (hr : rightB lv y mo d h mi s p dg zn z = true) (hr' : rightB lv y' mo' d' h' mi' s' p' dg zn z = true)
    (e : instI lv y mo d h mi s p dg zn = instI lv y' mo' d' h' mi' s' p' dg zn) : y = y' ∧ mo = mo' ∧ d = d' ∧ h = h' ∧ mi = mi' ∧ s = s' ∧ p = p' := by
  have F := facts_of hr
  have F' := facts_of hr'
  obtain ⟨q, e1, q1, q2, q3⟩ := inst_split hr
  obtain ⟨q', e2, q1', q2', q3'⟩ := inst_split hr'
  rw [e1, e2] at e
  have Z := zeros_of hr
  have Z' := zeros_of hr'
  have a1 := F.h0; have a2 := F.h2; have a3 := F.mi0; have a4 := F.mi2; have a5 := F.s0; have a6 := F.s2
  have b1 := F'.h0; have b2 := F'.h2; have b3 := F'.mi0; have b4 := F'.mi2; have b5 := F'.s0; have b6 := F'.s2
  obtain ⟨k1, k2, k3⟩ := num_inj F.v F'.v (by omega)
  rw [k1, k2, k3] at e
  have hh : h = h' := by omega
  have hmi : mi = mi' := by omega
  have hs : s = s' := by omega
  have hq : q = q' := by omega
  have l1 := F.mo1; have l2 := F'.mo1; have l3 := F.d1; have l4 := F'.d1; have l5 := F.l1
  have m1 := F.mo0; have m2 := F'.mo0; have m3 := F.d0; have m4 := F'.d0
  refine ⟨k1, ?_, ?_, hh, hmi, hs, ?_⟩
  · by_cases g : lv < 2
    · rw [Z.1 g, Z'.1 g]
    · have := l1 (by omega); have := l2 (by omega); omega
  · by_cases g : lv < 3
    · rw [Z.2.1 g, Z'.2.1 g]
    · have := l3 (by omega); have := l4 (by omega); omega
  · by_cases g : lv < 7
    · rw [Z.2.2.2.2.2 g, Z'.2.2.2.2.2 g]
    · have g7 : lv = 7 := by have := F.l2; omega
      rw [if_pos g7] at q3 q3'
      rcases tens_cases F.dg0 F.dg2 with t | t | t | t | t <;> rw [t] at q3 q3' <;> omega
theorem order_apart {lv y mo d h mi s p dg zn y' mo' d' h' mi' s' p' : Int} {z : Bool} (hr : rightB lv y mo d h mi s p dg zn z = true) (hr' : rightB lv y' mo' d' h' mi' s' p' dg zn z = true)
    (e : instI lv y mo d h mi s p dg zn < instI lv y' mo' d' h' mi' s' p' dg zn) : instI lv y mo d h mi s p dg zn + lenI lv y mo dg - 1 < instI lv y' mo' d' h' mi' s' p' dg zn := by
  have F := facts_of hr
  have F' := facts_of hr'
  obtain ⟨q, e1, q1, q2, q3⟩ := inst_split hr
  obtain ⟨q', e2, q1', q2', q3'⟩ := inst_split hr'
  rw [e1, e2] at e ⊢
  have Z := zeros_of hr
  have Z' := zeros_of hr'
  have a1 := F.h0; have a2 := F.h2; have a3 := F.mi0; have a4 := F.mi2; have a5 := F.s0; have a6 := F.s2
  have b1 := F'.h0; have b2 := F'.h2; have b3 := F'.mi0; have b4 := F'.mi2; have b5 := F'.s0; have b6 := F'.s2
  have l5 := F.l1; have l6 := F.l2
  by_cases g7 : lv = 7
  · rw [if_pos g7] at q3 q3'
    have el : lenI lv y mo dg = tensB (4 - dg) := by unfold lenI; rw [g7]; rfl
    rw [el]
    rcases tens_cases F.dg0 F.dg2 with t | t | t | t | t <;> rw [t] at q3 q3' ⊢ <;> omega
  · have z7 : q = 0 := by rw [q3, if_neg g7]
    have z7' : q' = 0 := by rw [q3', if_neg g7]
    by_cases g6 : lv = 6
    · have el : lenI lv y mo dg = 10000 := by unfold lenI; rw [g6]; rfl
      omega
    · have zs := Z.2.2.2.2.1 (by omega); have zs' := Z'.2.2.2.2.1 (by omega)
      by_cases g5 : lv = 5
      · have el : lenI lv y mo dg = 600000 := by unfold lenI; rw [g5]; rfl
        omega
      · have zm := Z.2.2.2.1 (by omega); have zm' := Z'.2.2.2.1 (by omega)
        by_cases g4 : lv = 4
        · have el : lenI lv y mo dg = 36000000 := by unfold lenI; rw [g4]; rfl
          omega
        · have zh := Z.2.2.1 (by omega); have zh' := Z'.2.2.1 (by omega)
          by_cases g3 : lv = 3
          · have el : lenI lv y mo dg = 864000000 := by unfold lenI; rw [g3]; rfl
            omega
          · have zd := Z.2.1 (by omega); have zd' := Z'.2.1 (by omega)
            have hv := F.v; have hv' := F'.v
            by_cases g2 : lv = 2
            · have el : lenI lv y mo dg = dim y mo * 864000000 := by unfold lenI; rw [g2]; rfl
              have o1 := F.mo1 (by omega); have o2 := F'.mo1 (by omega); have o3 := F.mo2; have o4 := F'.mo2
              rw [zd, zd', show max mo 1 = mo by omega, show max mo' 1 = mo' by omega, show max (0 : Int) 1 = 1 from rfl] at e ⊢
              unfold num at e ⊢
              have c1 := cum_bd y mo o1 o3; have c2 := cum_bd y' mo' o2 o4
              rw [el]
              rcases Int.lt_trichotomy y y' with gy | gy | gy
              · have := dby_lt gy; omega
              · subst gy
                rcases Int.lt_trichotomy mo mo' with gm | gm | gm
                · have := cum_lt y o1 o3 gm; omega
                · subst gm; omega
                · have := cum_lt y o2 o4 gm; have := dim_bd y mo'; omega
              · have := dby_lt gy; have := dim_bd y' mo'; have := dim_bd y mo; omega
            · have g1 : lv = 1 := by omega
              have zo := Z.1 (by omega); have zo' := Z'.1 (by omega)
              have el : lenI lv y mo dg = (365 + lp y) * 864000000 := by unfold lenI; rw [g1]; rfl
              rw [el]
              rw [zd, zd', zo, zo', show max (0 : Int) 1 = 1 from rfl] at e ⊢
              unfold num at e ⊢
              rw [cum_one, cum_one] at e ⊢
              have u1 := lp_01 y
              rcases Int.lt_trichotomy y y' with gy | gy | gy
              · have := dby_lt gy; omega
              · subst gy; omega
              · have := dby_lt gy; have := lp_01 y'; omega
theorem len_pos (lv y mo dg : Int) : 1 ≤ lenI lv y mo dg := by
  have := lp_01 y
  have := dim_bd y mo
  have := tensB_bd (4 - dg)
  unfold lenI
  repeat (split; omega)
  omega
end Go.Proofs.YtpcdkafjogpdkaaDoor
