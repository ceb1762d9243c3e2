/-
  A text that is read without a fault: its stamp is right, and the text is that stamp's.
-/
import Derived.Test.YtpcdkafjogpdkaaDoorBk3
namespace Go.Proofs.YtpcdkafjogpdkaaDoor
open Go.RowKit

theorem fit_no {v lo hi : Int} (h : v = 0) : fitB false v lo hi = true := by simp [fitB, h]
theorem fit_yes {v lo hi : Int} (h1 : lo ≤ v) (h2 : v ≤ hi) : fitB true v lo hi = true := by simp [fitB, inB]; omega
/-- The whole, once each piece is known. -/
theorem back_of {s : ByteArray} {L Y Mo D H Mi Sc P G : Nat} {z : Bool} {zn : Int} (l1 : 1 ≤ L) (l7 : L ≤ 7) (hY : 1 ≤ Y ∧ Y ≤ 9999)
    (hMo : if 2 ≤ L then 1 ≤ Mo ∧ Mo ≤ 12 else Mo = 0) (hD : if 3 ≤ L then 1 ≤ D ∧ (D : Int) ≤ dinB Y Mo else D = 0) (hH : if 4 ≤ L then H ≤ 23 else H = 0) (hMi : if 5 ≤ L then Mi ≤ 59 else Mi = 0) (hSc : if 6 ≤ L then Sc ≤ 59 else Sc = 0)
    (hPG : if L = 7 then 1 ≤ G ∧ G ≤ 4 ∧ P < 10 ^ G else G = 0 ∧ P = 0) (hz : z = true → -840 ≤ zn ∧ zn ≤ 840) (hz0 : z = false → zn = 0) (ht : Dr s 0 = textL L Y Mo D H Mi Sc P G z zn) :
    rightB L Y Mo D H Mi Sc P G zn z = true ∧ Txt s (textI L Y Mo D H Mi Sc P G z zn) := by
  refine ⟨?_, ?_⟩
  · unfold rightB dateB clockB partB zoneB
    simp only [Bool.and_eq_true]
    refine ⟨⟨⟨⟨⟨⟨by rw [inB_iff]; omega, by rw [inB_iff]; omega⟩, ?_⟩, ?_⟩, ⟨⟨?_, ?_⟩, ?_⟩⟩, ⟨?_, ?_⟩⟩, ?_⟩
    · by_cases g : 2 ≤ L
      · rw [if_pos g] at hMo; rw [show decide ((2 : Int) ≤ L) = true by simp; omega]; exact fit_yes (by omega) (by omega)
      · rw [if_neg g] at hMo; rw [show decide ((2 : Int) ≤ L) = false by simp; omega]; exact fit_no (by omega)
    · by_cases g : 3 ≤ L
      · rw [if_pos g] at hD; rw [show decide ((3 : Int) ≤ L) = true by simp; omega]; exact fit_yes (by omega) hD.2
      · rw [if_neg g] at hD; rw [show decide ((3 : Int) ≤ L) = false by simp; omega]; exact fit_no (by omega)
    · by_cases g : 4 ≤ L
      · rw [if_pos g] at hH; rw [show decide ((4 : Int) ≤ L) = true by simp; omega]; exact fit_yes (by omega) (by omega)
      · rw [if_neg g] at hH; rw [show decide ((4 : Int) ≤ L) = false by simp; omega]; exact fit_no (by omega)
    · by_cases g : 5 ≤ L
      · rw [if_pos g] at hMi; rw [show decide ((5 : Int) ≤ L) = true by simp; omega]; exact fit_yes (by omega) (by omega)
      · rw [if_neg g] at hMi; rw [show decide ((5 : Int) ≤ L) = false by simp; omega]; exact fit_no (by omega)
    · by_cases g : 6 ≤ L
      · rw [if_pos g] at hSc; rw [show decide ((6 : Int) ≤ L) = true by simp; omega]; exact fit_yes (by omega) (by omega)
      · rw [if_neg g] at hSc; rw [show decide ((6 : Int) ≤ L) = false by simp; omega]; exact fit_no (by omega)
    · by_cases g : L = 7
      · rw [if_pos g] at hPG; rw [show ((L : Int) == 7) = true by simp; omega]; exact fit_yes (by omega) (by omega)
      · rw [if_neg g] at hPG; rw [show ((L : Int) == 7) = false by simp; omega]; exact fit_no (by omega)
    · by_cases g : L = 7
      · rw [if_pos g] at hPG
        rw [show ((L : Int) == 7) = true by simp; omega]
        have e : tensB (G : Int) = ((10 ^ G : Nat) : Int) := by
          unfold tensB
          rw [show min (G : Int) 4 = (G : Int) by omega]
          simp
        rw [e]
        exact fit_yes (by omega) (by omega)
      · rw [if_neg g] at hPG; rw [show ((L : Int) == 7) = false by simp; omega]; exact fit_no (by omega)
    · cases z with
      | true => exact fit_yes (hz rfl).1 (hz rfl).2
      | false => exact fit_no (hz0 rfl)
  · unfold Txt
    have e : s.data.toList = textL L Y Mo D H Mi Sc P G z zn := ht
    show s = ⟨(textL L Y Mo D H Mi Sc P G z zn).toArray⟩
    rw [← e]
theorem back_text {s : ByteArray} {lv y mo d : Int} {A : Nat} {B : Option Nat} {lv2 h mi sc p dg : Int} {A2 : Nat} {B2 : Option Nat} {Z : Bool} {ZN : Int} {A3 : Nat} {B3 : Option Nat}
    (hd : dateS s 0 none = (lv, y, mo, d, A, B)) (hc : clkS s A B lv = (lv2, h, mi, sc, p, dg, A2, B2)) (hz : zoneS s A2 B2 = (Z, ZN, A3, B3)) (he : endB s A3 B3 = none) :
    rightB lv2 y mo d h mi sc p dg ZN Z = true ∧ Txt s (textI lv2 y mo d h mi sc p dg Z ZN) := by
  obtain ⟨rfl, hZ, hz1, hz0⟩ := zone_inv hz he
  clear hz he
  obtain ⟨v1, a1, b1, hx⟩ : ∃ v1 a1 b1, numS s 4 1 9999 0 none = (v1, a1, b1) := ⟨_, _, _, rfl⟩
  unfold dateS at hd
  simp only [hx] at hd
  -- no clock where no digit stands
  by_cases d1 : isD (ahd s a1 b1) = true
  rotate_left
  · rw [if_neg d1] at hd
    simp only [Prod.mk.injEq] at hd
    obtain ⟨rfl, rfl, rfl, rfl, rfl, rfl⟩ := hd
    unfold clkS at hc
    rw [if_neg d1] at hc
    simp only [Prod.mk.injEq] at hc
    obtain ⟨rfl, rfl, rfl, rfl, rfl, rfl, rfl, rfl⟩ := hc
    obtain ⟨_, n, hn, rfl, q1, q2, rfl, hdr⟩ := num_inv hx
    exact back_of (L := 1) (Y := n) (Mo := 0) (D := 0) (H := 0) (Mi := 0) (Sc := 0) (P := 0) (G := 0) (by decide) (by decide) (by omega) (by simp) (by simp) (by simp) (by simp) (by simp) (by simp) hz1 hz0 (by rw [hdr, hZ]; rfl)
  rw [if_pos d1] at hd
  obtain rfl : b1 = none := (isD_in d1).1
  obtain ⟨_, n1, hn1, rfl, q1, q2, rfl, hdr1⟩ := num_inv hx
  obtain ⟨v2, a2, b2, hy⟩ : ∃ v a b, numS s 2 1 12 (0 + 4) none = (v, a, b) := ⟨_, _, _, rfl⟩
  simp only [hy] at hd
  by_cases d2 : isD (ahd s a2 b2) = true
  rotate_left
  · rw [if_neg d2] at hd
    simp only [Prod.mk.injEq] at hd
    obtain ⟨rfl, rfl, rfl, rfl, rfl, rfl⟩ := hd
    unfold clkS at hc
    rw [if_neg d2] at hc
    simp only [Prod.mk.injEq] at hc
    obtain ⟨rfl, rfl, rfl, rfl, rfl, rfl, rfl, rfl⟩ := hc
    obtain ⟨_, n2, hn2, rfl, q3, q4, rfl, hdr2⟩ := num_inv hy
    exact back_of (L := 2) (Y := n1) (Mo := n2) (D := 0) (H := 0) (Mi := 0) (Sc := 0) (P := 0) (G := 0) (by decide) (by decide) (by omega) (by rw [if_pos (by decide)]; omega) (by simp) (by simp) (by simp) (by simp) (by simp) hz1 hz0 (by rw [hdr1, hdr2, hZ]; rfl)
  rw [if_pos d2] at hd
  obtain rfl : b2 = none := (isD_in d2).1
  obtain ⟨_, n2, hn2, rfl, q3, q4, rfl, hdr2⟩ := num_inv hy
  obtain ⟨v3, a3, b3, hw⟩ : ∃ v a b, numS s 2 1 (dinB n1 n2) (0 + 4 + 2) none = (v, a, b) := ⟨_, _, _, rfl⟩
  simp only [hw, Prod.mk.injEq] at hd
  obtain ⟨rfl, rfl, rfl, rfl, rfl, rfl⟩ := hd
  unfold clkS at hc
  by_cases d3 : isD (ahd s a3 b3) = true
  rotate_left
  · rw [if_neg d3] at hc
    simp only [Prod.mk.injEq] at hc
    obtain ⟨rfl, rfl, rfl, rfl, rfl, rfl, rfl, rfl⟩ := hc
    obtain ⟨_, n3, hn3, rfl, q5, q6, rfl, hdr3⟩ := num_inv hw
    exact back_of (L := 3) (Y := n1) (Mo := n2) (D := n3) (H := 0) (Mi := 0) (Sc := 0) (P := 0) (G := 0) (by decide) (by decide) (by omega) (by rw [if_pos (by decide)]; omega) (by rw [if_pos (by decide)]; exact ⟨by omega, q6⟩) (by simp) (by simp) (by simp) (by simp) hz1 hz0 (by rw [hdr1, hdr2, hdr3, hZ]; rfl)
  rw [if_pos d3] at hc
  obtain rfl : b3 = none := (isD_in d3).1
  obtain ⟨_, n3, hn3, rfl, q5, q6, rfl, hdr3⟩ := num_inv hw
  unfold clockS at hc
  obtain ⟨v4, a4, b4, hu⟩ : ∃ v a b, numS s 2 0 23 (0 + 4 + 2 + 2) none = (v, a, b) := ⟨_, _, _, rfl⟩
  simp only [hu] at hc
  by_cases d4 : isD (ahd s a4 b4) = true
  rotate_left
  · rw [if_neg d4] at hc
    simp only [Prod.mk.injEq] at hc
    obtain ⟨rfl, rfl, rfl, rfl, rfl, rfl, rfl, rfl⟩ := hc
    obtain ⟨_, n4, hn4, rfl, q7, q8, rfl, hdr4⟩ := num_inv hu
    exact back_of (L := 4) (Y := n1) (Mo := n2) (D := n3) (H := n4) (Mi := 0) (Sc := 0) (P := 0) (G := 0) (by decide) (by decide) (by omega) (by rw [if_pos (by decide)]; omega) (by rw [if_pos (by decide)]; exact ⟨by omega, q6⟩) (by rw [if_pos (by decide)]; omega) (by simp) (by simp) (by simp) hz1 hz0 (by rw [hdr1, hdr2, hdr3, hdr4, hZ]; rfl)
  rw [if_pos d4] at hc
  obtain rfl : b4 = none := (isD_in d4).1
  obtain ⟨_, n4, hn4, rfl, q7, q8, rfl, hdr4⟩ := num_inv hu
  obtain ⟨v5, a5, b5, ht⟩ : ∃ v a b, numS s 2 0 59 (0 + 4 + 2 + 2 + 2) none = (v, a, b) := ⟨_, _, _, rfl⟩
  simp only [ht] at hc
  by_cases d5 : isD (ahd s a5 b5) = true
  rotate_left
  · rw [if_neg d5] at hc
    simp only [Prod.mk.injEq] at hc
    obtain ⟨rfl, rfl, rfl, rfl, rfl, rfl, rfl, rfl⟩ := hc
    obtain ⟨_, n5, hn5, rfl, q9, q10, rfl, hdr5⟩ := num_inv ht
    exact back_of (L := 5) (Y := n1) (Mo := n2) (D := n3) (H := n4) (Mi := n5) (Sc := 0) (P := 0) (G := 0) (by decide) (by decide) (by omega) (by rw [if_pos (by decide)]; omega) (by rw [if_pos (by decide)]; exact ⟨by omega, q6⟩) (by rw [if_pos (by decide)]; omega) (by rw [if_pos (by decide)]; omega) (by simp) (by simp) hz1 hz0 (by rw [hdr1, hdr2, hdr3, hdr4, hdr5, hZ]; rfl)
  rw [if_pos d5] at hc
  obtain rfl : b5 = none := (isD_in d5).1
  obtain ⟨_, n5, hn5, rfl, q9, q10, rfl, hdr5⟩ := num_inv ht
  obtain ⟨v6, a6, b6, hv⟩ : ∃ v a b, numS s 2 0 59 (0 + 4 + 2 + 2 + 2 + 2) none = (v, a, b) := ⟨_, _, _, rfl⟩
  simp only [hv] at hc
  by_cases d6 : ahd s a6 b6 = 46
  rotate_left
  · rw [if_neg d6] at hc
    simp only [Prod.mk.injEq] at hc
    obtain ⟨rfl, rfl, rfl, rfl, rfl, rfl, rfl, rfl⟩ := hc
    obtain ⟨_, n6, hn6, rfl, q11, q12, rfl, hdr6⟩ := num_inv hv
    exact back_of (L := 6) (Y := n1) (Mo := n2) (D := n3) (H := n4) (Mi := n5) (Sc := n6) (P := 0) (G := 0) (by decide) (by decide) (by omega) (by rw [if_pos (by decide)]; omega) (by rw [if_pos (by decide)]; exact ⟨by omega, q6⟩) (by rw [if_pos (by decide)]; omega) (by rw [if_pos (by decide)]; omega) (by rw [if_pos (by decide)]; omega) (by simp) hz1 hz0 (by rw [hdr1, hdr2, hdr3, hdr4, hdr5, hdr6, hZ]; rfl)
  rw [if_pos d6] at hc
  obtain ⟨rfl, hl6⟩ := point_in d6
  obtain ⟨_, n6, hn6, rfl, q11, q12, rfl, hdr6⟩ := num_inv hv
  by_cases d7 : isD (ahd s (0 + 4 + 2 + 2 + 2 + 2 + 2 + 1) none) = true
  rotate_left
  · rw [if_neg d7] at hc
    simp only [Prod.mk.injEq] at hc
    exact absurd hc.2.2.2.2.2.2.2 (by simp)
  rw [if_pos d7] at hc
  obtain ⟨G, P, g1, g4, hP, ep, hdr8⟩ := prt_inv d7
  have ep' : prt s 3 ((ahd s (0 + 4 + 2 + 2 + 2 + 2 + 2 + 1) none : Int) - 48, 1, 0 + 4 + 2 + 2 + 2 + 2 + 2 + 2, none) = ((P : Int), (G : Int), 0 + 4 + 2 + 2 + 2 + 2 + 2 + 1 + G, none) := ep
  simp only [ep', Prod.mk.injEq] at hc
  obtain ⟨rfl, rfl, rfl, rfl, rfl, rfl, rfl, _⟩ := hc
  have hdot : Dr s (0 + 4 + 2 + 2 + 2 + 2 + 2) = 46 :: Dr s (0 + 4 + 2 + 2 + 2 + 2 + 2 + 1) := by
    rw [dr_cons hl6]
    congr 1
    exact UInt8.toNat_inj.1 (by rw [← ahd_in hl6, d6]; rfl)
  exact back_of (L := 7) (Y := n1) (Mo := n2) (D := n3) (H := n4) (Mi := n5) (Sc := n6) (P := P) (G := G) (by decide) (by decide) (by omega) (by rw [if_pos (by decide)]; omega) (by rw [if_pos (by decide)]; exact ⟨by omega, q6⟩) (by rw [if_pos (by decide)]; omega) (by rw [if_pos (by decide)]; omega) (by rw [if_pos (by decide)]; omega) (by rw [if_pos rfl]; exact ⟨g1, g4, hP⟩) hz1 hz0 (by rw [hdr1, hdr2, hdr3, hdr4, hdr5, hdr6, hdot, hdr8, hZ]; rfl)
end Go.Proofs.YtpcdkafjogpdkaaDoor
