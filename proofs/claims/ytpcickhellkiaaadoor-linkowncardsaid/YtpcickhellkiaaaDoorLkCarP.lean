/-
  The document's link: Carry of a beginning.
-/
import Derived.Test.YtpcickhellkiaaaDoorLkCar
namespace Go.Proofs.YtpcickhellkiaaaDoor
open Go.RowKit

section
variable {w w' : World} {rb s : Nat} {x y z' : Wy} {c' : Sd}
set_option maxRecDepth 100000 in
set_option maxHeartbeats 4000000 in
theorem rcar_part (h : RLk w rb x y) (hs : s < 2) (k n : Nat) (hk : k < (sdW x y s).n) (hc : carE (sdOf (sdW x y s)) k n = 0) (hw : ¬ carW (sdOf (sdW x y s)) k n = true) : Calls Tryd.prog 47 #[.pointer (some ⟨rb, 0, none⟩), .int .i64 (s : Int), .int .i64 (k : Int), .int .i64 (n : Int)] w fun e w' => ∃ a m c, e = .returned (.tuple #[.slice a m c, .int .i64 0]) ∧ Hid (BRow w' w.heap.size (.slice a m c) (carR (sdOf (sdW x y s)) k n) ∧ RQ w rb x y s (carC (sdOf (sdW x y s)) k n) w') := by
  have HW := rway_ok h hs
  have HA := h.at_ hs
  have hl := HA.len
  have d0 : w.cell? ⟨rb, 1 + 2 * s, none⟩ = some (.slice (sdW x y s).a (sdW x y s).n (sdW x y s).c) := (hcell HA.blk _).trans HA.c0
  have d1 : w.cell? ⟨rb, 1 + 2 * s + 1, none⟩ = some (.int .i64 (sdW x y s).h) := (hcell HA.blk _).trans HA.c1
  obtain ⟨p, g, hpm, hpk, ea, d2, hok, ep, epl, hg1, hg2⟩ := HA.piece hk
  have eR : carR (sdOf (sdW x y s)) k n = p.bs.take n := by unfold carR; rw [if_pos hc, if_neg hw, ep, Int.toNat_natCast]
  have eC : carC (sdOf (sdW x y s)) k n = ((sdOf (sdW x y s)).1.set k (p.bs.drop n), (k : Int)) := by unfold carC; rw [if_pos hc, if_neg hw, ep, Int.toNat_natCast, Int.toNat_natCast]
  have hcc : (n : Int) ≤ p.n ∧ ¬ (0 ≤ (sdW x y s).h ∧ (sdW x y s).h ≠ k) := by
    unfold carE at hc
    rw [ep, epl] at hc
    by_cases g : isAt (sdOf (sdW x y s)) (k : Int) = true ∧ 0 ≤ (n : Int) ∧ (n : Int) ≤ p.n ∧ ¬ (0 ≤ (sdOf (sdW x y s)).2 ∧ (sdOf (sdW x y s)).2 ≠ k)
    · exact ⟨g.2.2.1, g.2.2.2⟩
    · rw [if_neg g] at hc; omega
  have hww : n ≠ 0 ∧ n ≠ p.n := by
    unfold carW at hw
    rw [ep, epl] at hw
    simp at hw
    omega
  rw [eR, eC]
  obtain ⟨pa, pn, pc, pbs⟩ := p
  have hok1 : BRow w (rb + 1) (.slice pa pn pc) pbs := hok.1
  have hp6 : pn ≤ 8195 := hok.2
  simp only at d2 epl hcc hww
  obtain ⟨pb, rfl, hpc, hpx⟩ := BRow.some_ hok1 (by omega)
  have hne : n < pn := by omega
  have HC : Hid (∀ cc v, Below w.heap.size w v → Calls Tryd.prog 73 #[.slice (some ⟨pb, n, none⟩) (pn - n) cc] v fun e w1 => ∃ a1 k1, e = .returned (.slice a1 (pn - n) k1) ∧ w1.cell? ⟨rb, 1 + 2 * s, none⟩ = some (.slice (some ⟨g, 0, none⟩) (sdW x y s).n (sdW x y s).c) ∧ w1.cell? ⟨rb, 1 + 2 * s + 1, none⟩ = some (.int .i64 (sdW x y s).h) ∧ w1.cell? ⟨g, k, none⟩ = some (.slice (some ⟨pb, 0, none⟩) pn pc) ∧ w1.frozen? ⟨g, k, none⟩ = false ∧ w1.frozen? ⟨rb, 1 + 2 * s + 1, none⟩ = false ∧ Hid (∀ c, Calls Tryd.prog 73 #[.slice (some ⟨pb, 0, none⟩) n c] ((w1.setCell ⟨g, k, none⟩ (.slice a1 (pn - n) k1)).setCell ⟨rb, 1 + 2 * s + 1, none⟩ (.int .i64 (k : Int))) fun e w3 => ∃ a k', e = .returned (.slice a n k') ∧ Hid (BRow w3 w.heap.size (.slice a n k') (pbs.take n) ∧ RQ w rb x y s ((sdOf (sdW x y s)).1.set k (pbs.drop n), (k : Int)) w3))) :=
    fun cc v hv => by
      have hby : Byts w (some ⟨pb, n, none⟩) (pn - n) (pbs.drop n) := by
        have := BRow.part hok1 (i := n) (m := pn - n) (by omega)
        rwa [List.take_of_length_le (by rw [List.length_drop]; omega)] at this
      refine (rcopied_any (c := cc) v (hby.below hv) (by omega)).mono fun e w1 ⟨a1, k1, he, hh⟩ => ?_
      obtain ⟨q1, q2, q3, q4, q5, q6, q7, q8⟩ := set_piece HA hk ea (ERow.base hh.out.1 hv.size) (below_then hv hh.out.2) (by omega)
      rw [ea] at q1
      refine ⟨a1, k1, he, q1, q2, q3.trans d2, q4, q5, fun c => ?_⟩
      have hq : RQ w rb x y s ((sdOf (sdW x y s)).1.set k (pbs.drop n), (k : Int)) ((w1.setCell ⟨g, k, none⟩ (.slice a1 (pn - n) k1)).setCell ⟨rb, 1 + 2 * s + 1, none⟩ (.int .i64 (k : Int))) := RQ.of h hs (q8 k) (by unfold sdOf; simp [List.map_set])
      exact (part_copy h hs hok1 hp6 (i := 0) (m := n) (by omega) c hq).mono fun e w3 ⟨a, k', e1, e2⟩ => ⟨a, k', e1, by
        have := e2.out
        rw [List.drop_zero] at this
        exact this⟩
  rw [ea] at d0
  have hn6 := hl.2
  have hgr : rb ≠ g := by omega
  have hgr' : g ≠ rb := by omega
  have g1 : ¬ (k : Int) < 0 := by omega
  have g2 : ¬ (k : Int) ≥ ((sdW x y s).n : Int) := by omega
  have g3 : ¬ (n : Int) < 0 := by omega
  have g4 : ¬ (n : Int) > (pn : Int) := by omega
  have g7 : ((n : Int) == 0) = false := by simp; omega
  have g8 : ((n : Int) == (pn : Int)) = false := by simp; omega
  have g9 : n ≤ pc := by omega
  have g10 : n ≤ pn := by omega
  have g11 : ¬ pc = n := by omega
  have hh := hcc.2
  clear eC eR hok hok1 ep epl hpm hpk ea hl HA h hs hc hw hcc hww
  generalize (sdW x y s).n = zn at d0 g2 hk hn6 HC
  generalize (sdW x y s).c = zc at d0 HC
  generalize (sdW x y s).h = zh at d1 hh HC
  generalize 1 + 2 * s = o at HW HC d0 d1
  by_cases g5 : zh ≥ 0
  · have g6 : (zh != (k : Int)) = false := by simp; omega
    clear hh
    go_enter Tryd.func47, Tryd.ntmps47
    go_wp2_with fail
    refine HW.mono ?_
    rintro _ w1 ⟨rfl, e1⟩
    obtain rfl : w = w1 := e1.symm
    clear e1
    go_wp2_with fail
    go_region_law (first | (go_simp; go_at_call 73; refine (HC.out _ _ (Below.drew (Below.refl _ _))).mono ?_; rintro _ w1 ⟨a1, k1, rfl, f1, f1', f2, f3, f4, HF⟩; go_wp2_with fail))
    all_goals (
      go_wp2_with fail
      refine (HF.out _).mono ?_
      rintro _ w3 ⟨a3, k3, rfl, HZ⟩
      go_wp2_with fail
      refine bodyPost_ret (v := .tuple #[.slice a3 n k3, .int .i64 0]) ?_ rfl ⟨a3, n, k3, rfl, HZ.out⟩
      simp [results, Tryd.results47, go_sem])
  · clear hh
    go_enter Tryd.func47, Tryd.ntmps47
    go_wp2_with fail
    refine HW.mono ?_
    rintro _ w1 ⟨rfl, e1⟩
    obtain rfl : w = w1 := e1.symm
    clear e1
    go_wp2_with fail
    go_region_law (first | (go_simp; go_at_call 73; refine (HC.out _ _ (Below.drew (Below.refl _ _))).mono ?_; rintro _ w1 ⟨a1, k1, rfl, f1, f1', f2, f3, f4, HF⟩; go_wp2_with fail))
    all_goals (
      go_wp2_with fail
      refine (HF.out _).mono ?_
      rintro _ w3 ⟨a3, k3, rfl, HZ⟩
      go_wp2_with fail
      refine bodyPost_ret (v := .tuple #[.slice a3 n k3, .int .i64 0]) ?_ rfl ⟨a3, n, k3, rfl, HZ.out⟩
      simp [results, Tryd.results47, go_sem])
end
end Go.Proofs.YtpcickhellkiaaaDoor
