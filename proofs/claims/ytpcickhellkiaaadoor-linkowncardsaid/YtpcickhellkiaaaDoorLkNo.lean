/-
  The document's link: Clip and Carry that are refused.
-/
import Derived.Test.YtpcickhellkiaaaDoorLkCar
namespace Go.Proofs.YtpcickhellkiaaaDoor
open Go.RowKit

section
variable {w w' : World} {rb s : Nat} {x y z' : Wy} {c' : Sd}
set_option maxRecDepth 100000 in
set_option maxHeartbeats 4000000 in
theorem rclip_no (h : RLk w rb x y) (hs : s < 2) (i n : Int) (hc : ¬ clipE (sdOf (sdW x y s)) i n = 0) : Calls Tryd.prog 50 #[.pointer (some ⟨rb, 0, none⟩), .int .i64 (s : Int), .int .i64 i, .int .i64 n] w fun e w' => e = .returned (.int .i64 2) ∧ Hid (RQ w rb x y s (clipC (sdOf (sdW x y s)) i n) w') := by
  have HW := rway_ok h hs
  have HA := h.at_ hs
  have hl := HA.len
  have d0 : w.cell? ⟨rb, 1 + 2 * s, none⟩ = some (.slice (sdW x y s).a (sdW x y s).n (sdW x y s).c) := (hcell HA.blk _).trans HA.c0
  have d1 : w.cell? ⟨rb, 1 + 2 * s + 1, none⟩ = some (.int .i64 (sdW x y s).h) := (hcell HA.blk _).trans HA.c1
  have hn6 := hl.2
  have HQ : Hid (RQ w rb x y s (clipC (sdOf (sdW x y s)) i n) w) := RQ.same h (by
    unfold clipC
    rw [if_neg]
    intro g
    exact hc (by unfold clipE; rw [if_pos g]))
  by_cases g1 : i < 0
  · clear hc hl HA h hs
    generalize 1 + 2 * s = o at HW d0 d1
    go_enter Tryd.func50, Tryd.ntmps50
    go_wp2_with fail
    refine HW.mono ?_
    rintro _ w1 ⟨rfl, e1⟩
    obtain rfl : w = w1 := e1.symm
    clear e1
    go_wp2_with fail
    go_ret
    exact ⟨rfl, HQ.out⟩
  · by_cases g2 : i ≥ ((sdW x y s).n : Int)
    · clear hc hl HA h hs
      generalize 1 + 2 * s = o at HW d0 d1
      go_enter Tryd.func50, Tryd.ntmps50
      go_wp2_with fail
      refine HW.mono ?_
      rintro _ w1 ⟨rfl, e1⟩
      obtain rfl : w = w1 := e1.symm
      clear e1
      go_wp2_with fail
      go_ret
      exact ⟨rfl, HQ.out⟩
    · obtain ⟨k, rfl⟩ : ∃ k : Nat, i = k := ⟨i.toNat, by omega⟩
      have hk : k < (sdW x y s).n := by omega
      obtain ⟨⟨pa, pn, pc, pbs⟩, g, hpm, hpk, ea, d2, hok, ep, epl, hg1, hg2⟩ := HA.piece hk
      simp only at d2 ep epl
      have hp6 : pn ≤ 8195 := hok.2
      rw [ea] at d0
      have hat : isAt (sdOf (sdW x y s)) (k : Int) = true := isAt_iff.2 (by rw [hl.1]; omega)
      by_cases g3 : n < 1
      · clear hc hl HA h hs hat hok hpm hpk ea ep epl
        generalize 1 + 2 * s = o at HW d0 d1
        go_enter Tryd.func50, Tryd.ntmps50
        go_wp2_with fail
        refine HW.mono ?_
        rintro _ w1 ⟨rfl, e1⟩
        obtain rfl : w = w1 := e1.symm
        clear e1
        go_wp2_with fail
        go_ret
        exact ⟨rfl, HQ.out⟩
      · have g4 : n > (pn : Int) := by
          rcases Int.lt_or_le (pn : Int) n with g | g
          · exact g
          · exact (hc (by unfold clipE; rw [if_pos ⟨hat, by omega, by rw [ep, epl]; exact g⟩])).elim
        clear hc hl HA h hs hat hok hpm hpk ea ep epl
        generalize 1 + 2 * s = o at HW d0 d1
        go_enter Tryd.func50, Tryd.ntmps50
        go_wp2_with fail
        refine HW.mono ?_
        rintro _ w1 ⟨rfl, e1⟩
        obtain rfl : w = w1 := e1.symm
        clear e1
        go_wp2_with fail
        go_ret
        exact ⟨rfl, HQ.out⟩
set_option maxRecDepth 100000 in
set_option maxHeartbeats 4000000 in
theorem rcar_no (h : RLk w rb x y) (hs : s < 2) (i n : Int) (hc : ¬ carE (sdOf (sdW x y s)) i n = 0) : Calls Tryd.prog 47 #[.pointer (some ⟨rb, 0, none⟩), .int .i64 (s : Int), .int .i64 i, .int .i64 n] w fun e w' => e = .returned (.tuple #[.slice none 0 0, .int .i64 2]) ∧ Hid (RQ w rb x y s (carC (sdOf (sdW x y s)) i n) w') := by
  have HW := rway_ok h hs
  have HA := h.at_ hs
  have hl := HA.len
  have d0 : w.cell? ⟨rb, 1 + 2 * s, none⟩ = some (.slice (sdW x y s).a (sdW x y s).n (sdW x y s).c) := (hcell HA.blk _).trans HA.c0
  have d1 : w.cell? ⟨rb, 1 + 2 * s + 1, none⟩ = some (.int .i64 (sdW x y s).h) := (hcell HA.blk _).trans HA.c1
  have hn6 := hl.2
  have HQ : Hid (RQ w rb x y s (carC (sdOf (sdW x y s)) i n) w) := RQ.same h (by unfold carC; rw [if_neg hc])
  by_cases g1 : i < 0
  · clear hc hl HA h hs
    generalize 1 + 2 * s = o at HW d0 d1
    go_enter Tryd.func47, Tryd.ntmps47
    go_wp2_with fail
    refine HW.mono ?_
    rintro _ w1 ⟨rfl, e1⟩
    obtain rfl : w = w1 := e1.symm
    clear e1
    go_wp2_with fail
    refine bodyPost_ret (v := .tuple #[.slice none 0 0, .int .i64 2]) ?_ rfl ⟨rfl, HQ.out⟩
    simp [results, Tryd.results47, go_sem]
  · by_cases g2 : i ≥ ((sdW x y s).n : Int)
    · clear hc hl HA h hs
      generalize 1 + 2 * s = o at HW d0 d1
      go_enter Tryd.func47, Tryd.ntmps47
      go_wp2_with fail
      refine HW.mono ?_
      rintro _ w1 ⟨rfl, e1⟩
      obtain rfl : w = w1 := e1.symm
      clear e1
      go_wp2_with fail
      refine bodyPost_ret (v := .tuple #[.slice none 0 0, .int .i64 2]) ?_ rfl ⟨rfl, HQ.out⟩
      simp [results, Tryd.results47, go_sem]
    · obtain ⟨k, rfl⟩ : ∃ k : Nat, i = k := ⟨i.toNat, by omega⟩
      have hk : k < (sdW x y s).n := by omega
      obtain ⟨⟨pa, pn, pc, pbs⟩, g, hpm, hpk, ea, d2, hok, ep, epl, hg1, hg2⟩ := HA.piece hk
      simp only at d2 ep epl
      have hp6 : pn ≤ 8195 := hok.2
      rw [ea] at d0
      have hat : isAt (sdOf (sdW x y s)) (k : Int) = true := isAt_iff.2 (by rw [hl.1]; omega)
      by_cases g3 : n < 0
      · clear hc hl HA h hs hat hok hpm hpk ea ep epl
        generalize 1 + 2 * s = o at HW d0 d1
        go_enter Tryd.func47, Tryd.ntmps47
        go_wp2_with fail
        refine HW.mono ?_
        rintro _ w1 ⟨rfl, e1⟩
        obtain rfl : w = w1 := e1.symm
        clear e1
        go_wp2_with fail
        refine bodyPost_ret (v := .tuple #[.slice none 0 0, .int .i64 2]) ?_ rfl ⟨rfl, HQ.out⟩
        simp [results, Tryd.results47, go_sem]
      · by_cases g4 : n > (pn : Int)
        · clear hc hl HA h hs hat hok hpm hpk ea ep epl
          generalize 1 + 2 * s = o at HW d0 d1
          go_enter Tryd.func47, Tryd.ntmps47
          go_wp2_with fail
          refine HW.mono ?_
          rintro _ w1 ⟨rfl, e1⟩
          obtain rfl : w = w1 := e1.symm
          clear e1
          go_wp2_with fail
          refine bodyPost_ret (v := .tuple #[.slice none 0 0, .int .i64 2]) ?_ rfl ⟨rfl, HQ.out⟩
          simp [results, Tryd.results47, go_sem]
        · have g5 : (sdW x y s).h ≥ 0 ∧ (sdW x y s).h ≠ (k : Int) := by
            rcases Classical.em ((sdW x y s).h ≥ 0 ∧ (sdW x y s).h ≠ (k : Int)) with g | g
            · exact g
            · exact (hc (by unfold carE; rw [if_pos ⟨hat, by omega, by rw [ep, epl]; omega, g⟩])).elim
          have g6 : ((sdW x y s).h != (k : Int)) = true := by simpa using g5.2
          have g5 := g5.1
          clear hc hl HA h hs hat hok hpm hpk ea ep epl
          generalize 1 + 2 * s = o at HW d0 d1
          go_enter Tryd.func47, Tryd.ntmps47
          go_wp2_with fail
          refine HW.mono ?_
          rintro _ w1 ⟨rfl, e1⟩
          obtain rfl : w = w1 := e1.symm
          clear e1
          go_wp2_with fail
          refine bodyPost_ret (v := .tuple #[.slice none 0 0, .int .i64 2]) ?_ rfl ⟨rfl, HQ.out⟩
          simp [results, Tryd.results47, go_sem]
end
end Go.Proofs.YtpcickhellkiaaaDoor
