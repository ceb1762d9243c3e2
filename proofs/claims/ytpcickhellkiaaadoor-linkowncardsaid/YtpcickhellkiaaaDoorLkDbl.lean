/-
  The document's link: Double.
-/
import Derived.Test.YtpcickhellkiaaaDoorLkMore
namespace Go.Proofs.YtpcickhellkiaaaDoor
open Go.RowKit

section
variable {w w' : World} {rb s : Nat} {x y z' : Wy} {c' : Sd}
/-- The piece at a place: where it lies. -/
theorem WAt.piece {o : Nat} {cs : Array Value} {z : Wy} (h : WAt w rb o cs z) {k : Nat} (hk : k < z.n) : ∃ p g, p ∈ z.ps ∧ z.ps[k]? = some p ∧ z.a = some ⟨g, 0, none⟩ ∧ w.cell? ⟨g, k, none⟩ = some (.slice p.a p.n p.c) ∧ PcOk w (rb + 1) p ∧ pcAt (sdOf z) (k : Int) = p.bs ∧ p.bs.length = p.n ∧ rb < g ∧ g < w.heap.size := by
  have hn := h.ok.row.len
  obtain ⟨p, hp⟩ : ∃ p, z.ps[k]? = some p := ⟨_, List.getElem?_eq_getElem (by omega)⟩
  obtain ⟨g, eg, hg, hc⟩ := ERow.at_ encPc_len h.ok.row hp
  have d1 := hc 0 (by decide)
  simp only [encPc, List.getElem?_cons_zero, Nat.mul_one, Nat.add_zero] at d1
  have hm := List.mem_of_getElem? hp
  have hok := h.ok.pcs p hm
  have ho : (Value.slice z.a z.n z.c).ownBlock = some g := by rw [eg]; rfl
  refine ⟨p, g, hm, hp, eg, d1, hok, ?_, (ERow.len hok.1).symm, by have := (ERow.lt h.ok.row ho).1; omega, hg⟩
  unfold pcAt sdOf
  rw [Int.toNat_natCast, List.getD_eq_getElem?_getD, List.getElem?_map, hp]
  rfl
set_option maxRecDepth 100000 in
set_option maxHeartbeats 2000000 in
theorem rdbl_any (h : RLk w rb x y) (hs : s < 2) (i : Int) : Calls Tryd.prog 49 #[.pointer (some ⟨rb, 0, none⟩), .int .i64 (s : Int), .int .i64 i] w fun e w' => e = .returned (.int .i64 (dblE (sdOf (sdW x y s)) i)) ∧ Hid (RQ w rb x y s (dblC (sdOf (sdW x y s)) i) w') := by
  have HW := rway_ok h hs
  have HA := h.at_ hs
  have hl := HA.len
  have d0 : w.cell? ⟨rb, 1 + 2 * s, none⟩ = some (.slice (sdW x y s).a (sdW x y s).n (sdW x y s).c) := (hcell HA.blk _).trans HA.c0
  have d1 : w.cell? ⟨rb, 1 + 2 * s + 1, none⟩ = some (.int .i64 (sdW x y s).h) := (hcell HA.blk _).trans HA.c1
  have e2 : (sdOf (sdW x y s)).2 = (sdW x y s).h := rfl
  by_cases hc : isAt (sdOf (sdW x y s)) i = true ∧ i ≠ (sdW x y s).h
  · have hi' := isAt_iff.1 hc.1
    rw [hl.1] at hi'
    obtain ⟨k, rfl⟩ : ∃ k : Nat, i = k := ⟨i.toNat, by omega⟩
    obtain ⟨p, g, _, _, ea, d2, hok, ep, _, _, _⟩ := HA.piece (k := k) (by omega)
    have eE : dblE (sdOf (sdW x y s)) (k : Int) = putE (sdOf (sdW x y s)) := by unfold dblE; rw [e2, if_pos hc]
    have eC : dblC (sdOf (sdW x y s)) (k : Int) = putC (sdOf (sdW x y s)) p.bs := by unfold dblC; rw [e2, if_pos hc, ep]
    have HG := rput_any h hs (po := p.a) (m := p.n) (c := p.c) (BRow.byts hok.1) hok.2
    rw [eE, eC]
    have g1 : ¬ (k : Int) < 0 := by omega
    have g2 : ¬ (k : Int) ≥ ((sdW x y s).n : Int) := by omega
    have g2' : (k : Int) < ((sdW x y s).n : Int) := by omega
    have g3 : ((k : Int) == (sdW x y s).h) = false := by simp; exact hc.2
    rw [ea] at d0
    have hk : k < (sdW x y s).n := by omega
    have hn6 := hl.2
    clear eE eC e2 hc hi' hl HA h hok ep ea
    generalize (sdW x y s).n = zn at d0 g2 g2' hk hn6
    generalize (sdW x y s).c = zc at d0
    generalize (sdW x y s).h = zh at d1 g3
    generalize 1 + 2 * s = o at HW HG d0 d1
    go_enter Tryd.func49, Tryd.ntmps49
    go_wp2_with fail
    refine HW.mono ?_
    rintro _ _ ⟨rfl, rfl⟩
    go_wp2_with fail
    refine HG.mono ?_
    rintro _ w2 ⟨rfl, HF⟩
    go_wp2_with fail
    go_ret
    exact ⟨rfl, HF.out⟩
  · have HQ : Hid (RQ w rb x y s (dblC (sdOf (sdW x y s)) i) w) := RQ.same h (by unfold dblC; rw [e2, if_neg hc])
    have eE : dblE (sdOf (sdW x y s)) i = 2 := by unfold dblE; rw [e2, if_neg hc]
    rw [eE]
    have hi' : ¬ ((0 ≤ i ∧ i < ((sdW x y s).n : Int)) ∧ i ≠ (sdW x y s).h) := fun g => hc ⟨isAt_iff.2 (by rw [hl.1]; exact g.1), g.2⟩
    by_cases g0 : i < 0
    · clear eE hc hi' hl HA h e2
      generalize 1 + 2 * s = o at HW d0 d1
      go_enter Tryd.func49, Tryd.ntmps49
      go_wp2_with fail
      refine HW.mono ?_
      rintro _ _ ⟨rfl, rfl⟩
      go_wp2_with fail
      go_ret
      exact ⟨rfl, HQ.out⟩
    · by_cases g2 : i ≥ ((sdW x y s).n : Int)
      · clear eE hc hi' hl HA h e2
        generalize 1 + 2 * s = o at HW d0 d1
        go_enter Tryd.func49, Tryd.ntmps49
        go_wp2_with fail
        refine HW.mono ?_
        rintro _ _ ⟨rfl, rfl⟩
        go_wp2_with fail
        go_ret
        exact ⟨rfl, HQ.out⟩
      · have g3 : (i == (sdW x y s).h) = true := by simp; omega
        clear eE hc hi' hl HA h e2
        generalize 1 + 2 * s = o at HW d0 d1
        go_enter Tryd.func49, Tryd.ntmps49
        go_wp2_with fail
        refine HW.mono ?_
        rintro _ _ ⟨rfl, rfl⟩
        go_wp2_with fail
        go_ret
        exact ⟨rfl, HQ.out⟩
end
end Go.Proofs.YtpcickhellkiaaaDoor
