/-
  The document's link: Carry.
-/
import Derived.Test.YtpcickhellkiaaaDoorLkClip
namespace Go.Proofs.YtpcickhellkiaaaDoor
open Go.RowKit

section
variable {w w' : World} {rb s : Nat} {x y z' : Wy} {c' : Sd}
theorem RQ.below {w3 : World} (h : RQ w rb x y s c' w') (hb : Below w'.heap.size w' w3) : RQ w rb x y s c' w3 := by
  obtain ⟨z', h1, h2, h3, h4⟩ := h
  exact ⟨z', h1.below hb, h2, h3.trans (Off.of_below hb), h4⟩
/-- Blocks of bytes are neither the link nor a list of pieces. -/
theorem RLk.nb (h : RLk w rb x y) (hs : s < 2) : ∀ q cs, w.heap[q]? = some (.cells cs 5 (0, 0)) → ¬ (q = rb ∨ wyOwn (sdW x y s) = some q) := fun q cs hq e => by
  rcases e with rfl | e
  · rw [h.blk] at hq
    simp at hq
  · obtain ⟨cs2, e2⟩ := row_pc (h.at_ hs).ok.row e
    rw [hq] at e2
    simp at e2
theorem RQ.off (h : RQ w rb x y s c' w') : Off (fun q => q = rb ∨ wyOwn (sdW x y s) = some q) w w' := by
  obtain ⟨z', h1, h2, h3, h4⟩ := h
  exact h3
/-- A copy of some bytes of a piece, taken behind a call. -/
theorem part_copy (h : RLk w rb x y) (hs : s < 2) {pb pn pc : Nat} {pbs : List Int} (hp : BRow w (rb + 1) (.slice (some ⟨pb, 0, none⟩) pn pc) pbs) (h6 : pn ≤ 8195) {i m : Nat} (hi : i + m ≤ pn) (cc : Nat) (hq : RQ w rb x y s c' w') : Calls Tryd.prog 73 #[.slice (some ⟨pb, i, none⟩) m cc] w' fun e w3 => ∃ a k, e = .returned (.slice a m k) ∧ Hid (BRow w3 w.heap.size (.slice a m k) ((pbs.drop i).take m) ∧ RQ w rb x y s c' w3) := by
  have hb : Byts w' (some ⟨pb, i, none⟩) m ((pbs.drop i).take m) := (BRow.part hp hi).off hq.off fun b o e _ => by
    simp only [Option.some.injEq, Addr.mk.injEq, and_true] at e
    obtain ⟨rfl, rfl⟩ := e
    obtain ⟨cs, e⟩ := row_b hp (g := pb) rfl
    exact h.nb hs pb cs e
  exact (rcopied_any (c := cc) w' hb (by omega)).mono fun e w3 ⟨a, k, e1, e2⟩ => ⟨a, k, e1, ERow.base e2.out.1 hq.off.size, hq.below e2.out.2⟩
set_option maxRecDepth 100000 in
set_option maxHeartbeats 4000000 in
theorem rcar_whole (h : RLk w rb x y) (hs : s < 2) (ho : SdOk (sdOf (sdW x y s))) (k n : Nat) (hk : k < (sdW x y s).n) (hc : carE (sdOf (sdW x y s)) k n = 0) (hw : carW (sdOf (sdW x y s)) k n = true) : Calls Tryd.prog 47 #[.pointer (some ⟨rb, 0, none⟩), .int .i64 (s : Int), .int .i64 (k : Int), .int .i64 (n : Int)] w fun e w' => ∃ a m c, e = .returned (.tuple #[.slice a m c, .int .i64 0]) ∧ Hid (BRow w' w.heap.size (.slice a m c) (carR (sdOf (sdW x y s)) k n) ∧ RQ w rb x y s (carC (sdOf (sdW x y s)) k n) w') := by
  have HW := rway_ok h hs
  have HA := h.at_ hs
  have hl := HA.len
  have d0 : w.cell? ⟨rb, 1 + 2 * s, none⟩ = some (.slice (sdW x y s).a (sdW x y s).n (sdW x y s).c) := (hcell HA.blk _).trans HA.c0
  have d1 : w.cell? ⟨rb, 1 + 2 * s + 1, none⟩ = some (.int .i64 (sdW x y s).h) := (hcell HA.blk _).trans HA.c1
  obtain ⟨p, g, hpm, hpk, ea, d2, hok, ep, epl, hg1, hg2⟩ := HA.piece hk
  have eR : carR (sdOf (sdW x y s)) k n = p.bs := by unfold carR; rw [if_pos hc, if_pos hw, ep]
  have eC : carC (sdOf (sdW x y s)) k n = goneC (sdOf (sdW x y s)) k := by unfold carC; rw [if_pos hc, if_pos hw]; rfl
  have hpl : 1 ≤ p.n := by
    have := (ho.pcs p.bs (List.mem_map.2 ⟨p, hpm, rfl⟩)).1
    omega
  have hcc : (n : Int) ≤ p.n ∧ ¬ (0 ≤ (sdW x y s).h ∧ (sdW x y s).h ≠ k) := by
    unfold carE at hc
    rw [ep, epl] at hc
    by_cases g : isAt (sdOf (sdW x y s)) (k : Int) = true ∧ 0 ≤ (n : Int) ∧ (n : Int) ≤ p.n ∧ ¬ (0 ≤ (sdOf (sdW x y s)).2 ∧ (sdOf (sdW x y s)).2 ≠ k)
    · exact ⟨g.2.2.1, g.2.2.2⟩
    · rw [if_neg g] at hc; omega
  have hww : n = 0 ∨ n = p.n := by
    unfold carW at hw
    rw [ep, epl] at hw
    simp at hw
    omega
  rw [eR, eC]
  obtain ⟨pa, pn, pc, pbs⟩ := p
  have hok1 : BRow w (rb + 1) (.slice pa pn pc) pbs := hok.1
  have hp6 : pn ≤ 8195 := hok.2
  simp only at d2 epl hpl hcc hww
  obtain ⟨pb, rfl, hpc, hpx⟩ := BRow.some_ hok1 (by omega)
  have HG := rgone_any h hs ho (k := k) hk
  have HC : Hid (∀ c v, Hid (RQ w rb x y s (goneC (sdOf (sdW x y s)) k) v) → Calls Tryd.prog 73 #[.slice (some ⟨pb, 0, none⟩) pn c] v fun e w3 => ∃ a k', e = .returned (.slice a pn k') ∧ Hid (BRow w3 w.heap.size (.slice a pn k') pbs ∧ RQ w rb x y s (goneC (sdOf (sdW x y s)) k) w3)) := fun c v hv => (part_copy h hs hok1 hp6 (i := 0) (m := pn) (by omega) c hv.out).mono fun e w3 ⟨a, k', e1, e2⟩ => ⟨a, k', e1, by
    have := e2.out
    rw [List.drop_zero, List.take_of_length_le (by omega)] at this
    exact this⟩
  rw [ea] at d0
  have hn6 := hl.2
  have g1 : ¬ (k : Int) < 0 := by omega
  have g2 : ¬ (k : Int) ≥ ((sdW x y s).n : Int) := by omega
  have g3 : ¬ (n : Int) < 0 := by omega
  have g4 : ¬ (n : Int) > (pn : Int) := by omega
  have hh := hcc.2
  clear eC eR hok hok1 ep epl hpm hpk ea hl HA h hs hc hw hcc ho
  generalize (sdW x y s).n = zn at d0 g2 hk hn6
  generalize (sdW x y s).c = zc at d0
  generalize (sdW x y s).h = zh at d1 hh
  generalize 1 + 2 * s = o at HW HG d0 d1
  by_cases g5 : zh ≥ 0
  · have g6 : (zh != (k : Int)) = false := by simp; omega
    clear hh
    rcases hww with rfl | rfl
    · go_enter Tryd.func47, Tryd.ntmps47
      go_wp2_with fail
      refine HW.mono ?_
      rintro _ w1 ⟨rfl, e1⟩
      obtain rfl : w = w1 := e1.symm
      clear e1
      go_wp2_with fail
      refine HG.mono ?_
      rintro _ w2 ⟨rfl, HF⟩
      go_wp2_with fail
      refine (HC.out _ _ HF).mono ?_
      rintro _ w3 ⟨a3, k3, rfl, HZ⟩
      go_wp2_with fail
      refine bodyPost_ret (v := .tuple #[.slice a3 pn k3, .int .i64 0]) ?_ rfl ⟨a3, pn, k3, rfl, HZ.out⟩
      simp [results, Tryd.results47, go_sem]
    · have g7 : ((n : Int) == 0) = false := by simp; omega
      go_enter Tryd.func47, Tryd.ntmps47
      go_wp2_with fail
      refine HW.mono ?_
      rintro _ w1 ⟨rfl, e1⟩
      obtain rfl : w = w1 := e1.symm
      clear e1
      go_wp2_with fail
      refine HG.mono ?_
      rintro _ w2 ⟨rfl, HF⟩
      go_wp2_with fail
      refine (HC.out _ _ HF).mono ?_
      rintro _ w3 ⟨a3, k3, rfl, HZ⟩
      go_wp2_with fail
      refine bodyPost_ret (v := .tuple #[.slice a3 n k3, .int .i64 0]) ?_ rfl ⟨a3, n, k3, rfl, HZ.out⟩
      simp [results, Tryd.results47, go_sem]
  · clear hh
    rcases hww with rfl | rfl
    · go_enter Tryd.func47, Tryd.ntmps47
      go_wp2_with fail
      refine HW.mono ?_
      rintro _ w1 ⟨rfl, e1⟩
      obtain rfl : w = w1 := e1.symm
      clear e1
      go_wp2_with fail
      refine HG.mono ?_
      rintro _ w2 ⟨rfl, HF⟩
      go_wp2_with fail
      refine (HC.out _ _ HF).mono ?_
      rintro _ w3 ⟨a3, k3, rfl, HZ⟩
      go_wp2_with fail
      refine bodyPost_ret (v := .tuple #[.slice a3 pn k3, .int .i64 0]) ?_ rfl ⟨a3, pn, k3, rfl, HZ.out⟩
      simp [results, Tryd.results47, go_sem]
    · have g7 : ((n : Int) == 0) = false := by simp; omega
      go_enter Tryd.func47, Tryd.ntmps47
      go_wp2_with fail
      refine HW.mono ?_
      rintro _ w1 ⟨rfl, e1⟩
      obtain rfl : w = w1 := e1.symm
      clear e1
      go_wp2_with fail
      refine HG.mono ?_
      rintro _ w2 ⟨rfl, HF⟩
      go_wp2_with fail
      refine (HC.out _ _ HF).mono ?_
      rintro _ w3 ⟨a3, k3, rfl, HZ⟩
      go_wp2_with fail
      refine bodyPost_ret (v := .tuple #[.slice a3 n k3, .int .i64 0]) ?_ rfl ⟨a3, n, k3, rfl, HZ.out⟩
      simp [results, Tryd.results47, go_sem]
end
end Go.Proofs.YtpcickhellkiaaaDoor
