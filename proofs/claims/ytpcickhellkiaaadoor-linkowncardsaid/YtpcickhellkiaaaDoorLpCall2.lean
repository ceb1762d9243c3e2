/-
  The program's link: Double, Carry.
-/
import Derived.Test.YtpcickhellkiaaaDoorLpCall
namespace Go.Proofs.YtpcickhellkiaaaDoor
open Go.RowKit

section
variable {w w' : World} {lb s : Nat} {F : Nat → Prop} {x y : Dw}
set_option maxRecDepth 100000 in
set_option maxHeartbeats 2000000 in
theorem pdbl_ok (h : Lk w lb F x y) (hs : s < 2) (i : Int) : Calls Tryd.prog 21 #[.pointer (some ⟨lb, 0, none⟩), .int .i64 (s : Int), .int .i64 i] w fun e w' => ∃ v, e = .returned v ∧ Hid (EvIs w' v 0 (dblE (sdL (dwS x y s)) i) ∧ LQ w lb F x y s (dblC (sdL (dwS x y s)) i) w') := by
  have HW := way_ok h hs
  have HH := has_any h hs i 0
  have hl := (h.side s).len
  have e2 : (sdL (dwS x y s)).2 = (dwS x y s).h := rfl
  by_cases hi : isAt (sdL (dwS x y s)) i = true
  · have hi' := isAt_iff.1 hi
    rw [hl.2.1] at hi'
    obtain ⟨k, rfl⟩ : ∃ k : Nat, i = k := ⟨i.toNat, by omega⟩
    have eB : hasB (sdL (dwS x y s)) k 0 = true := by unfold hasB; rw [hi]; simp
    rw [eB] at HH
    obtain ⟨p, g, pb, po, hpm, hpk, ea, d1, d2, hok, ep, epl, epa, ebr⟩ := (h.side s).piece (k := k) (by omega)
    have d0 := (h.cell hs).1
    rw [ea] at d0
    have hn6 := hl.2.2.1
    have g2 : (k : Int) < ((dwS x y s).n : Int) := by omega
    have hk : k < (dwS x y s).n := by omega
    by_cases hb : (k : Int) = (dwS x y s).h
    · have HX := no_any (s := s) h 0 2 rfl
      have e3 : ¬ (isAt (sdL (dwS x y s)) (k : Int) = true ∧ (k : Int) ≠ (sdL (dwS x y s)).2) := fun g => g.2 (by rw [e2]; exact hb)
      rw [show dblE (sdL (dwS x y s)) k = 2 by unfold dblE; rw [if_neg e3], show dblC (sdL (dwS x y s)) k = sdL (dwS x y s) by unfold dblC; rw [if_neg e3]]
      rw [ebr, decide_eq_true hb.symm] at d2
      clear h hl hi hi' eB ea hpm hpk hok ep epl epa ebr e3 e2 hb
      generalize (dwS x y s).n = zn at *
      generalize (dwS x y s).c = zc at *
      go_enter Tryd.func21, Tryd.ntmps21
      go_wp2_with fail
      refine HW.mono ?_
      rintro _ w1 ⟨rfl, e1⟩
      obtain rfl : w = w1 := e1.symm
      clear e1
      go_wp2_with fail
      refine HH.mono ?_
      rintro _ w1 ⟨rfl, e1⟩
      obtain rfl : w = w1 := e1.symm
      clear e1
      go_wp2_with fail
      refine HX.mono ?_
      rintro _ w2 ⟨b, rfl, HF⟩
      go_wp2_with fail
      go_ret
      exact ⟨_, rfl, HF.out⟩
    · have HX := padd_any h hs (po := p.a) (m := p.n) (c := p.c) hok.byts hok.n1 hok.n2
      have e3 : isAt (sdL (dwS x y s)) (k : Int) = true ∧ (k : Int) ≠ (sdL (dwS x y s)).2 := ⟨hi, by rw [e2]; exact hb⟩
      rw [show dblE (sdL (dwS x y s)) k = putE (sdL (dwS x y s)) by unfold dblE; rw [if_pos e3], show dblC (sdL (dwS x y s)) k = putC (sdL (dwS x y s)) p.bs by unfold dblC; rw [if_pos e3, ep]]
      rw [ebr, decide_eq_false (fun e => hb e.symm)] at d2
      clear h hl hi hi' eB ea hpm hpk hok ep epl epa ebr e3 e2 hb
      generalize (dwS x y s).n = zn at *
      generalize (dwS x y s).c = zc at *
      go_enter Tryd.func21, Tryd.ntmps21
      go_wp2_with fail
      refine HW.mono ?_
      rintro _ w1 ⟨rfl, e1⟩
      obtain rfl : w = w1 := e1.symm
      clear e1
      go_wp2_with fail
      refine HH.mono ?_
      rintro _ w1 ⟨rfl, e1⟩
      obtain rfl : w = w1 := e1.symm
      clear e1
      go_wp2_with fail
      refine HX.mono ?_
      rintro _ w2 ⟨v, rfl, HF⟩
      go_wp2_with fail
      go_ret
      exact ⟨_, rfl, HF.out⟩
  · have HX := no_any (s := s) h 0 2 rfl
    have eB : hasB (sdL (dwS x y s)) i 0 = false := by unfold hasB; rw [Bool.not_eq_true] at hi; rw [hi]; rfl
    rw [eB] at HH
    have e3 : ¬ (isAt (sdL (dwS x y s)) i = true ∧ i ≠ (sdL (dwS x y s)).2) := fun g => hi g.1
    rw [show dblE (sdL (dwS x y s)) i = 2 by unfold dblE; rw [if_neg e3], show dblC (sdL (dwS x y s)) i = sdL (dwS x y s) by unfold dblC; rw [if_neg e3]]
    clear h hl hi eB e3 e2
    go_enter Tryd.func21, Tryd.ntmps21
    go_wp2_with fail
    refine HW.mono ?_
    rintro _ w1 ⟨rfl, e1⟩
    obtain rfl : w = w1 := e1.symm
    clear e1
    go_wp2_with fail
    refine HH.mono ?_
    rintro _ w1 ⟨rfl, e1⟩
    obtain rfl : w = w1 := e1.symm
    clear e1
    go_wp2_with fail
    refine HX.mono ?_
    rintro _ w2 ⟨b, rfl, HF⟩
    go_wp2_with fail
    go_ret
    exact ⟨_, rfl, HF.out⟩
theorem wait_iff {h i : Int} (h1 : -1 ≤ h) : (h != -1 && h != i) = decide (0 ≤ h ∧ h ≠ i) := by
  by_cases g : h = -1
  · subst g; simp
  · have e : (h != -1) = true := by simpa using g
    rw [e, Bool.true_and]
    by_cases g2 : h = i
    · subst g2; simp
    · have e2 : (h != i) = true := by simpa using g2
      rw [e2]
      symm
      exact decide_eq_true ⟨by omega, g2⟩
set_option maxRecDepth 100000 in
set_option maxHeartbeats 4000000 in
/-- Carry, refused. -/
theorem pcar_no (h : Lk w lb F x y) (hs : s < 2) (i n : Int) (hc : carE (sdL (dwS x y s)) i n ≠ 0) : Calls Tryd.prog 12 #[.pointer (some ⟨lb, 0, none⟩), .int .i64 (s : Int), .int .i64 i, .int .i64 n] w fun e w' => ∃ b, e = .returned (.tuple #[.slice none 0 0, .iface 88 (.pointer (some ⟨b, 0, none⟩))]) ∧ Hid (EvIs w' (.iface 88 (.pointer (some ⟨b, 0, none⟩))) 0 2 ∧ LQ w lb F x y s (sdL (dwS x y s)) w') := by
  have HW := way_ok h hs
  have HH := has_any h hs i n
  have hz := h.side s
  have hl := hz.len
  by_cases hB : hasB (sdL (dwS x y s)) i n = true
  · have h3 := has_at hB
    have hh : 0 ≤ (dwS x y s).h ∧ (dwS x y s).h ≠ i := by
      by_cases g : 0 ≤ (dwS x y s).h ∧ (dwS x y s).h ≠ i
      · exact g
      · exact (hc (by unfold carE; rw [if_pos ⟨h3.1, h3.2.1, h3.2.2, g⟩])).elim
    have HV := waits_any h hs i
    rw [wait_iff (show -1 ≤ (dwS x y s).h from hz.ok.h1), decide_eq_true hh] at HV
    rw [hB] at HH
    have HX : Hid (∀ v, Below w.heap.size w v → Calls Tryd.prog 31 #[.int .i64 0, .int .i64 2] v fun e w' => ∃ b, e = .returned (.iface 88 (.pointer (some ⟨b, 0, none⟩))) ∧ Hid (EvIs w' (.iface 88 (.pointer (some ⟨b, 0, none⟩))) 0 2 ∧ LQ w lb F x y s (sdL (dwS x y s)) w')) := fun v hv => (no_any (s := s) (h.below hv) 0 2 rfl).mono fun e w' ⟨b, e1, e2⟩ => ⟨b, e1, e2.out.1, LQ.from_ hv e2.out.2⟩
    clear h hl hz hc h3 hh hB
    go_enter Tryd.func12, Tryd.ntmps12
    go_wp2_with fail
    refine HW.mono ?_
    rintro _ w1 ⟨rfl, e1⟩
    obtain rfl : w = w1 := e1.symm
    clear e1
    go_wp2_with fail
    refine HH.mono ?_
    rintro _ w1 ⟨rfl, e1⟩
    obtain rfl : w = w1 := e1.symm
    clear e1
    go_wp2_with fail
    refine HV.mono ?_
    rintro _ w2 ⟨rfl, hb⟩
    have HX2 := HX.out w2 hb
    clear hb HX
    go_wp2_with fail
    refine HX2.mono ?_
    rintro _ w3 ⟨b, rfl, HF⟩
    go_wp2_with fail
    refine bodyPost_ret (v := .tuple #[.slice none 0 0, .iface 88 (.pointer (some ⟨b, 0, none⟩))]) ?_ rfl ⟨_, rfl, HF.out⟩
    simp [results, Tryd.results12, go_sem]
  · rw [Bool.not_eq_true] at hB
    rw [hB] at HH
    have HX := no_any (s := s) h 0 2 rfl
    clear h hl hz hc hB
    go_enter Tryd.func12, Tryd.ntmps12
    go_wp2_with fail
    refine HW.mono ?_
    rintro _ w1 ⟨rfl, e1⟩
    obtain rfl : w = w1 := e1.symm
    clear e1
    go_wp2_with fail
    refine HH.mono ?_
    rintro _ w1 ⟨rfl, e1⟩
    obtain rfl : w = w1 := e1.symm
    clear e1
    go_wp2_with fail
    refine HX.mono ?_
    rintro _ w3 ⟨b, rfl, HF⟩
    go_wp2_with fail
    refine bodyPost_ret (v := .tuple #[.slice none 0 0, .iface 88 (.pointer (some ⟨b, 0, none⟩))]) ?_ rfl ⟨_, rfl, HF.out⟩
    simp [results, Tryd.results12, go_sem]
/-- take, whatever is left. -/
theorem take_any (h : Lk w lb F x y) (hs : s < 2) {k n : Nat} (hk : k < (dwS x y s).n) (h1 : 1 ≤ n) (hc : carE (sdL (dwS x y s)) k n = 0) : Calls Tryd.prog 35 #[.pointer (some ⟨lb, s, none⟩), .int .i64 (k : Int), .int .i64 (n : Int)] w fun e w' => ∃ N, e = .returned (.slice (some ⟨N, 0, none⟩) n n) ∧ Hid (BRow w' w.heap.size (.slice (some ⟨N, 0, none⟩) n n) (carR (sdL (dwS x y s)) k n) ∧ LQA w lb F x y s (carC (sdL (dwS x y s)) k n) N w') := by
  have hc' : isAt (sdL (dwS x y s)) k = true ∧ 0 ≤ (n : Int) ∧ (n : Int) ≤ (pcAt (sdL (dwS x y s)) k).length ∧ ¬ (0 ≤ (sdL (dwS x y s)).2 ∧ (sdL (dwS x y s)).2 ≠ k) := by
    unfold carE at hc
    split at hc
    · assumption
    · omega
  by_cases hw : n = (pcAt (sdL (dwS x y s)) (k : Int)).length
  · have hW : carW (sdL (dwS x y s)) k n = true := by unfold carW; simp; omega
    refine (take_whole h hs hk hw).mono fun e w' ⟨N, e1, e2⟩ => ⟨N, e1, ?_⟩
    rw [show carR (sdL (dwS x y s)) k n = pcAt (sdL (dwS x y s)) (k : Int) by unfold carR; rw [if_pos hc, if_pos hW], show carC (sdL (dwS x y s)) k n = goneC (sdL (dwS x y s)) k by unfold carC; rw [if_pos hc, if_pos hW]; rfl]
    exact e2
  · have hW : carW (sdL (dwS x y s)) k n = false := by unfold carW; simp; omega
    refine (take_part h hs hk h1 (by omega) hc'.2.2.2).mono fun e w' ⟨N, e1, e2⟩ => ⟨N, e1, ?_⟩
    rw [show carR (sdL (dwS x y s)) k n = (pcAt (sdL (dwS x y s)) (k : Int)).take n by unfold carR; rw [if_pos hc, hW]; simp, show carC (sdL (dwS x y s)) k n = ((sdL (dwS x y s)).1.set k ((pcAt (sdL (dwS x y s)) (k : Int)).drop n), (k : Int)) by unfold carC; rw [if_pos hc, hW]; simp]
    exact e2
set_option maxRecDepth 100000 in
set_option maxHeartbeats 4000000 in
/-- Carry, done. -/
theorem pcar_yes (h : Lk w lb F x y) (hs : s < 2) (i n : Int) (hc : carE (sdL (dwS x y s)) i n = 0) : Calls Tryd.prog 12 #[.pointer (some ⟨lb, 0, none⟩), .int .i64 (s : Int), .int .i64 i, .int .i64 n] w fun e w' => ∃ N m, e = .returned (.tuple #[.slice (some ⟨N, 0, none⟩) m m, .nilIface]) ∧ Hid (BRow w' w.heap.size (.slice (some ⟨N, 0, none⟩) m m) (carR (sdL (dwS x y s)) i n) ∧ LQA w lb F x y s (carC (sdL (dwS x y s)) i n) N w' ∧ m ≤ 8195) := by
  have HW := way_ok h hs
  have HH := has_any h hs i n
  have hz := h.side s
  have hl := hz.len
  have hc' : isAt (sdL (dwS x y s)) i = true ∧ 0 ≤ n ∧ n ≤ (pcAt (sdL (dwS x y s)) i).length ∧ ¬ (0 ≤ (sdL (dwS x y s)).2 ∧ (sdL (dwS x y s)).2 ≠ i) := by
    have := hc
    unfold carE at this
    split at this
    · assumption
    · omega
  have hi' := isAt_iff.1 hc'.1
  rw [hl.2.1] at hi'
  obtain ⟨k, rfl⟩ : ∃ k : Nat, i = k := ⟨i.toNat, by omega⟩
  obtain ⟨m, rfl⟩ : ∃ m : Nat, n = m := ⟨n.toNat, by omega⟩
  have HV := waits_any h hs k
  rw [wait_iff (show -1 ≤ (dwS x y s).h from hz.ok.h1), show decide (0 ≤ (dwS x y s).h ∧ (dwS x y s).h ≠ k) = false from decide_eq_false hc'.2.2.2] at HV
  have eB : hasB (sdL (dwS x y s)) k m = true := by unfold hasB; rw [hc'.1]; simp; omega
  rw [eB] at HH
  obtain ⟨p, g, pb, po, hpm, hpk, ea, d1, d2, hok, ep, epl, epa, ebr⟩ := hz.piece (k := k) (by omega)
  have hk : k < (dwS x y s).n := by omega
  have hp1 := hok.n1
  have hp2 := hok.n2
  have hn6 := hl.2.2.1
  have g2 : (k : Int) < ((dwS x y s).n : Int) := by omega
  have hmp : m ≤ p.n := by
    have := hc'.2.2.1
    rw [ep, epl] at this
    omega
  by_cases g0 : m = 0
  · subst g0
    have hc2 : carE (sdL (dwS x y s)) k (p.n : Int) = 0 := by unfold carE; rw [if_pos ⟨hc'.1, by omega, by rw [ep, epl]; omega, hc'.2.2.2⟩]
    have hWa : carW (sdL (dwS x y s)) k (0 : Nat) = true := by unfold carW; simp
    have hWb : carW (sdL (dwS x y s)) k (p.n : Int) = true := by unfold carW; rw [ep, epl]; simp
    have eR : carR (sdL (dwS x y s)) k (0 : Nat) = carR (sdL (dwS x y s)) k (p.n : Int) := by unfold carR; rw [if_pos hc, if_pos hc2, if_pos hWa, if_pos hWb]
    have eC : carC (sdL (dwS x y s)) k (0 : Nat) = carC (sdL (dwS x y s)) k (p.n : Int) := by unfold carC; rw [if_pos hc, if_pos hc2, if_pos hWa, if_pos hWb]
    rw [eR, eC]
    have HT : Hid (∀ v, Below w.heap.size w v → v.cell? ⟨lb, s, none⟩ = some (.slice (some ⟨g, 0, none⟩) (dwS x y s).n (dwS x y s).c) ∧ v.cell? ⟨g, k * 2, none⟩ = some (.slice p.a p.n p.c) ∧ Calls Tryd.prog 35 #[.pointer (some ⟨lb, s, none⟩), .int .i64 (k : Int), .int .i64 (p.n : Int)] v fun e w' => ∃ N, e = .returned (.slice (some ⟨N, 0, none⟩) p.n p.n) ∧ Hid (BRow w' w.heap.size (.slice (some ⟨N, 0, none⟩) p.n p.n) (carR (sdL (dwS x y s)) k (p.n : Int)) ∧ LQA w lb F x y s (carC (sdL (dwS x y s)) k (p.n : Int)) N w')) := fun v hv => by
      have hcv := (h.below hv).cell hs
      rw [ea] at hcv
      refine ⟨hcv.1, (hv.cell (p := ⟨g, k * 2, none⟩) (cell_lt d1)).trans d1, (take_any (h.below hv) hs hk hp1 hc2).mono fun e w' ⟨N, e1, e2⟩ => ⟨N, e1, ERow.base e2.out.1 hv.size, ?_⟩⟩
      obtain ⟨F', z', q1, q2, q3, q4, q5⟩ := e2.out.2
      refine ⟨F', z', q1, q2, (Off.of_below hv).trans q3, fun b hb => ?_, q5⟩
      rcases q4 b hb with g' | g'
      · exact Or.inl g'
      · exact Or.inr ⟨Nat.le_trans hv.size g'.1, g'.2⟩
    clear eR eC hc hc2 hWa hWb hc' hi' h hl hz eB hok ep epl ebr ea hpm hpk d1 d2
    generalize carR (sdL (dwS x y s)) k (p.n : Int) = RR at *
    generalize carC (sdL (dwS x y s)) k (p.n : Int) = CC at *
    generalize (dwS x y s).n = zn at *
    generalize (dwS x y s).c = zc at *
    obtain ⟨pa, pn, pc, pbs, pr⟩ := p
    simp only at *
    go_enter Tryd.func12, Tryd.ntmps12
    go_wp2_with fail
    refine HW.mono ?_
    rintro _ w1 ⟨rfl, e1⟩
    obtain rfl : w = w1 := e1.symm
    clear e1
    go_wp2_with fail
    refine HH.mono ?_
    rintro _ w1 ⟨rfl, e1⟩
    obtain rfl : w = w1 := e1.symm
    clear e1
    go_wp2_with fail
    refine HV.mono ?_
    rintro _ w2 ⟨rfl, hb⟩
    obtain ⟨c1, c2, HT2⟩ := HT.out w2 hb
    clear hb HT
    go_wp2_with fail
    refine HT2.mono ?_
    rintro _ w3 ⟨N, rfl, HF⟩
    go_wp2_with fail
    refine bodyPost_ret (v := .tuple #[.slice (some ⟨N, 0, none⟩) pn pn, .nilIface]) ?_ rfl ⟨N, pn, rfl, HF.out.1, HF.out.2, hp2⟩
    simp [results, Tryd.results12, go_sem]
  · have HT : Hid (∀ v, Below w.heap.size w v → Calls Tryd.prog 35 #[.pointer (some ⟨lb, s, none⟩), .int .i64 (k : Int), .int .i64 (m : Int)] v fun e w' => ∃ N, e = .returned (.slice (some ⟨N, 0, none⟩) m m) ∧ Hid (BRow w' w.heap.size (.slice (some ⟨N, 0, none⟩) m m) (carR (sdL (dwS x y s)) k (m : Int)) ∧ LQA w lb F x y s (carC (sdL (dwS x y s)) k (m : Int)) N w')) := fun v hv => by
      refine (take_any (h.below hv) hs hk (by omega) hc).mono fun e w' ⟨N, e1, e2⟩ => ⟨N, e1, ERow.base e2.out.1 hv.size, ?_⟩
      obtain ⟨F', z', q1, q2, q3, q4, q5⟩ := e2.out.2
      refine ⟨F', z', q1, q2, (Off.of_below hv).trans q3, fun b hb => ?_, q5⟩
      rcases q4 b hb with g' | g'
      · exact Or.inl g'
      · exact Or.inr ⟨Nat.le_trans hv.size g'.1, g'.2⟩
    have g1 : ((m : Int) == 0) = false := by simp; exact g0
    have hm6 : m ≤ 8195 := by omega
    clear hc hc' hi' h hl hz eB hok ep epl ebr ea hpm hpk d1 d2 g0
    generalize carR (sdL (dwS x y s)) k (m : Int) = RR at *
    generalize carC (sdL (dwS x y s)) k (m : Int) = CC at *
    go_enter Tryd.func12, Tryd.ntmps12
    go_wp2_with fail
    refine HW.mono ?_
    rintro _ w1 ⟨rfl, e1⟩
    obtain rfl : w = w1 := e1.symm
    clear e1
    go_wp2_with fail
    refine HH.mono ?_
    rintro _ w1 ⟨rfl, e1⟩
    obtain rfl : w = w1 := e1.symm
    clear e1
    go_wp2_with fail
    refine HV.mono ?_
    rintro _ w2 ⟨rfl, hb⟩
    have HT2 := HT.out w2 hb
    clear hb HT
    go_wp2_with fail
    refine HT2.mono ?_
    rintro _ w3 ⟨N, rfl, HF⟩
    go_wp2_with fail
    refine bodyPost_ret (v := .tuple #[.slice (some ⟨N, 0, none⟩) m m, .nilIface]) ?_ rfl ⟨N, m, rfl, HF.out.1, HF.out.2, hm6⟩
    simp [results, Tryd.results12, go_sem]
end
end Go.Proofs.YtpcickhellkiaaaDoor
