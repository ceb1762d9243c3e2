/-
  The document's link: Clip.
-/
import Derived.Test.YtpcickhellkiaaaDoorLkDbl
namespace Go.Proofs.YtpcickhellkiaaaDoor
open Go.RowKit

theorem BRow.some_ {w : World} {B : Nat} {a : Option Addr} {n c : Nat} {bs : List Int} (h : BRow w B (.slice a n c) bs) (hn : 0 < n) : ∃ pb, a = some ⟨pb, 0, none⟩ ∧ n ≤ c ∧ c ≤ maxLen := by
  have hl := ERow.len h
  rcases ERow.form h with ⟨e, e2⟩ | ⟨g, cap, e, _, _, h1, h2⟩
  · simp only [Value.slice.injEq] at e; omega
  · simp only [Value.slice.injEq] at e
    obtain ⟨rfl, rfl, rfl⟩ := e
    exact ⟨g, rfl, h1, h2⟩
theorem BRow.part {w : World} {B pb n c : Nat} {bs : List Int} (h : BRow w B (.slice (some ⟨pb, 0, none⟩) n c) bs) {i m : Nat} (hi : i + m ≤ n) : Byts w (some ⟨pb, i, none⟩) m ((bs.drop i).take m) := by
  have hl := ERow.len h
  have hb := BRow.byts h
  refine ⟨by rw [List.length_take, List.length_drop]; omega, fun j hj => ?_⟩
  obtain ⟨b, o, e, hlt, hc⟩ := hb.cell (i + j) (by omega)
  simp only [Option.some.injEq, Addr.mk.injEq, and_true] at e
  obtain ⟨rfl, rfl⟩ := e
  refine ⟨pb, i, rfl, hlt, ?_⟩
  rw [Nat.zero_add] at hc
  rw [hc, List.getD_eq_getElem?_getD, List.getD_eq_getElem?_getD, List.getElem?_take, if_pos hj, List.getElem?_drop]
/-- A piece is replaced in its list. -/
theorem set_piece {w w1 : World} {rb o : Nat} {cs : Array Value} {z : Wy} (h : WAt w rb o cs z) {k g : Nat} (hk : k < z.n) (hg : z.a = some ⟨g, 0, none⟩) {a1 : Option Addr} {m k1 : Nat} {bs : List Int} (hB : BRow w1 w.heap.size (.slice a1 m k1) bs) (hb : Below w.heap.size w w1) (hm : m ≤ 8195) :
    w1.cell? ⟨rb, o, none⟩ = some (.slice z.a z.n z.c) ∧ w1.cell? ⟨rb, o + 1, none⟩ = some (.int .i64 z.h) ∧ w1.cell? ⟨g, k, none⟩ = w.cell? ⟨g, k, none⟩ ∧ w1.frozen? ⟨g, k, none⟩ = false ∧ w1.frozen? ⟨rb, o + 1, none⟩ = false ∧ (rb ≠ g) ∧
      WQ w rb o cs z ⟨z.a, z.n, z.c, z.ps.set k ⟨a1, m, k1, bs⟩, z.h⟩ (w1.setCell ⟨g, k, none⟩ (.slice a1 m k1)) ∧
      ∀ h', WQ w rb o cs z ⟨z.a, z.n, z.c, z.ps.set k ⟨a1, m, k1, bs⟩, h'⟩ ((w1.setCell ⟨g, k, none⟩ (.slice a1 m k1)).setCell ⟨rb, o + 1, none⟩ (.int .i64 h')) := by
  have h1 := h.below hb
  have hrl := blk_lt h.blk
  have hs := hb.size
  obtain ⟨za, zn, zc, zp, zh⟩ := z
  simp only at hg hk ⊢
  subst hg
  have hn : zn = zp.length := h.ok.row.len
  have hgl := ERow.lt h.ok.row (g := g) rfl
  have hne : rb ≠ g := by omega
  have r1 : PcRow (w1.setCell ⟨g, k, none⟩ (.slice a1 m k1)) (rb + 1) (.slice (some ⟨g, 0, none⟩) zn zc) (zp.set k ⟨a1, m, k1, bs⟩) := by
    have := erow_set encPc_len h1.ok.row ⟨a1, m, k1, bs⟩ (i := k) (by simp only; omega)
    rw [Nat.mul_one] at this
    exact this
  have o1 : Off (fun q => q = g) w1 (w1.setCell ⟨g, k, none⟩ (.slice a1 m k1)) := Off.setCell (P := fun q => q = g) (Off.refl _ _) (p := ⟨g, k, none⟩) rfl _
  have b1 : (w1.setCell ⟨g, k, none⟩ (.slice a1 m k1)).heap[rb]? = some (.cells cs 59 (0, 0)) := (o1.block rb (by omega) hne).trans h1.blk
  have e1 : (cs.set! o (.slice (some ⟨g, 0, none⟩) zn zc)) = cs := set_same h.c0
  have e2 : cs.set! (o + 1) (.int .i64 zh) = cs := set_same h.c1
  obtain ⟨gc, egc⟩ := row_pc h1.ok.row (g := g) rfl
  have pk : ∀ W P, Off P w1 W → (∀ q, P q → q = g ∨ q = rb) → ∀ p ∈ zp.set k ⟨a1, m, k1, bs⟩, PcOk W (rb + 1) p := fun W P oo hP p hp => by
    have key : PcOk w1 (rb + 1) p := by
      rcases List.mem_or_eq_of_mem_set hp with g | g
      · exact h1.ok.pcs p g
      · subst g; exact ⟨ERow.base hB (by omega), hm⟩
    refine key.off oo fun q cs' hq e => ?_
    rcases hP q e with rfl | rfl
    · rw [hq] at egc
      simp at egc
    · rw [h1.blk] at hq
      simp at hq
  have nP : ∀ hh, NewP w ⟨some ⟨g, 0, none⟩, zn, zc, zp, zh⟩ ⟨some ⟨g, 0, none⟩, zn, zc, zp.set k ⟨a1, m, k1, bs⟩, hh⟩ := fun hh p hp => by
    rcases List.mem_or_eq_of_mem_set hp with g | g
    · exact Or.inl g
    · subst g; exact Or.inr fun g hg => (ERow.lt hB hg).1
  have l1 : (zp.set k ⟨a1, m, k1, bs⟩).length ≤ 256 := by rw [List.length_set]; exact h.ok.len
  refine ⟨(hcell h1.blk o).trans h.c0, (hcell h1.blk _).trans h.c1, hb.cell (p := ⟨g, k, none⟩) (by show g < _; omega), ERow.thaw h1.ok.row k, hfroz h1.blk _, hne, ⟨?_, ⟨r1, pk _ _ o1 fun q e => Or.inl e, l1⟩, ?_, fun g' hg' => Or.inl hg', nP _⟩, fun h' => ?_⟩
  · rw [e1, e2]; exact b1
  · exact (Off.of_below hb).trans (o1.mono fun q e => Or.inr (by rw [e]; rfl))
  · have o2 : Off (fun q => q = g ∨ q = rb) w1 ((w1.setCell ⟨g, k, none⟩ (.slice a1 m k1)).setCell ⟨rb, o + 1, none⟩ (.int .i64 h')) := Off.setCell (P := fun q => q = g ∨ q = rb) (o1.mono fun q e => Or.inl e) (p := ⟨rb, o + 1, none⟩) (Or.inr rfl) _
    have o3 : Off (fun q => q = rb) (w1.setCell ⟨g, k, none⟩ (.slice a1 m k1)) ((w1.setCell ⟨g, k, none⟩ (.slice a1 m k1)).setCell ⟨rb, o + 1, none⟩ (.int .i64 h')) := Off.setCell (P := fun q => q = rb) (Off.refl _ _) (p := ⟨rb, o + 1, none⟩) rfl _
    refine ⟨?_, ⟨ERow.off r1 o3 fun g' hg' e => ?_, pk _ _ o2 fun q e => e, l1⟩, ?_, fun g' hg' => Or.inl hg', nP _⟩
    · rw [e1]; exact set_heap b1 (o + 1) _
    · have := (ERow.lt r1 hg').1; omega
    · exact (Off.of_below hb).trans (o2.mono fun q e => e.elim (fun e => Or.inr (by rw [e]; rfl)) Or.inl)
section
variable {w w' : World} {rb s : Nat} {x y z' : Wy} {c' : Sd}
set_option maxRecDepth 100000 in
set_option maxHeartbeats 4000000 in
theorem rclip_ok (h : RLk w rb x y) (hs : s < 2) (k n : Nat) (hk : k < (sdW x y s).n) (hn1 : 1 ≤ n) (hn2 : n ≤ (pcAt (sdOf (sdW x y s)) (k : Int)).length) : Calls Tryd.prog 50 #[.pointer (some ⟨rb, 0, none⟩), .int .i64 (s : Int), .int .i64 (k : Int), .int .i64 (n : Int)] w fun e w' => e = .returned (.int .i64 0) ∧ Hid (RQ w rb x y s (clipC (sdOf (sdW x y s)) k n) w') := by
  have HW := rway_ok h hs
  have HA := h.at_ hs
  have hl := HA.len
  have d0 : w.cell? ⟨rb, 1 + 2 * s, none⟩ = some (.slice (sdW x y s).a (sdW x y s).n (sdW x y s).c) := (hcell HA.blk _).trans HA.c0
  obtain ⟨p, g, hpm, hpk, ea, d2, hok, ep, epl, hg1, hg2⟩ := HA.piece hk
  rw [ep, epl] at hn2
  obtain ⟨pa, pn, pc, pbs⟩ := p
  simp only at hn2 d2 ep epl
  have hok1 : BRow w (rb + 1) (.slice pa pn pc) pbs := hok.1
  have hp6 : pn ≤ 8195 := hok.2
  clear hok
  obtain ⟨pb, rfl, hpc, hpx⟩ := BRow.some_ hok1 (by omega)
  have hnc : n ≤ pc := by omega
  have hby : Byts w (some ⟨pb, 0, none⟩) n (pbs.take n) := by have := BRow.part hok1 (i := 0) (m := n) (by omega); simpa using this
  have hat : isAt (sdOf (sdW x y s)) (k : Int) = true := isAt_iff.2 (by rw [hl.1]; omega)
  have eC : clipC (sdOf (sdW x y s)) k n = ((sdOf (sdW x y s)).1.set k (pbs.take n), (sdW x y s).h) := by
    unfold clipC
    rw [if_pos ⟨hat, by omega, by rw [ep, epl]; omega⟩, ep, Int.toNat_natCast, Int.toNat_natCast]
    rfl
  rw [eC]
  have HC : Hid (∀ cc v, Below w.heap.size w v → Calls Tryd.prog 73 #[.slice (some ⟨pb, 0, none⟩) n cc] v fun e w1 => ∃ a1 k1, e = .returned (.slice a1 n k1) ∧ w1.cell? ⟨rb, 1 + 2 * s, none⟩ = some (.slice (some ⟨g, 0, none⟩) (sdW x y s).n (sdW x y s).c) ∧ w1.cell? ⟨g, k, none⟩ = some (.slice (some ⟨pb, 0, none⟩) pn pc) ∧ w1.frozen? ⟨g, k, none⟩ = false ∧ Hid (RQ w rb x y s ((sdOf (sdW x y s)).1.set k (pbs.take n), (sdW x y s).h) (w1.setCell ⟨g, k, none⟩ (.slice a1 n k1)))) :=
    fun cc v hv => (rcopied_any (c := cc) v (hby.below hv) (by omega)).mono fun e w1 ⟨a1, k1, he, hh⟩ => by
      obtain ⟨q1, q2, q3, q4, q5, q6, q7, q8⟩ := set_piece HA hk ea (ERow.base hh.out.1 hv.size) (below_then hv hh.out.2) (by omega)
      rw [ea] at q1
      refine ⟨a1, k1, he, q1, q3.trans d2, q4, RQ.of h hs q7 ?_⟩
      unfold sdOf
      simp [List.map_set]
  rw [ea] at d0
  have hn6 := hl.2
  have g1 : ¬ (k : Int) < 0 := by omega
  have g2 : ¬ (k : Int) ≥ ((sdW x y s).n : Int) := by omega
  have g3 : ¬ (n : Int) < 1 := by omega
  have g4 : ¬ (n : Int) > (pn : Int) := by omega
  clear eC hat hby hok1 ep epl hpm hpk ea hl HA h hs
  generalize (sdW x y s).n = zn at d0 g2 hk hn6 HC
  generalize (sdW x y s).c = zc at d0 HC
  generalize 1 + 2 * s = o at HW HC d0
  go_enter Tryd.func50, Tryd.ntmps50
  go_wp2_with fail
  refine HW.mono ?_
  rintro _ w1 ⟨rfl, e1⟩
  obtain rfl : w = w1 := e1.symm
  clear e1
  go_wp2_with fail
  go_region_law (first | (go_simp; go_at_call 73; refine (HC.out _ _ (Below.drew (Below.refl _ _))).mono ?_; rintro _ w1 ⟨a1, k1, rfl, f1, f2, f3, HF⟩; go_wp2_with fail))
  all_goals (
    go_wp2_with fail
    go_ret
    exact ⟨rfl, HF.out⟩)
end
end Go.Proofs.YtpcickhellkiaaaDoor
