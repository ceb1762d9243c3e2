/-
  The program's link: a side's take, clip.
-/
import Derived.Test.YtpcickhellkiaaaDoorLpRem2
namespace Go.Proofs.YtpcickhellkiaaaDoor
open Go.RowKit

theorem Byts.part {w : World} {b o n : Nat} {bs : List Int} (h : Byts w (some ⟨b, o, none⟩) n bs) {i m : Nat} (hi : i + m ≤ n) : Byts w (some ⟨b, o + i, none⟩) m ((bs.drop i).take m) := by
  have hl := h.len
  refine ⟨by rw [List.length_take, List.length_drop]; omega, fun j hj => ?_⟩
  obtain ⟨b', o', e, hlt, hc⟩ := h.cell (i + j) (by omega)
  simp only [Option.some.injEq, Addr.mk.injEq, and_true] at e
  obtain ⟨rfl, rfl⟩ := e
  refine ⟨b, o + i, rfl, hlt, ?_⟩
  rw [show o + i + j = o + (i + j) by omega, hc, List.getD_eq_getElem?_getD, List.getD_eq_getElem?_getD, List.getElem?_take, if_pos hj, List.getElem?_drop]
/-- What a call leaves that answers a text in block g: the link has nothing there. -/
def LQA (w : World) (lb : Nat) (F : Nat → Prop) (x y : Dw) (s : Nat) (c' : Sd) (g : Nat) (w' : World) : Prop :=
  ∃ F' z', Lk w' lb F' (dX x z' s) (dY y z' s) ∧ sdL z' = c' ∧ Off (fun q => q = lb) w w' ∧ (∀ b, F' b → F b ∨ (w.heap.size ≤ b ∧ b < w'.heap.size)) ∧ ¬ F' g
section
variable {w w' w1 : World} {lb s : Nat} {F : Nat → Prop} {x y : Dw} {c' : Sd}
theorem LQ.ans {w3 : World} (h : LQ w lb F x y s c' w1) (hb : Below w1.heap.size w1 w3) {g : Nat} (hg : w1.heap.size ≤ g) : LQA w lb F x y s c' g w3 := by
  obtain ⟨F', z', h1, h2, h3, h4⟩ := h
  refine ⟨F', z', h1.below hb, h2, h3.trans (Off.of_below hb), fun b hb' => ?_, fun e => ?_⟩
  · rcases h4 b hb' with g' | g'
    · exact Or.inl g'
    · exact Or.inr ⟨g'.1, Nat.lt_of_lt_of_le g'.2 hb.size⟩
  · have := h1.lt g e
    omega
theorem LQ.off (h : LQ w lb F x y s c' w') : Off (fun q => q = lb) w w' := by
  obtain ⟨F', z', h1, h2, h3, h4⟩ := h
  exact h3
/-- The first bytes of a piece, told behind a change of its list. -/
theorem take_fresh (h : Lk w lb F x y) {p : Pp} (hp : PpOk w F p) {pb po : Nat} (ea : p.a = some ⟨pb, po, none⟩) {n : Nat} (h1 : 1 ≤ n) (hn : n ≤ p.n) (cc : Nat) (hq : LQ w lb F x y s c' w') : Calls Tryd.prog 38 #[.slice (some ⟨pb, po, none⟩) n cc] w' fun e w3 => ∃ N, e = .returned (.slice (some ⟨N, 0, none⟩) n n) ∧ Hid (BRow w3 w.heap.size (.slice (some ⟨N, 0, none⟩) n n) (p.bs.take n) ∧ LQA w lb F x y s c' N w3) := by
  have hb : Byts w (some ⟨pb, po, none⟩) n (p.bs.take n) := by
    have := hp.byts
    rw [ea] at this
    have := this.part (i := 0) (m := n) (by omega)
    simpa using this
  obtain ⟨b', o', e', hF⟩ := hp.at_
  rw [ea] at e'
  simp only [Option.some.injEq, Addr.mk.injEq, and_true] at e'
  have hb2 := hb.off hq.off (fun b q e _ => by
    simp only [Option.some.injEq, Addr.mk.injEq, and_true] at e
    rw [← e.1, e'.1]
    exact fun e2 => h.nl (e2 ▸ hF))
  have h2 := hp.n2
  exact (fresh_any (c := cc) w' hb2 h1 (by omega)).mono fun e w3 ⟨e1, e2⟩ => ⟨_, e1, ERow.base e2.out.1 hq.off.size, hq.ans e2.out.2 (Nat.le_refl _)⟩
set_option maxRecDepth 100000 in
set_option maxHeartbeats 4000000 in
theorem take_whole (h : Lk w lb F x y) (hs : s < 2) {k n : Nat} (hk : k < (dwS x y s).n) (hn : n = (pcAt (sdL (dwS x y s)) (k : Int)).length) : Calls Tryd.prog 35 #[.pointer (some ⟨lb, s, none⟩), .int .i64 (k : Int), .int .i64 (n : Int)] w fun e w' => ∃ N, e = .returned (.slice (some ⟨N, 0, none⟩) n n) ∧ Hid (BRow w' w.heap.size (.slice (some ⟨N, 0, none⟩) n n) (pcAt (sdL (dwS x y s)) (k : Int)) ∧ LQA w lb F x y s (goneC (sdL (dwS x y s)) k) N w') := by
  have hz := h.side s
  have hl := hz.len
  obtain ⟨p, g, pb, po, hpm, hpk, ea, d1, d2, hok, ep, epl, epa, ebr⟩ := hz.piece hk
  have d0 := (h.cell hs).1
  rw [ea] at d0
  have HR := prem_ok h hs hk
  rw [ep]
  rw [ep, epl] at hn
  have h1 := hok.n1
  have h2 := hok.n2
  have hc1 := hok.c1
  have HC : Hid (∀ cc v, Hid (LQ w lb F x y s (goneC (sdL (dwS x y s)) k) v) → Calls Tryd.prog 38 #[.slice (some ⟨pb, po, none⟩) n cc] v fun e w3 => ∃ N, e = .returned (.slice (some ⟨N, 0, none⟩) n n) ∧ Hid (BRow w3 w.heap.size (.slice (some ⟨N, 0, none⟩) n n) p.bs ∧ LQA w lb F x y s (goneC (sdL (dwS x y s)) k) N w3)) := fun cc v hv => (take_fresh h hok epa (n := n) (by omega) (by omega) cc hv.out).mono fun e w3 ⟨N, e1, e2⟩ => ⟨N, e1, by
    have := e2.out
    rw [List.take_of_length_le (by omega)] at this
    exact this⟩
  obtain ⟨pa, pn, pc, pbs, pr⟩ := p
  simp only at *
  subst epa
  subst hn
  have hn6 := hl.2.2.1
  have g2 : (k : Int) < ((dwS x y s).n : Int) := by omega
  clear ep epl hok hl hz h ea hpm hpk
  generalize goneC (sdL (dwS x y s)) k = cs' at *
  generalize (dwS x y s).n = zn at *
  generalize (dwS x y s).c = zc at *
  go_enter Tryd.func35, Tryd.ntmps35
  go_wp2_with fail
  refine HR.mono ?_
  rintro _ w1 ⟨rfl, HF⟩
  go_wp2_with fail
  refine (HC.out _ _ HF).mono ?_
  rintro _ w3 ⟨N, rfl, HZ⟩
  go_wp2_with fail
  go_ret
  exact ⟨N, rfl, HZ.out⟩
set_option maxRecDepth 100000 in
set_option maxHeartbeats 4000000 in
theorem take_part (h : Lk w lb F x y) (hs : s < 2) {k n : Nat} (hk : k < (dwS x y s).n) (h1 : 1 ≤ n) (hn : n < (pcAt (sdL (dwS x y s)) (k : Int)).length) (hh : ¬ (0 ≤ (dwS x y s).h ∧ (dwS x y s).h ≠ (k : Int))) : Calls Tryd.prog 35 #[.pointer (some ⟨lb, s, none⟩), .int .i64 (k : Int), .int .i64 (n : Int)] w fun e w' => ∃ N, e = .returned (.slice (some ⟨N, 0, none⟩) n n) ∧ Hid (BRow w' w.heap.size (.slice (some ⟨N, 0, none⟩) n n) ((pcAt (sdL (dwS x y s)) (k : Int)).take n) ∧ LQA w lb F x y s ((sdL (dwS x y s)).1.set k ((pcAt (sdL (dwS x y s)) (k : Int)).drop n), (k : Int)) N w') := by
  have hz := h.side s
  have hl := hz.len
  obtain ⟨p, g, pb, po, hpm, hpk, ea, d1, d2, hok, ep, epl, epa, ebr⟩ := hz.piece hk
  have d0 := (h.cell hs).1
  rw [ea] at d0
  rw [ep, epl] at hn
  have h2 := hok.n2
  have hc1 := hok.c1
  have hq : PpOk w F ⟨some ⟨pb, po + n, none⟩, p.n - n, p.n - n, p.bs.drop n, true⟩ := by
    have hb := hok.byts
    rw [epa] at hb
    have hb2 := hb.part (i := n) (m := p.n - n) (by omega)
    rw [List.take_of_length_le (by rw [List.length_drop]; omega)] at hb2
    obtain ⟨b', o', e', hF⟩ := hok.at_
    rw [epa] at e'
    simp only [Option.some.injEq, Addr.mk.injEq, and_true] at e'
    exact ⟨hb2, ⟨pb, _, rfl, by rw [e'.1]; exact hF⟩, by show 1 ≤ p.n - n; omega, by show p.n - n ≤ 8195; omega, Nat.le_refl _, by show p.n - n ≤ maxLen; unfold maxLen; omega⟩
  have eC : (((dwS x y s).ps.set k ⟨some ⟨pb, po + n, none⟩, p.n - n, p.n - n, p.bs.drop n, true⟩).map (·.bs), (k : Int)) = ((sdL (dwS x y s)).1.set k (p.bs.drop n), (k : Int)) := by
    rw [List.map_set]; rfl
  have hok2 : SdOk ((sdL (dwS x y s)).1.set k (p.bs.drop n), (k : Int)) := by
    have hat : isAt (sdL (dwS x y s)) (k : Int) = true := isAt_iff.2 (by rw [hl.2.1]; omega)
    have hE : carE (sdL (dwS x y s)) k n = 0 := by
      unfold carE
      rw [if_pos ⟨hat, by omega, by rw [ep, epl]; omega, hh⟩]
    have hW : carW (sdL (dwS x y s)) k n = false := by
      unfold carW
      rw [ep, epl]
      simp
      omega
    have := hz.ok.car (i := (k : Int)) (n := (n : Int))
    unfold carC at this
    rw [if_pos hE, hW, ep, Int.toNat_natCast, Int.toNat_natCast] at this
    simpa using this
  have HR := prep_ok h hs hk ⟨some ⟨pb, po + n, none⟩, p.n - n, p.n - n, p.bs.drop n, true⟩ hq (h' := (k : Int)) (fun j q hj => by
    rw [List.getElem?_set] at hj
    split at hj
    · rename_i e
      subst e
      split at hj
      · simp only [Option.some.injEq] at hj
        subst hj
        simp
      · cases hj
    · rename_i e
      rw [hz.br j q hj]
      refine decide_eq_decide.2 ?_
      omega) (by rw [eC]; exact hok2)
  rw [eC] at HR
  rw [ep]
  have HC : Hid (∀ cc v, Hid (LQ w lb F x y s ((sdL (dwS x y s)).1.set k (p.bs.drop n), (k : Int)) v) → Calls Tryd.prog 38 #[.slice (some ⟨pb, po, none⟩) n cc] v fun e w3 => ∃ N, e = .returned (.slice (some ⟨N, 0, none⟩) n n) ∧ Hid (BRow w3 w.heap.size (.slice (some ⟨N, 0, none⟩) n n) (p.bs.take n) ∧ LQA w lb F x y s ((sdL (dwS x y s)).1.set k (p.bs.drop n), (k : Int)) N w3)) := fun cc v hv => take_fresh h hok epa h1 (by omega) cc hv.out
  clear eC hok2 hq
  generalize ((sdL (dwS x y s)).1.set k (p.bs.drop n), (k : Int)) = cs' at *
  obtain ⟨pa, pn, pc, pbs, pr⟩ := p
  simp only at *
  subst epa
  have hn6 := hl.2.2.1
  have g2 : (k : Int) < ((dwS x y s).n : Int) := by omega
  have g3 : ((n : Int) == (pn : Int)) = false := by simp; omega
  have g4 : n ≤ pn := by omega
  have g5 : ¬ pn = n := by omega
  have g6 : n ≤ pc := by omega
  clear ep epl hok hl hz h ea hpm hpk ebr hh
  generalize (dwS x y s).n = zn at *
  generalize (dwS x y s).c = zc at *
  go_enter Tryd.func35, Tryd.ntmps35
  go_wp2_with fail
  refine HR.mono ?_
  rintro _ w1 ⟨rfl, HF⟩
  go_wp2_with fail
  refine (HC.out _ _ HF).mono ?_
  rintro _ w3 ⟨N, rfl, HZ⟩
  go_wp2_with fail
  go_ret
  exact ⟨N, rfl, HZ.out⟩
set_option maxRecDepth 100000 in
set_option maxHeartbeats 4000000 in
theorem pclip_ok (h : Lk w lb F x y) (hs : s < 2) {k n : Nat} (hk : k < (dwS x y s).n) (h1 : 1 ≤ n) (hn : n ≤ (pcAt (sdL (dwS x y s)) (k : Int)).length) : Calls Tryd.prog 44 #[.pointer (some ⟨lb, s, none⟩), .int .i64 (k : Int), .int .i64 (n : Int)] w fun e w' => e = .returned (.tuple #[]) ∧ Hid (LQ w lb F x y s (clipC (sdL (dwS x y s)) k n) w') := by
  have hz := h.side s
  have hl := hz.len
  obtain ⟨p, g, pb, po, hpm, hpk, ea, d1, d2, hok, ep, epl, epa, ebr⟩ := hz.piece hk
  have d0 := (h.cell hs).1
  rw [ea] at d0
  have hn' := hn
  rw [ep, epl] at hn
  have h2 := hok.n2
  have hc1 := hok.c1
  have hq : PpOk w F ⟨some ⟨pb, po, none⟩, n, n, p.bs.take n, p.br⟩ := by
    have hb := hok.byts
    rw [epa] at hb
    have hb2 := hb.part (i := 0) (m := n) (by omega)
    rw [List.drop_zero, Nat.add_zero] at hb2
    obtain ⟨b', o', e', hF⟩ := hok.at_
    rw [epa] at e'
    simp only [Option.some.injEq, Addr.mk.injEq, and_true] at e'
    exact ⟨hb2, ⟨pb, _, rfl, by rw [e'.1]; exact hF⟩, h1, by show n ≤ 8195; omega, Nat.le_refl _, by show n ≤ maxLen; unfold maxLen; omega⟩
  have hat : isAt (sdL (dwS x y s)) (k : Int) = true := isAt_iff.2 (by rw [hl.2.1]; omega)
  have eC : (((dwS x y s).ps.set k ⟨some ⟨pb, po, none⟩, n, n, p.bs.take n, p.br⟩).map (·.bs), (dwS x y s).h) = clipC (sdL (dwS x y s)) k n := by
    unfold clipC
    rw [if_pos ⟨hat, by omega, by omega⟩, ep, Int.toNat_natCast, Int.toNat_natCast, List.map_set]
    rfl
  obtain ⟨V, hV⟩ : ∃ V, w.alloc (.cells #[.slice (some ⟨pb, po, none⟩) p.n p.c, .bool p.br] 79) = V := ⟨_, rfl⟩
  have hbV : Below w.heap.size w V := by rw [← hV]; exact (Below.refl _ _).alloc (Nat.le_refl _) _
  have cv0 : V.cell? ⟨w.heap.size, 0, none⟩ = some (.slice (some ⟨pb, po, none⟩) p.n p.c) := by rw [← hV, cell_new]; rfl
  have cv1 : V.cell? ⟨w.heap.size, 1, none⟩ = some (.bool p.br) := by rw [← hV, cell_new]; rfl
  have hbVd : Below w.heap.size w V.drew := hbV.drew
  have HR0 := prep_ok (h.below hbVd) hs hk ⟨some ⟨pb, po, none⟩, n, n, p.bs.take n, p.br⟩ (hq.off (P := fun _ => False) (Off.of_below hbVd) fun _ _ => id) (h' := (dwS x y s).h) (fun j q hj => by
    rw [List.getElem?_set] at hj
    split at hj
    · rename_i e
      subst e
      split at hj
      · simp only [Option.some.injEq] at hj
        subst hj
        exact ebr
      · cases hj
    · exact hz.br j q hj) (by rw [eC]; exact hz.ok.clip)
  rw [eC] at HR0
  have HR : Hid (Calls Tryd.prog 62 #[.pointer (some ⟨lb, s, none⟩), .int .i64 (k : Int), .agg #[.slice (some ⟨pb, po, none⟩) n n, .bool p.br]] V.drew fun e w' => e = .returned (.tuple #[]) ∧ Hid (LQ w lb F x y s (clipC (sdL (dwS x y s)) k n) w')) := HR0.mono fun e w' ⟨e1, e2⟩ => ⟨e1, LQ.from_ hbVd e2.out⟩
  clear eC hq HR0 hbVd hbV hat hn'
  generalize clipC (sdL (dwS x y s)) k n = cs' at *
  obtain ⟨pa, pn, pc, pbs, pr⟩ := p
  simp only at *
  subst epa
  have hn6 := hl.2.2.1
  have g2 : (k : Int) < ((dwS x y s).n : Int) := by omega
  have g6 : n ≤ pc := by omega
  clear ep epl hok hl hz h ea hpm hpk ebr
  generalize (dwS x y s).n = zn at *
  generalize (dwS x y s).c = zc at *
  go_enter Tryd.func44, Tryd.ntmps44
  go_wp2_with fail
  go_region_law (first | (go_simp; go_at_call 62; refine HR.out.mono ?_; rintro _ w1 ⟨rfl, HF⟩; go_wp2_with fail))
  all_goals (
    go_wp2_with fail
    go_end0
    exact ⟨rfl, HF.out⟩)
end
end Go.Proofs.YtpcickhellkiaaaDoor
