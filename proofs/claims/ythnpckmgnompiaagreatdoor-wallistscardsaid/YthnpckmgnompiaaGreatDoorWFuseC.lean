import Derived.Test.YthnpckmgnompiaaGreatDoorWCuts
/-
  A log of generation 1 of which some records are synced, its records kept in a list beside it.
-/
namespace Go.Proofs.YthnpckmgnompiaaGreatDoor
open Go.RowKit Go.BigFrame

theorem sgF_new : sgF [] (30 + sizes (([] : List (List Int)).take 0)) (-1) 1 1 2 = sgB := by simp [sgF, sgB, oldB, recsB, sizes]
theorem sgF_app {rs : List (List Int)} {d : List Int} {s : Nat} {na ns nc : Int} (h : sizes rs + (d.length + 13) ≤ 8388608) : appC (sgF rs s (-1) na ns nc) 1 (d.length + 13) = 0 ∧ ∃ na', appS (sgF rs s (-1) na ns nc) 1 (recB d) = sgF (rs ++ [d]) s (-1) na' ns nc := by
  have hl : (sgF rs s (-1) na ns nc).x1.length = 30 + sizes rs := oldB_len rs
  have hg : (sgF rs s (-1) na ns nc).goes = true := rfl
  refine ⟨?_, ?_⟩
  · unfold appC
    simp only [if_neg (show ¬ (1 : Int) = 0 by decide), if_true, hg, if_neg (show ¬ 16777216 < (sgF rs s (-1) na ns nc).x1.length + (d.length + 13) by omega)]
  · refine ⟨oneMore na, ?_⟩
    unfold appS
    simp only [if_neg (show ¬ (1 : Int) = 0 by decide), if_true, hg, if_neg (show ¬ 16777216 < (sgF rs s (-1) na ns nc).x1.length + (recB d).length by rw [recB_len]; omega)]
    simp [sgF, oldB, Sg.wr, leftOn, recsB_snoc, List.append_assoc]
theorem sgF_syn {rs : List (List Int)} {s : Nat} {na ns nc : Int} : synC (sgF rs s (-1) na ns nc) 1 = 0 ∧ ∃ ns', synS (sgF rs s (-1) na ns nc) 1 = sgF rs (30 + sizes (rs.take rs.length)) (-1) na ns' nc := by
  have hg : (sgF rs s (-1) na ns nc).goes = true := rfl
  refine ⟨by simp [synC, hg], oneMore ns, ?_⟩
  rw [List.take_length, ← oldB_len]
  simp [synS, sgF, Sg.wr, leftOn, Sg.goes, goesOn]
/-- The law's run: the log (its records rl, the first ps of them synced), the list of those that were told (rs). -/
structure FzI (w : World) (r K L : Nat) (rl rs : List (List Int)) (ps : Nat) (v : Value) (vs : List Value) (wx : World) : Prop where
  lg : ∃ v0 v1 na ns nc, Lg wx w.heap.size K L v0 v1 (sgF rl (30 + sizes (rl.take ps)) (-1) na ns nc) false 1 1 rl.length ((rl.length - ps : Nat) : Int) ((30 + sizes rl : Nat) : Int) ∧ ¬ Foot K v0 v1 r ∧ ∀ q, v.ownBlock = some q → ¬ Foot K v0 v1 q
  bl : Below w.heap.size w wx
  r0 : wx.cell? ⟨r, 0, none⟩ = some (.pointer (some ⟨K, 0, none⟩))
  r1 : wx.cell? ⟨r, 1, none⟩ = some (.pointer (some ⟨L, 0, none⟩))
  r2 : wx.cell? ⟨r, 2, none⟩ = some v
  rf : ∀ q, wx.frozen? ⟨r, q, none⟩ = false
  rn : r ≠ L
  rg : w.heap.size ≤ r
  vr : VRow wx w.heap.size 22 v vs
  pc : Pcs w vs rs
  ow : ∀ q, v.ownBlock = some q → q ≠ L ∧ q ≠ r
  gd : ∀ d ∈ rl, 1 ≤ d.length ∧ d.length ≤ 20000 ∧ Rng d
  sz : sizes rl ≤ 8388608
  pl : ps ≤ rl.length
section
variable {w wx : World} {r K L ps : Nat} {rs : List (List Int)} {v : Value} {vs : List Value}
theorem fz_append {po : Option Addr} {m c : Nat} {bs : List Int} (h : FzI w r K L rs rs ps v vs wx) (hb : Byts w po m bs) (hr : Rng bs) (hpo : po = none → c = 0) (hH : Halves w) (hm0 : 0 < m) (hm1 : m ≤ 20000) (hs : sizes rs + (m + 13) ≤ 8388608) :
    Calls Tryz.prog 8 #[.pointer (some ⟨L, 0, none⟩), .slice po m c] wx fun e w' => e = .returned .nilIface ∧ FzI w r K L (rs ++ [bs]) rs ps v vs w' := by
  obtain ⟨v0, v1, na, ns, nc, hl, hf, ho⟩ := h.lg
  have hlen : bs.length = m := hb.len
  have hls := len_sizes rs
  have hpl := h.pl
  obtain ⟨a1, na', a2⟩ := sgF_app (rs := rs) (d := bs) (s := 30 + sizes (rs.take ps)) (na := na) (ns := ns) (nc := nc) (by rw [hlen]; exact hs)
  refine (lAppend_go hl (hb.below h.bl) hpo (hH.under' h.bl) hm0 hm1 (by omega) (by omega) (by omega) (by omega) (by omega) (by omega)).mono ?_
  rintro e w' ⟨u0, u1, hst, ⟨_, he, hl'⟩ | ⟨hc, _⟩⟩
  · have hrl : r < wx.heap.size := cell_lt h.r0
    have hn : ¬ (Foot K v0 v1 r ∨ r = L) := fun g => g.elim hf h.rn
    have hq : ∀ q, v.ownBlock = some q → ¬ (Foot K v0 v1 q ∨ q = L) := fun q hq g => g.elim (ho q hq) (h.ow q hq).1
    rw [a2] at hl'
    refine ⟨he, ⟨u0, u1, na', ns, nc, ?_, fun g => hf (hst.foot r hrl g), fun q hq' g => ho q hq' (hst.foot q (h.vr.lt hq').2 g)⟩, h.bl.trans (hst.off.below h.bl.size (fun k g => ?_)), off_cell hst.off h.r0 hn, off_cell hst.off h.r1 hn, off_cell hst.off h.r2 hn, fun q => (hst.off.frozen (p := ⟨r, q, none⟩) hrl hn).trans (h.rf q), h.rn, h.rg, h.vr.off hst.off hq, h.pc, h.ow, fun d hd => ?_, ?_, by simp; omega⟩
    · rw [List.take_append_of_le_length hpl, show (((rs ++ [bs]).length - ps : Nat) : Int) = ((rs.length - ps : Nat) : Int) + 1 by simp; omega, show ((rs ++ [bs]).length : Int) = (rs.length : Int) + 1 by simp, show ((30 + sizes (rs ++ [bs]) : Nat) : Int) = ((30 + sizes rs : Nat) : Int) + ((m : Int) + 13) by rw [sizes_snoc]; omega]
      exact hl'
    · rcases g with g | rfl
      · exact (hl.d.foot_lt g).1
      · exact hl.ge
    · rcases List.mem_append.1 hd with hd | hd
      · exact h.gd d hd
      · rw [List.mem_singleton] at hd; subst hd; exact ⟨by omega, by omega, hr⟩
    · rw [sizes_snoc]; omega
  · exact absurd a1 hc
theorem fz_push {po : Option Addr} {m c : Nat} {bs : List Int} (h : FzI w r K L (rs ++ [bs]) rs ps v vs wx) (hb : Byts w po m bs) (hpo : po = none → c = 0) :
    ∃ a n k w', (Builtin.append_ #[23, 23] 23 #[v, .slice (some ⟨wx.heap.size, 0, none⟩) 1 1]).run Tryz.prog (wx.alloc (.cells #[.slice po m c] 22)) = .ok (.slice a n k) w' ∧ w'.cell? ⟨r, 2, none⟩ = some v ∧ w'.frozen? ⟨r, 2, none⟩ = false ∧ FzI w r K L (rs ++ [bs]) (rs ++ [bs]) ps (.slice a n k) (vs ++ [.slice po m c]) (w'.setCell ⟨r, 2, none⟩ (.slice a n k)) := by
  obtain ⟨v0, v1, na, ns, nc, hl, hf, ho⟩ := h.lg
  have hsz := h.sz
  have hls := len_sizes (rs ++ [bs])
  have hvl : vs.length = rs.length := h.pc.1
  obtain ⟨a, n, k, w', e1, e2, e3, e4⟩ := run_vpush h.vr h.bl.size (by simp at hls; omega) (.slice po m c) (slice_one _ _ _)
  have hrl : r < wx.heap.size := cell_lt h.r0
  have hnr : ¬ v.ownBlock = some r := fun e => (h.ow r e).2 rfl
  have hnL : ¬ v.ownBlock = some L := fun e => (h.ow L e).1 rfl
  have kr := off_cell e3 h.r2 hnr
  have kz : w'.frozen? ⟨r, 2, none⟩ = false := (e3.frozen (p := ⟨r, 2, none⟩) hrl hnr).trans (h.rf 2)
  have offS : Off (fun k => k = r) w' (w'.setCell ⟨r, 2, none⟩ (.slice a n k)) := (Off.refl (fun k => k = r) w').setCell (p := ⟨r, 2, none⟩) rfl _
  have own : ∀ q, (Value.slice a n k).ownBlock = some q → v.ownBlock = some q ∨ wx.heap.size ≤ q := fun q hq => by
    rcases e4 with e | ⟨g', e, hg⟩
    · rw [e] at hq; exact Or.inl hq
    · rw [e] at hq; cases hq; exact Or.inr hg
  have hlw := (hl.far e3 (fun q hq e => ho q e hq) hnL).far offS (fun q hq e => hf (e ▸ hq)) (fun e => h.rn e.symm)
  have hLl := hl.lt
  have hbw' : Below w.heap.size w w' := h.bl.trans (e3.below h.bl.size (fun q hq => (h.vr.lt hq).1))
  refine ⟨a, n, k, w', e1, kr, kz, ⟨v0, v1, na, ns, nc, hlw, hf, fun q hq g => ?_⟩, hbw'.trans (offS.below hbw'.size (fun q e => by have := h.rg; omega)), ?_, ?_, World.cell?_setCell_same' _ _ _ (by rw [kr]; rfl), fun q => by rw [World.frozen?_setCell, e3.frozen (p := ⟨r, q, none⟩) hrl hnr]; exact h.rf q, h.rn, h.rg, e2.off offS (fun q hq e => ?_), ?_, fun q hq => ?_, h.gd, h.sz, h.pl⟩
  · rcases own q hq with e | e
    · exact ho q e g
    · have := (hl.d.foot_lt g).2; omega
  · rw [World.cell?_setCell_other _ _ _ _ (by simp)]; exact off_cell e3 h.r0 hnr
  · rw [World.cell?_setCell_other _ _ _ _ (by simp)]; exact off_cell e3 h.r1 hnr
  · rcases own q hq with e' | e'
    · exact (h.ow q e').2 e
    · omega
  · have hlen : bs.length = m := hb.len
    rw [← hlen]
    exact h.pc.snoc (by rw [hlen]; exact hb) hpo
  · rcases own q hq with e' | e'
    · exact h.ow q e'
    · exact ⟨by omega, by omega⟩
end
end Go.Proofs.YthnpckmgnompiaaGreatDoor

/-
  Crashes of what a stopped Compact leaves; of no program.
-/
namespace Go.Proofs.YthnpckmgnompiaaGreatDoor
open Go.RowKit Go.BigFrame

theorem cut_upto (rs : List (List Int)) {k : Int} (hk : 0 ≤ k) : ∀ j, j ≤ rs.length → ∃ n left full, CutP k (rs.take j) n left full
  | 0, _ => ⟨0, k, true, by rw [List.take_zero]; exact CutP.start hk⟩
  | j + 1, hj => by
    obtain ⟨n, left, full, h⟩ := cut_upto rs hk j (by omega)
    have e : rs.take (j + 1) = rs.take j ++ [rs[j]'(by omega)] := List.take_succ_eq_append_getElem (by omega)
    rw [e]
    cases full with
    | true =>
      by_cases hd : ((rs[j]'(by omega)).length : Int) + 13 ≤ left
      · exact ⟨_, _, _, h.goes hd⟩
      · exact ⟨_, _, _, h.stops (by omega)⟩
    | false => exact ⟨_, _, _, h.stays⟩
/-- Whatever is kept: so many records are whole. -/
theorem cut_some (rs : List (List Int)) {k : Int} (hk : 0 ≤ k) : ∃ n left full, CutP k rs n left full := by
  obtain ⟨n, left, full, h⟩ := cut_upto rs hk rs.length (Nat.le_refl _)
  rw [List.take_length] at h
  exact ⟨n, left, full, h⟩
section
variable {rs : List (List Int)} {sn : List Int} {dd : Bool} {fu na ns nc tk0 tz0 tk1 tz1 : Int}
theorem betw_zero (t : Int) : (betw t ((0 : Nat) : Int)).toNat = 0 := by unfold betw; omega
theorem torn_all (xs : List Int) : torn xs xs.length 0 0 = xs := by unfold torn; simp
/-- Nothing was written: of what was not synced some stays. -/
theorem crash_first {s : Nat} (hs : s ≤ sizes rs) : ∃ k z, s + k + z ≤ sizes rs ∧ crS ⟨[], oldB rs, 0, 30 + s, dd, fu, na, ns, nc⟩ tk0 tz0 tk1 tz1 = ⟨[], cutB rs (s + k) z, 0, (cutB rs (s + k) z).length, false, -1, na, ns, nc⟩ := by
  have hl := oldB_len rs
  obtain ⟨k, hk⟩ : ∃ k, (betw tk1 (((oldB rs).length - (30 + s) : Nat) : Int)).toNat = k := ⟨_, rfl⟩
  obtain ⟨z, hz⟩ : ∃ z, (betw tz1 (((oldB rs).length - (30 + s) - k : Nat) : Int)).toNat = z := ⟨_, rfl⟩
  have e1 : torn (oldB rs) (30 + s) k z = cutB rs (s + k) z := by
    show (headB 1 ++ (recB [] ++ recsB rs)).take (30 + s + k) ++ List.replicate z 0 = _
    unfold cutB
    rw [show 30 + s + k = (headB 1).length + ((recB []).length + (s + k)) by rw [headB_len, recB_len]; simp; omega, List.take_length_add_append, List.take_length_add_append, List.append_assoc, List.append_assoc]
  refine ⟨k, z, ?_, ?_⟩
  · unfold betw at hk hz
    omega
  · unfold crS
    have b1 := betw_zero tk0
    have b2 := betw_zero tz0
    simp only [List.length_nil, Nat.sub_self, b1, b2, hk, hz, e1]
    rfl
/-- All is synced, the other area is empty, or holds bytes that are not synced. -/
theorem crash_old : crS ⟨[], oldB rs, 0, (oldB rs).length, dd, fu, na, ns, nc⟩ tk0 tz0 tk1 tz1 = ⟨tornB sn 0 0, oldB rs, (tornB sn 0 0).length, (oldB rs).length, false, -1, na, ns, nc⟩ := by
  unfold crS
  have b1 := betw_zero tk0
  have b2 := betw_zero tz0
  have b3 := betw_zero tk1
  have b4 := betw_zero tz1
  simp only [List.length_nil, Nat.sub_self, b1, b2, b3, b4, torn_all]
  simp [tornB, torn]
theorem crash_mid : ∃ k z, k + z ≤ 30 + sn.length ∧ crS ⟨newB sn, oldB rs, 0, (oldB rs).length, dd, fu, na, ns, nc⟩ tk0 tz0 tk1 tz1 = ⟨tornB sn k z, oldB rs, (tornB sn k z).length, (oldB rs).length, false, -1, na, ns, nc⟩ := by
  have hl := newB_len sn
  obtain ⟨k, hk⟩ : ∃ k, (betw tk0 (((newB sn).length - 0 : Nat) : Int)).toNat = k := ⟨_, rfl⟩
  obtain ⟨z, hz⟩ : ∃ z, (betw tz0 (((newB sn).length - 0 - k : Nat) : Int)).toNat = z := ⟨_, rfl⟩
  refine ⟨k, z, ?_, ?_⟩
  · unfold betw at hk hz
    omega
  · unfold crS
    have b3 := betw_zero tk1
    have b4 := betw_zero tz1
    simp only [Nat.sub_self, b3, b4, hk, hz, torn_all]
    simp [tornB, torn]
theorem torn_full (sn : List Int) : tornB sn (30 + sn.length) 0 = newB sn := by
  unfold tornB
  rw [← newB_len, List.take_length]
  simp
/-- Both areas are synced. -/
theorem crash_two {x1 : List Int} : crS ⟨newB sn, x1, (newB sn).length, x1.length, dd, fu, na, ns, nc⟩ tk0 tz0 tk1 tz1 = ⟨newB sn, x1, (newB sn).length, x1.length, false, -1, na, ns, nc⟩ := by
  unfold crS
  have b1 := betw_zero tk0
  have b2 := betw_zero tz0
  have b3 := betw_zero tk1
  have b4 := betw_zero tz1
  simp only [Nat.sub_self, b1, b2, b3, b4, torn_all]
end
end Go.Proofs.YthnpckmgnompiaaGreatDoor
