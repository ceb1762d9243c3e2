import Derived.Test.YthnpckmgnompiaaGreatDoorWFuseP
import Derived.Test.YthnpckmgnompiaaGreatDoorWCutP
import Derived.Test.YthnpckmgnompiaaGreatDoorWShort
/-
  Open of what a stopped Compact and a crash leave: the old generation with all its records, or the new one.
-/
namespace Go.Proofs.YthnpckmgnompiaaGreatDoor
open Go.RowKit Go.BigFrame

/-- What is left of the next generation's bytes. -/
def tornB (sn : List Int) (k z : Nat) : List Int := (newB sn).take k ++ List.replicate z 0
theorem tornB_len {sn : List Int} {k z : Nat} (h : k ≤ 30 + sn.length) : (tornB sn k z).length = k + z := by
  unfold tornB
  rw [List.length_append, List.length_take, newB_len, List.length_replicate]
  omega
theorem rng_new2 {sn : List Int} (h : Rng sn) : Rng (newB sn) := rng_app (hdR 2 (by omega) (by omega)) (rng_rec h)
theorem rng_torn {sn : List Int} {k z : Nat} (h : Rng sn) : Rng (tornB sn k z) := rng_app (fun q hq => rng_new2 h q (List.mem_of_mem_take hq)) (fun q hq => by have := List.eq_of_mem_replicate hq; omega)
theorem rng_old {rs : List (List Int)} (h : ∀ r ∈ rs, Rng r) : Rng (oldB rs) := by
  have := cutB_rng (k := sizes rs) (z := 0) h
  unfold cutB at this
  rw [List.take_of_length_le (by rw [recsB_len]; exact Nat.le_refl _)] at this
  simpa [oldB] using this
theorem ps_old {rs : List (List Int)} (h : ∀ r ∈ rs, 1 ≤ r.length ∧ r.length ≤ 20000) : psS (oldB rs) 1 = some (1, [], rs) := by
  have := ps_recs (g := 1) (sn := []) (R := []) (rs := rs) (ar := 1) (by omega) (by omega) (by simp) rfl h rc_nil
  simpa [oldB] using this
theorem ps_new2 {sn : List Int} (h : sn.length ≤ 2097152) : psS (newB sn) 0 = some (2, sn, []) := ps_gen (g := 2) (by omega) (by omega) h rfl
theorem ps_tornB {sn : List Int} {k z : Nat} {ar : Int} (h : sn.length ≤ 2097152) (hk : k < 30 + sn.length) : psS (tornB sn k z) ar = none := ps_torn (g := 2) (by omega) (by omega) h hk
/-- What is found of an area, by its bytes. -/
theorem fnd_gen {w : World} {N : Nat} {bs : List Int} {ar : Int} {sy g : Nat} {sn : List Int} {rs : List (List Int)} {f : Fnd} (h : FndOk w N bs ar sy f) (hp : psS bs ar = some (g, sn, rs)) : f.g = g ∧ f.sz = bs.length := by
  obtain ⟨e1, _, e3⟩ := h
  rcases e3 with ⟨e4, _⟩ | ⟨g', sn', rs', us', e4, e5, _⟩
  · rw [hp] at e4; cases e4
  · rw [hp] at e4
    simp only [Option.some.injEq, Prod.mk.injEq] at e4
    exact ⟨by rw [e5, e4.1], e1⟩
theorem fnd_none {w : World} {N : Nat} {bs : List Int} {ar : Int} {sy : Nat} {f : Fnd} (h : FndOk w N bs ar sy f) (hp : psS bs ar = none) : f.g = 0 ∧ f.sz = bs.length := by
  obtain ⟨e1, _, e3⟩ := h
  rcases e3 with ⟨_, e4, _⟩ | ⟨g', sn', rs', us', e4, _⟩
  · exact ⟨e4, e1⟩
  · rw [hp] at e4; cases e4
section
variable {x : World} {B K : Nat} {v0 v1 : Value} {rs : List (List Int)} {sn : List Int} {na ns nc : Int}
/-- What Open answers, the disk refusing nothing. -/
def OpenD (x : World) (B K : Nat) (v0 v1 : Value) (g : Nat) (sn : List Int) (rs : List (List Int)) (tn : Int) (e : Ending) (w' : World) : Prop :=
  ∃ u0 u1 τ wh L a n k v2 vs, DStep x w' K v0 v1 u0 u1 ∧ e = .returned (.tuple #[.pointer (some ⟨L, 0, none⟩), .agg #[.int .u64 g, .slice a n k, v2, .int .i64 tn], .nilIface]) ∧ Lg w' B K L u0 u1 τ false g ((g : Int) % 2) rs.length 0 wh ∧ Row w' x.heap.size (.slice a n k) sn ∧ VRow w' x.heap.size 22 v2 vs ∧ Pcs w' vs rs ∧ x.heap.size ≤ L
theorem open_old {k z : Nat} (h : DskS x B K v0 v1 ⟨tornB sn k z, oldB rs, (tornB sn k z).length, (oldB rs).length, false, -1, na, ns, nc⟩) (hB : B ≤ x.heap.size) (hH : Halves x) (hgd : ∀ d ∈ rs, 1 ≤ d.length ∧ d.length ≤ 20000 ∧ Rng d) (hsz : sizes rs ≤ 8388608) (hsn : sn.length ≤ 2097152) (hrg : Rng sn) (hk : k < 30 + sn.length) (hkz : k + z ≤ 30 + sn.length) :
    Calls Tryz.prog 7 #[.pointer (some ⟨K, 0, none⟩)] x fun e w' => OpenD x B K v0 v1 1 [] rs ((tornB sn k z).length : Int) e w' := by
  have p1 := ps_old (rs := rs) (fun d hd => ⟨(hgd d hd).1, (hgd d hd).2.1⟩)
  have p0 := ps_tornB (sn := sn) (k := k) (z := z) (ar := 0) hsn hk
  have l1 := oldB_len rs
  have l0 := tornB_len (sn := sn) (k := k) (z := z) (by omega)
  have hls : rs.length ≤ sizes rs := by
    unfold sizes
    clear hgd hsz h p1 l1
    induction rs with
    | nil => simp
    | cons r rs ih => simp; omega
  have key := lOpen_gen (nb := oldB rs) (na := 1) (ns := (oldB rs).length) (os_ := (tornB sn k z).length) (g := 1) (sn := []) (rs := rs) h hB rfl ⟨Nat.le_refl _, Nat.le_refl _, by show (tornB sn k z).length ≤ _; omega, by show (oldB rs).length ≤ _; omega⟩ (rng_torn hrg) (rng_old (fun d hd => (hgd d hd).2.2)) hH hdR (fun w' f0 f1 k0 k1 => by
      have e0 := fnd_none k0 p0
      have e1 := fnd_gen k1 p1
      exact ⟨f1, f0, fun y => choose_second_alone y (by rw [e0.1, e1.1]; decide) (by rw [e1.1]; decide) e0.1, k1, e0.2⟩) (by omega) (by omega) p1 (fun d hd => (hgd d hd).2.1) (by rw [l1]; simp) (by omega)
  refine key.mono ?_
  rintro e w' ⟨u0, u1, hst, hr⟩
  have hrun : (runS (⟨tornB sn k z, oldB rs, (tornB sn k z).length, (oldB rs).length, false, -1, na, ns, nc⟩ : Sg) (mendOps ⟨((1 : Nat) : Int), none, 0, 0, none, 0, 0, (oldB rs).length, (oldB rs).length, 30 + ([] : List Int).length + sizes rs⟩ ⟨0, none, 0, 0, none, 0, 0, (tornB sn k z).length, 0, 0⟩)).2 = 0 := by
    have n1 : ¬ (30 + sizes rs < (oldB rs).length) := by omega
    have n2 : ¬ ((oldB rs).length < 30 + sizes rs) := by omega
    have n3 : ¬ (((tornB sn k z).length : Int) < 0) := by omega
    unfold mendOps
    simp only [List.length_nil, Nat.add_zero, n1, n2, if_false, List.append_nil]
    split
    · simp [runS, opC, cutC, Sg.goes, goesOn, n3]
    · rfl
  rcases hr with ⟨_, L, a, nn, kk, v2, us, he, hlg, hrow, hvr, hpc, hL, _⟩ | ⟨hc', _⟩
  · have e1 : ((tornB sn k z).length : Int) + ((oldB rs).length : Int) - ((30 + ([] : List Int).length + sizes rs : Nat) : Int) = ((tornB sn k z).length : Int) := by rw [l1]; simp
    rw [e1] at he
    exact ⟨u0, u1, _, _, L, a, nn, kk, v2, us, hst, he, hlg, hrow, hvr, hpc, hL⟩
  · exact absurd hrun hc'
/-- The new generation, the old one's bytes still there, or gone. -/
theorem open_new {x1 : List Int} (h : DskS x B K v0 v1 ⟨newB sn, x1, (newB sn).length, x1.length, false, -1, na, ns, nc⟩) (hx : x1 = oldB rs ∨ x1 = []) (hB : B ≤ x.heap.size) (hH : Halves x) (hgd : ∀ d ∈ rs, 1 ≤ d.length ∧ d.length ≤ 20000 ∧ Rng d) (hsz : sizes rs ≤ 8388608) (hsn : sn.length ≤ 2097152) (hrg : Rng sn) :
    Calls Tryz.prog 7 #[.pointer (some ⟨K, 0, none⟩)] x fun e w' => OpenD x B K v0 v1 2 sn [] (x1.length : Int) e w' := by
  have p0 := ps_new2 (sn := sn) hsn
  have l0 := newB_len sn
  have l1 : x1.length ≤ 8388638 := by
    rcases hx with rfl | rfl
    · rw [oldB_len]; omega
    · simp
  have r1 : Rng x1 := by
    rcases hx with rfl | rfl
    · exact rng_old (fun d hd => (hgd d hd).2.2)
    · exact fun q hq => by cases hq
  have key := lOpen_gen (nb := newB sn) (na := 0) (ns := (newB sn).length) (os_ := x1.length) (g := 2) (sn := sn) (rs := []) h hB rfl ⟨Nat.le_refl _, Nat.le_refl _, by show (newB sn).length ≤ _; omega, by show x1.length ≤ _; omega⟩ (rng_new2 hrg) r1 hH hdR (fun w' f0 f1 k0 k1 => by
      have e0 := fnd_gen k0 p0
      rcases hx with rfl | rfl
      · have e1 := fnd_gen k1 (ps_old (rs := rs) (fun d hd => ⟨(hgd d hd).1, (hgd d hd).2.1⟩))
        exact ⟨f0, f1, fun y => choose_first y (by rw [e0.1, e1.1]; decide) (by rw [e0.1]; decide) ⟨by rw [e1.1]; decide, by rw [e0.1, e1.1]; decide⟩, k0, e1.2⟩
      · have e1 := fnd_none k1 (show psS [] 1 = none from rfl)
        exact ⟨f0, f1, fun y => choose_first_alone y (by rw [e0.1, e1.1]; decide) (by rw [e0.1]; decide) e1.1, k0, e1.2⟩) (by omega) (by omega) p0 (fun d hd => by cases hd) (by rw [l0]; simp [sizes]) (by simp)
  refine key.mono ?_
  rintro e w' ⟨u0, u1, hst, hr⟩
  have hrun : (runS (⟨newB sn, x1, (newB sn).length, x1.length, false, -1, na, ns, nc⟩ : Sg) (mendOps ⟨((2 : Nat) : Int), none, 0, 0, none, 0, 0, (newB sn).length, (newB sn).length, 30 + sn.length + sizes []⟩ ⟨0, none, 0, 0, none, 0, 0, x1.length, 0, 0⟩)).2 = 0 := by
    have n0 : sizes [] = 0 := rfl
    have n1 : ¬ (30 + sn.length < (newB sn).length) := by omega
    have n2 : ¬ ((newB sn).length < 30 + sn.length) := by omega
    have n3 : ¬ ((x1.length : Int) < 0) := by omega
    unfold mendOps
    simp only [n0, Nat.add_zero, n1, n2, if_false, List.append_nil]
    split
    · simp [runS, opC, cutC, Sg.goes, goesOn, n3]
    · rfl
  rcases hr with ⟨_, L, a, nn, kk, v2, us, he, hlg, hrow, hvr, hpc, hL, _⟩ | ⟨hc', _⟩
  · have e1 : (x1.length : Int) + ((newB sn).length : Int) - ((30 + sn.length + sizes [] : Nat) : Int) = (x1.length : Int) := by rw [l0]; simp [sizes]
    rw [e1] at he
    exact ⟨u0, u1, _, _, L, a, nn, kk, v2, us, hst, he, hlg, hrow, hvr, hpc, hL⟩
  · exact absurd hrun hc'
end
end Go.Proofs.YthnpckmgnompiaaGreatDoor

/-
  A log of generation 1, its records kept in a list beside it; a crash; Open.
-/
namespace Go.Proofs.YthnpckmgnompiaaGreatDoor
open Go.RowKit Go.BigFrame

theorem len_sizes (rs : List (List Int)) : rs.length ≤ sizes rs := by
  unfold sizes
  induction rs with
  | nil => simp
  | cons r rs ih => simp; omega
theorem Lg.far {x x' : World} {P : Nat → Prop} {B K L : Nat} {v0 v1 : Value} {σ : Sg} {dd : Bool} {gn ar rc wt by_ : Int} (h : Lg x B K L v0 v1 σ dd gn ar rc wt by_) (o : Off P x x') (hF : ∀ k, Foot K v0 v1 k → ¬ P k) (hL : ¬ P L) : Lg x' B K L v0 v1 σ dd gn ar rc wt by_ :=
  ⟨h.d.off o hF, off_cell o h.c0 hL, off_cell o h.c1 hL, off_cell o h.c2 hL, off_cell o h.c3 hL, off_cell o h.c4 hL, off_cell o h.c5 hL, off_cell o h.c6 hL, fun q => (o.frozen (p := ⟨L, q, none⟩) h.lt hL).trans (h.fr q), h.nf, h.ge⟩
/-- The law's run: the log (its records rl), the list of those that were told (rs). -/
structure CtI (w : World) (r K L : Nat) (rl rs : List (List Int)) (v : Value) (vs : List Value) (wx : World) : Prop where
  lg : ∃ v0 v1 na ns nc, Lg wx w.heap.size K L v0 v1 (sgC rl na ns nc) false 1 1 rl.length rl.length ((30 + sizes rl : Nat) : Int) ∧ ¬ Foot K v0 v1 r ∧ ∀ q, v.ownBlock = some q → ¬ Foot K v0 v1 q
  bl : Below w.heap.size w wx
  r0 : wx.cell? ⟨r, 0, none⟩ = some (.pointer (some ⟨K, 0, none⟩))
  r1 : wx.cell? ⟨r, 1, none⟩ = some (.pointer (some ⟨L, 0, none⟩))
  r2 : wx.cell? ⟨r, 2, none⟩ = some v
  rf : ∀ q, wx.frozen? ⟨r, q, none⟩ = false
  rn : r ≠ L
  rg : w.heap.size ≤ r
  vr : VRow wx w.heap.size 22 v vs
  pc : Pcs w vs rs
  ow : ∀ q, v.ownBlock = some q → q ≠ L ∧ q ≠ r
  gd : ∀ d ∈ rl, 1 ≤ d.length ∧ d.length ≤ 20000 ∧ Rng d
  sz : sizes rl ≤ 8388608
section
variable {w wx : World} {r K L : Nat} {rs : List (List Int)} {v : Value} {vs : List Value}
theorem ct_append {po : Option Addr} {m c : Nat} {bs : List Int} (h : CtI w r K L rs rs v vs wx) (hb : Byts w po m bs) (hr : Rng bs) (hpo : po = none → c = 0) (hH : Halves w) (hm0 : 0 < m) (hm1 : m ≤ 20000) (hs : sizes rs + (m + 13) ≤ 8388608) :
    Calls Tryz.prog 8 #[.pointer (some ⟨L, 0, none⟩), .slice po m c] wx fun e w' => e = .returned .nilIface ∧ CtI w r K L (rs ++ [bs]) rs v vs w' := by
  obtain ⟨v0, v1, na, ns, nc, hl, hf, ho⟩ := h.lg
  have hlen : bs.length = m := hb.len
  have hls := len_sizes rs
  obtain ⟨a1, na', a2⟩ := sgC_app (rs := rs) (d := bs) (na := na) (ns := ns) (nc := nc) (by rw [hlen]; exact hs)
  refine (lAppend_go hl (hb.below h.bl) hpo (hH.under' h.bl) hm0 hm1 (by omega) (by omega) (by omega) (by omega) (by omega) (by omega)).mono ?_
  rintro e w' ⟨u0, u1, hst, ⟨_, he, hl'⟩ | ⟨hc, _⟩⟩
  · have hrl : r < wx.heap.size := cell_lt h.r0
    have hn : ¬ (Foot K v0 v1 r ∨ r = L) := fun g => g.elim hf h.rn
    have hq : ∀ q, v.ownBlock = some q → ¬ (Foot K v0 v1 q ∨ q = L) := fun q hq g => g.elim (ho q hq) (h.ow q hq).1
    rw [a2] at hl'
    refine ⟨he, ⟨u0, u1, na', ns, nc, ?_, fun g => hf (hst.foot r hrl g), fun q hq' g => ho q hq' (hst.foot q (h.vr.lt hq').2 g)⟩, h.bl.trans (hst.off.below h.bl.size (fun k g => ?_)), off_cell hst.off h.r0 hn, off_cell hst.off h.r1 hn, off_cell hst.off h.r2 hn, fun q => (hst.off.frozen (p := ⟨r, q, none⟩) hrl hn).trans (h.rf q), h.rn, h.rg, h.vr.off hst.off hq, h.pc, h.ow, fun d hd => ?_, ?_⟩
    · rw [show ((rs ++ [bs]).length : Int) = (rs.length : Int) + 1 by simp, show ((30 + sizes (rs ++ [bs]) : Nat) : Int) = ((30 + sizes rs : Nat) : Int) + ((m : Int) + 13) by rw [sizes_snoc]; omega]
      exact hl'
    · rcases g with g | rfl
      · exact (hl.d.foot_lt g).1
      · exact hl.ge
    · rcases List.mem_append.1 hd with hd | hd
      · exact h.gd d hd
      · rw [List.mem_singleton] at hd; subst hd; exact ⟨by omega, by omega, hr⟩
    · rw [sizes_snoc]; omega
  · exact absurd a1 hc
theorem ct_push {po : Option Addr} {m c : Nat} {bs : List Int} (h : CtI w r K L (rs ++ [bs]) rs v vs wx) (hb : Byts w po m bs) (hpo : po = none → c = 0) :
    ∃ a n k w', (Builtin.append_ #[23, 23] 23 #[v, .slice (some ⟨wx.heap.size, 0, none⟩) 1 1]).run Tryz.prog (wx.alloc (.cells #[.slice po m c] 22)) = .ok (.slice a n k) w' ∧ w'.cell? ⟨r, 2, none⟩ = some v ∧ w'.frozen? ⟨r, 2, none⟩ = false ∧ CtI w r K L (rs ++ [bs]) (rs ++ [bs]) (.slice a n k) (vs ++ [.slice po m c]) (w'.setCell ⟨r, 2, none⟩ (.slice a n k)) := by
  obtain ⟨v0, v1, na, ns, nc, hl, hf, ho⟩ := h.lg
  have hsz := h.sz
  have hls := len_sizes (rs ++ [bs])
  have hvl : vs.length = rs.length := h.pc.1
  obtain ⟨a, n, k, w', e1, e2, e3, e4⟩ := run_vpush h.vr h.bl.size (by simp at hls; omega) (.slice po m c) (slice_one _ _ _)
  have hrl : r < wx.heap.size := cell_lt h.r0
  have hnr : ¬ v.ownBlock = some r := fun e => (h.ow r e).2 rfl
  have hnL : ¬ v.ownBlock = some L := fun e => (h.ow L e).1 rfl
  have kr := off_cell e3 h.r2 hnr
  have kz : w'.frozen? ⟨r, 2, none⟩ = false := (e3.frozen (p := ⟨r, 2, none⟩) hrl hnr).trans (h.rf 2)
  have offS : Off (fun k => k = r) w' (w'.setCell ⟨r, 2, none⟩ (.slice a n k)) := (Off.refl (fun k => k = r) w').setCell (p := ⟨r, 2, none⟩) rfl _
  have own : ∀ q, (Value.slice a n k).ownBlock = some q → v.ownBlock = some q ∨ wx.heap.size ≤ q := fun q hq => by
    rcases e4 with e | ⟨g', e, hg⟩
    · rw [e] at hq; exact Or.inl hq
    · rw [e] at hq; cases hq; exact Or.inr hg
  have hlw := (hl.far e3 (fun q hq e => ho q e hq) hnL).far offS (fun q hq e => hf (e ▸ hq)) (fun e => h.rn e.symm)
  have hLl := hl.lt
  have hbw' : Below w.heap.size w w' := h.bl.trans (e3.below h.bl.size (fun q hq => (h.vr.lt hq).1))
  refine ⟨a, n, k, w', e1, kr, kz, ⟨v0, v1, na, ns, nc, hlw, hf, fun q hq g => ?_⟩, hbw'.trans (offS.below hbw'.size (fun q e => by have := h.rg; omega)), ?_, ?_, World.cell?_setCell_same' _ _ _ (by rw [kr]; rfl), fun q => by rw [World.frozen?_setCell, e3.frozen (p := ⟨r, q, none⟩) hrl hnr]; exact h.rf q, h.rn, h.rg, e2.off offS (fun q hq e => ?_), ?_, fun q hq => ?_, h.gd, h.sz⟩
  · rcases own q hq with e | e
    · exact ho q e g
    · have := (hl.d.foot_lt g).2; omega
  · rw [World.cell?_setCell_other _ _ _ _ (by simp)]; exact off_cell e3 h.r0 hnr
  · rw [World.cell?_setCell_other _ _ _ _ (by simp)]; exact off_cell e3 h.r1 hnr
  · rcases own q hq with e' | e'
    · exact (h.ow q e').2 e
    · omega
  · have hlen : bs.length = m := hb.len
    rw [← hlen]
    exact h.pc.snoc (by rw [hlen]; exact hb) hpo
  · rcases own q hq with e' | e'
    · exact h.ow q e'
    · exact ⟨by omega, by omega⟩
/-- The run behind a crash: the disk, and the list. -/
structure CrI (w : World) (r K : Nat) (σ : Sg) (rs : List (List Int)) (v : Value) (vs : List Value) (wx : World) : Prop where
  dk : ∃ v0 v1, DskS wx w.heap.size K v0 v1 σ ∧ ¬ Foot K v0 v1 r ∧ ∀ q, v.ownBlock = some q → ¬ Foot K v0 v1 q
  bl : Below w.heap.size w wx
  r0 : wx.cell? ⟨r, 0, none⟩ = some (.pointer (some ⟨K, 0, none⟩))
  r2 : wx.cell? ⟨r, 2, none⟩ = some v
  vr : VRow wx w.heap.size 22 v vs
  pc : Pcs w vs rs
theorem CrI.step {σ τ : Sg} {v0 v1 u0 u1 : Value} {w' : World} (h : CrI w r K σ rs v vs wx) (hd : DskS wx w.heap.size K v0 v1 σ) (hf : ¬ Foot K v0 v1 r) (ho : ∀ q, v.ownBlock = some q → ¬ Foot K v0 v1 q) (hd' : DskS w' w.heap.size K u0 u1 τ) (s : DStep wx w' K v0 v1 u0 u1) : CrI w r K τ rs v vs w' :=
  ⟨⟨u0, u1, hd', fun g => hf (s.foot r (cell_lt h.r0) g), fun q hq g => ho q hq (s.foot q (h.vr.lt hq).2 g)⟩, h.bl.trans (s.off.below h.bl.size (fun _ g => (hd.foot_lt g).1)), off_cell s.off h.r0 hf, off_cell s.off h.r2 hf, h.vr.off s.off ho, h.pc⟩
/-- What the law finds of it. -/
def CtO (w : World) (r : Nat) (rs ds : List (List Int)) (v : Value) (vs : List Value) (tn : Int) (e : Ending) (w' : World) : Prop :=
  ∃ B K L u0 u1 σ wh a n k v2 us, e = .returned (.tuple #[.pointer (some ⟨L, 0, none⟩), .agg #[.int .u64 1, .slice a n k, v2, .int .i64 tn], .nilIface]) ∧ Lg w' B K L u0 u1 σ false 1 1 ds.length 0 wh ∧ VRow w' w.heap.size 22 v2 us ∧ Pcs w' us ds ∧ Below w.heap.size w w' ∧ w'.cell? ⟨r, 2, none⟩ = some v ∧ VRow w' w.heap.size 22 v vs ∧ Pcs w' vs rs
theorem ct_open {na ns nc keep left : Int} {n k z : Nat} {full : Bool} (h : CrI w r K ⟨[], cutB rs k z, 0, (cutB rs k z).length, false, -1, na, ns, nc⟩ rs v vs wx) (hH : Halves w) (hc : CutP keep rs n left full) (hgd : ∀ d ∈ rs, 1 ≤ d.length ∧ d.length ≤ 20000 ∧ Rng d) (hk : (k : Int) = min keep (sizes rs)) (hz : k + z ≤ sizes rs) (hsz : sizes rs ≤ 8388608) :
    Calls Tryz.prog 7 #[.pointer (some ⟨K, 0, none⟩)] wx (CtO w r rs (rs.take n) v vs (if full then 0 else left + z)) := by
  obtain ⟨v0, v1, hd, hf, ho⟩ := h.dk
  obtain ⟨p1, p2, p3, p4⟩ := cut_ps hc (fun d hd => ⟨(hgd d hd).1, (hgd d hd).2.1⟩) hk hz
  have hrng : Rng (cutB rs k z) := cutB_rng (fun d hd => (hgd d hd).2.2)
  have hls := len_sizes rs
  have key := lOpen_gen (nb := cutB rs k z) (na := 1) (ns := (cutB rs k z).length) (os_ := 0) (g := 1) (sn := []) (rs := rs.take n) hd h.bl.size rfl ⟨Nat.le_refl _, Nat.le_refl _, Nat.zero_le _, by show (cutB rs k z).length ≤ _; omega⟩ (fun q hq => by cases hq) hrng (hH.under' h.bl) hdR (fun w' f0 f1 k0 k1 => by
      have he := empty_of k0
      refine ⟨f1, f0, fun y => choose_second_alone y ?_ ?_ he.1, k1, he.2⟩
      all_goals
        obtain ⟨_, _, q3⟩ := k1
        rcases q3 with ⟨q4, _⟩ | ⟨g', sn', rs', us', q4, q5, _⟩
        · have : psS (cutB rs k z) 1 = none := q4
          rw [p1] at this; cases this
        · have : psS (cutB rs k z) 1 = some (g', sn', rs') := q4
          rw [p1] at this
          simp only [Option.some.injEq, Prod.mk.injEq] at this
          have := he.1
          omega) (by omega) (by omega) p1 (fun d hd => (hgd d (List.mem_of_mem_take hd)).2.1) (by simpa using p3) (by simp; omega)
  refine key.mono ?_
  rintro e w' ⟨u0, u1, hst, hr⟩
  have hrun : (runS (⟨[], cutB rs k z, 0, (cutB rs k z).length, false, -1, na, ns, nc⟩ : Sg) (mendOps ⟨((1 : Nat) : Int), none, 0, 0, none, 0, 0, (cutB rs k z).length, (cutB rs k z).length, 30 + ([] : List Int).length + sizes (rs.take n)⟩ ⟨0, none, 0, 0, none, 0, 0, 0, 0, 0⟩)).2 = 0 := by
    have n1 : ¬ (cutB rs k z).length < 30 + sizes (rs.take n) := by omega
    have n2 : ¬ ((30 + (sizes (rs.take n) : Int)) < 0) := by omega
    have n3 : ¬ (((cutB rs k z).length : Int) < 30 + (sizes (rs.take n) : Int)) := by omega
    unfold mendOps
    simp only [List.length_nil, Nat.add_zero, Nat.lt_irrefl, if_false, List.nil_append, n1, List.append_nil]
    split
    · simp [runS, opC, cutC, Sg.goes, goesOn, n2, n3]
    · rfl
  rcases hr with ⟨_, L, a, nn, kk, v2, us, he, hlg, hrow, hvr, hpc, hL, _⟩ | ⟨hc', _⟩
  · have hbw : Below w.heap.size w w' := h.bl.trans (hst.off.below h.bl.size (fun q hq => (hd.foot_lt hq).1))
    have e1 : ((0 : Nat) : Int) + ((cutB rs k z).length : Int) - ((30 + ([] : List Int).length + sizes (rs.take n) : Nat) : Int) = (if full then 0 else left + z) := by
      rw [← p4]; simp
    rw [e1] at he
    exact ⟨_, K, L, u0, u1, _, _, a, nn, kk, v2, us, he, hlg, hvr.low h.bl.size, hpc, hbw, off_cell hst.off h.r2 hf, h.vr.off hst.off ho, h.pc.below hbw⟩
  · exact absurd hrun hc'
theorem CtI.crI (h : CtI w r K L rs rs v vs wx) : ∃ na ns nc, CrI w r K (sgC rs na ns nc) rs v vs wx := by
  obtain ⟨v0, v1, na, ns, nc, hl, hf, ho⟩ := h.lg
  exact ⟨na, ns, nc, ⟨v0, v1, hl.d, hf, ho⟩, h.bl, h.r0, h.r2, h.vr, h.pc⟩
end
end Go.Proofs.YthnpckmgnompiaaGreatDoor
