/-
  A log of generation 1, its records kept in a list beside it; a crash; Open.
-/
import Derived.Test.YtgminfbhaclbbaaDoorWCutP
import Derived.Test.YtgminfbhaclbbaaDoorWShort
namespace Go.Proofs.YtgminfbhaclbbaaDoor
open Go.RowKit Go.BigFrame

theorem len_sizes (rs : List (List Int)) : rs.length ≤ sizes rs := by
  unfold sizes
  induction rs with
  | nil => simp
  | cons r rs ih => simp; omega
theorem Lg.far {x x' : World} {P : Nat → Prop} {B K L : Nat} {v0 v1 : Value} {σ : Sg} {dd : Bool} {gn ar rc wt by_ : Int} (h : Lg x B K L v0 v1 σ dd gn ar rc wt by_) (o : Off P x x') (hF : ∀ k, Foot K v0 v1 k → ¬ P k) (hL : ¬ P L) : Lg x' B K L v0 v1 σ dd gn ar rc wt by_ :=
  ⟨h.d.off o hF, off_cell o h.c0 hL, off_cell o h.c1 hL, off_cell o h.c2 hL, off_cell o h.c3 hL, off_cell o h.c4 hL, off_cell o h.c5 hL, off_cell o h.c6 hL, fun q => (o.frozen (p := ⟨L, q, none⟩) h.lt hL).trans (h.fr q), h.nf, h.ge⟩
/-- The law's run: the log (its records rl), the list of those that were told (rs). -/
structure CtI (w : World) (r K L : Nat) (rl rs : List (List Int)) (v : Value) (vs : List Value) (wx : World) : Prop where
  lg : ∃ v0 v1 na ns nc, Lg wx w.heap.size K L v0 v1 (sgC rl na ns nc) false 1 1 rl.length rl.length ((30 + sizes rl : Nat) : Int) ∧ ¬ Foot K v0 v1 r ∧ ∀ q, v.ownBlock = some q → ¬ Foot K v0 v1 q
  bl : Below w.heap.size w wx
  r0 : wx.cell? ⟨r, 0, none⟩ = some (.pointer (some ⟨K, 0, none⟩))
  r1 : wx.cell? ⟨r, 1, none⟩ = some (.pointer (some ⟨L, 0, none⟩))
  r2 : wx.cell? ⟨r, 2, none⟩ = some v
  rf : ∀ q, wx.frozen? ⟨r, q, none⟩ = false
  rn : r ≠ L
  rg : w.heap.size ≤ r
  vr : VRow wx w.heap.size 28 v vs
  pc : Pcs w vs rs
  ow : ∀ q, v.ownBlock = some q → q ≠ L ∧ q ≠ r
  gd : ∀ d ∈ rl, 1 ≤ d.length ∧ d.length ≤ 20000 ∧ Rng d
  sz : sizes rl ≤ 8388608
section
variable {w wx : World} {r K L : Nat} {rs : List (List Int)} {v : Value} {vs : List Value}
theorem ct_start (w : World) (hH : Halves w) : Calls Tryd.prog 8 #[] w fun e w' => ∃ r K L, e = .returned (.tuple #[.pointer (some ⟨r, 0, none⟩), .bool true]) ∧ CtI w r K L [] [] (.slice none 0 0) [] w' := by
  refine (begin_full w hH).mono ?_
  rintro e w' ⟨r, K, L, u0, u1, rfl, hl, hb, hc, hfr, hf, hn, hg, hlt⟩
  refine ⟨r, K, L, rfl, ⟨u0, u1, 1, 1, 2, ?_, hf, (fun q hq => by cases hq)⟩, hb, hc 0, hc 1, hc 2, hfr, hn, hg, VRow.nil _ _ _, ⟨rfl, (fun j u d hu => by simp at hu)⟩, (fun q hq => by cases hq), (fun d hd => by cases hd), by simp [sizes]⟩
  rw [sgC_new]
  exact hl
theorem ct_append {po : Option Addr} {m c : Nat} {bs : List Int} (h : CtI w r K L rs rs v vs wx) (hb : Byts w po m bs) (hr : Rng bs) (hpo : po = none → c = 0) (hH : Halves w) (hm0 : 0 < m) (hm1 : m ≤ 20000) (hs : sizes rs + (m + 13) ≤ 8388608) :
    Calls Tryd.prog 10 #[.pointer (some ⟨L, 0, none⟩), .slice po m c] wx fun e w' => e = .returned .nilIface ∧ CtI w r K L (rs ++ [bs]) rs v vs w' := by
  obtain ⟨v0, v1, na, ns, nc, hl, hf, ho⟩ := h.lg
  have hlen : bs.length = m := hb.len
  have hls := len_sizes rs
  obtain ⟨a1, na', a2⟩ := sgC_app (rs := rs) (d := bs) (na := na) (ns := ns) (nc := nc) (by rw [hlen]; exact hs)
  refine (lAppend_go hl (hb.below h.bl) hpo (hH.under' h.bl) hm0 hm1 (by omega) (by omega) (by omega) (by omega) (by omega) (by omega)).mono ?_
  rintro e w' ⟨u0, u1, hst, ⟨_, he, hl'⟩ | ⟨hc, _⟩⟩
  · have hrl : r < wx.heap.size := cell_lt h.r0
    have hn : ¬ (Foot K v0 v1 r ∨ r = L) := fun g => g.elim hf h.rn
    have hq : ∀ q, v.ownBlock = some q → ¬ (Foot K v0 v1 q ∨ q = L) := fun q hq g => g.elim (ho q hq) (h.ow q hq).1
    rw [a2] at hl'
    refine ⟨he, ⟨u0, u1, na', ns, nc, ?_, fun g => hf (hst.foot r hrl g), fun q hq' g => ho q hq' (hst.foot q (h.vr.lt hq').2 g)⟩, h.bl.trans (hst.off.below h.bl.size (fun k g => ?_)), off_cell hst.off h.r0 hn, off_cell hst.off h.r1 hn, off_cell hst.off h.r2 hn, fun q => (hst.off.frozen (p := ⟨r, q, none⟩) hrl hn).trans (h.rf q), h.rn, h.rg, h.vr.off hst.off hq, h.pc, h.ow, fun d hd => ?_, ?_⟩
    · rw [show ((rs ++ [bs]).length : Int) = (rs.length : Int) + 1 by simp, show ((30 + sizes (rs ++ [bs]) : Nat) : Int) = ((30 + sizes rs : Nat) : Int) + ((m : Int) + 13) by rw [sizes_snoc]; omega]
      exact hl'
    · rcases g with g | rfl
      · exact (hl.d.foot_lt g).1
      · exact hl.ge
    · rcases List.mem_append.1 hd with hd | hd
      · exact h.gd d hd
      · rw [List.mem_singleton] at hd; subst hd; exact ⟨by omega, by omega, hr⟩
    · rw [sizes_snoc]; omega
  · exact absurd a1 hc
theorem ct_push {po : Option Addr} {m c : Nat} {bs : List Int} (h : CtI w r K L (rs ++ [bs]) rs v vs wx) (hb : Byts w po m bs) (hpo : po = none → c = 0) :
    ∃ a n k w', (Builtin.append_ #[22, 22] 22 #[v, .slice (some ⟨wx.heap.size, 0, none⟩) 1 1]).run Tryd.prog (wx.alloc (.cells #[.slice po m c] 28)) = .ok (.slice a n k) w' ∧ w'.cell? ⟨r, 2, none⟩ = some v ∧ w'.frozen? ⟨r, 2, none⟩ = false ∧ CtI w r K L (rs ++ [bs]) (rs ++ [bs]) (.slice a n k) (vs ++ [.slice po m c]) (w'.setCell ⟨r, 2, none⟩ (.slice a n k)) := by
  obtain ⟨v0, v1, na, ns, nc, hl, hf, ho⟩ := h.lg
  have hsz := h.sz
  have hls := len_sizes (rs ++ [bs])
  have hvl : vs.length = rs.length := h.pc.1
  obtain ⟨a, n, k, w', e1, e2, e3, e4⟩ := run_vpush h.vr h.bl.size (by simp at hls; omega) (.slice po m c) (slice_one _ _ _)
  have hrl : r < wx.heap.size := cell_lt h.r0
  have hnr : ¬ v.ownBlock = some r := fun e => (h.ow r e).2 rfl
  have hnL : ¬ v.ownBlock = some L := fun e => (h.ow L e).1 rfl
  have kr := off_cell e3 h.r2 hnr
  have kz : w'.frozen? ⟨r, 2, none⟩ = false := (e3.frozen (p := ⟨r, 2, none⟩) hrl hnr).trans (h.rf 2)
  have offS : Off (fun k => k = r) w' (w'.setCell ⟨r, 2, none⟩ (.slice a n k)) := (Off.refl (fun k => k = r) w').setCell (p := ⟨r, 2, none⟩) rfl _
  have own : ∀ q, (Value.slice a n k).ownBlock = some q → v.ownBlock = some q ∨ wx.heap.size ≤ q := fun q hq => by
    rcases e4 with e | ⟨g', e, hg⟩
    · rw [e] at hq; exact Or.inl hq
    · rw [e] at hq; cases hq; exact Or.inr hg
  have hlw := (hl.far e3 (fun q hq e => ho q e hq) hnL).far offS (fun q hq e => hf (e ▸ hq)) (fun e => h.rn e.symm)
  have hLl := hl.lt
  have hbw' : Below w.heap.size w w' := h.bl.trans (e3.below h.bl.size (fun q hq => (h.vr.lt hq).1))
  refine ⟨a, n, k, w', e1, kr, kz, ⟨v0, v1, na, ns, nc, hlw, hf, fun q hq g => ?_⟩, hbw'.trans (offS.below hbw'.size (fun q e => by have := h.rg; omega)), ?_, ?_, World.cell?_setCell_same' _ _ _ (by rw [kr]; rfl), fun q => by rw [World.frozen?_setCell, e3.frozen (p := ⟨r, q, none⟩) hrl hnr]; exact h.rf q, h.rn, h.rg, e2.off offS (fun q hq e => ?_), ?_, fun q hq => ?_, h.gd, h.sz⟩
  · rcases own q hq with e | e
    · exact ho q e g
    · have := (hl.d.foot_lt g).2; omega
  · rw [World.cell?_setCell_other _ _ _ _ (by simp)]; exact off_cell e3 h.r0 hnr
  · rw [World.cell?_setCell_other _ _ _ _ (by simp)]; exact off_cell e3 h.r1 hnr
  · rcases own q hq with e' | e'
    · exact (h.ow q e').2 e
    · omega
  · have hlen : bs.length = m := hb.len
    rw [← hlen]
    exact h.pc.snoc (by rw [hlen]; exact hb) hpo
  · rcases own q hq with e' | e'
    · exact h.ow q e'
    · exact ⟨by omega, by omega⟩
/-- The run behind a crash: the disk, and the list. -/
structure CrI (w : World) (r K : Nat) (σ : Sg) (rs : List (List Int)) (v : Value) (vs : List Value) (wx : World) : Prop where
  dk : ∃ v0 v1, DskS wx w.heap.size K v0 v1 σ ∧ ¬ Foot K v0 v1 r ∧ ∀ q, v.ownBlock = some q → ¬ Foot K v0 v1 q
  bl : Below w.heap.size w wx
  r0 : wx.cell? ⟨r, 0, none⟩ = some (.pointer (some ⟨K, 0, none⟩))
  r2 : wx.cell? ⟨r, 2, none⟩ = some v
  vr : VRow wx w.heap.size 28 v vs
  pc : Pcs w vs rs
theorem CrI.step {σ τ : Sg} {v0 v1 u0 u1 : Value} {w' : World} (h : CrI w r K σ rs v vs wx) (hd : DskS wx w.heap.size K v0 v1 σ) (hf : ¬ Foot K v0 v1 r) (ho : ∀ q, v.ownBlock = some q → ¬ Foot K v0 v1 q) (hd' : DskS w' w.heap.size K u0 u1 τ) (s : DStep wx w' K v0 v1 u0 u1) : CrI w r K τ rs v vs w' :=
  ⟨⟨u0, u1, hd', fun g => hf (s.foot r (cell_lt h.r0) g), fun q hq g => ho q hq (s.foot q (h.vr.lt hq).2 g)⟩, h.bl.trans (s.off.below h.bl.size (fun _ g => (hd.foot_lt g).1)), off_cell s.off h.r0 hf, off_cell s.off h.r2 hf, h.vr.off s.off ho, h.pc⟩
theorem ct_crash {na ns nc : Int} {k z : Nat} (h : CrI w r K (sgC rs na ns nc) rs v vs wx) (hsz : sizes rs ≤ 8388608) (hk : k ≤ sizes rs) (hz : k + z ≤ sizes rs) :
    Calls Tryd.prog 16 #[.pointer (some ⟨K, 0, none⟩), .agg #[.int .i64 k, .int .i64 z, .int .i64 k, .int .i64 z]] wx fun e w' => e = .returned (.tuple #[]) ∧ CrI w r K ⟨[], cutB rs k z, 0, (cutB rs k z).length, false, -1, na, ns, nc⟩ rs v vs w' := by
  obtain ⟨v0, v1, hd, hf, ho⟩ := h.dk
  have hl := sgC_len rs na ns nc
  refine (dCrash hd ⟨Nat.le_refl _, by rw [hl]; show 30 ≤ _; omega, by show (0 : Nat) ≤ _; omega, by rw [hl]; omega⟩ k z k z).mono ?_
  rintro e w' ⟨rfl, u0, u1, hd', hs⟩
  rw [crash_sg hk hz] at hd'
  exact ⟨rfl, h.step hd hf ho hd' hs⟩
/-- What the law finds of it. -/
def CtO (w : World) (r : Nat) (rs ds : List (List Int)) (v : Value) (vs : List Value) (tn : Int) (e : Ending) (w' : World) : Prop :=
  ∃ B K L u0 u1 σ wh a n k v2 us, e = .returned (.tuple #[.pointer (some ⟨L, 0, none⟩), .agg #[.int .u64 1, .slice a n k, v2, .int .i64 tn], .nilIface]) ∧ Lg w' B K L u0 u1 σ false 1 1 ds.length 0 wh ∧ VRow w' w.heap.size 28 v2 us ∧ Pcs w' us ds ∧ Below w.heap.size w w' ∧ w'.cell? ⟨r, 2, none⟩ = some v ∧ VRow w' w.heap.size 28 v vs ∧ Pcs w' vs rs
theorem ct_open {na ns nc keep left : Int} {n k z : Nat} {full : Bool} (h : CrI w r K ⟨[], cutB rs k z, 0, (cutB rs k z).length, false, -1, na, ns, nc⟩ rs v vs wx) (hH : Halves w) (hc : CutP keep rs n left full) (hgd : ∀ d ∈ rs, 1 ≤ d.length ∧ d.length ≤ 20000 ∧ Rng d) (hk : (k : Int) = min keep (sizes rs)) (hz : k + z ≤ sizes rs) (hsz : sizes rs ≤ 8388608) :
    Calls Tryd.prog 14 #[.pointer (some ⟨K, 0, none⟩)] wx (CtO w r rs (rs.take n) v vs (if full then 0 else left + z)) := by
  obtain ⟨v0, v1, hd, hf, ho⟩ := h.dk
  obtain ⟨p1, p2, p3, p4⟩ := cut_ps hc (fun d hd => ⟨(hgd d hd).1, (hgd d hd).2.1⟩) hk hz
  have hrng : Rng (cutB rs k z) := cutB_rng (fun d hd => (hgd d hd).2.2)
  have hls := len_sizes rs
  have key := lOpen_gen (nb := cutB rs k z) (na := 1) (ns := (cutB rs k z).length) (os_ := 0) (g := 1) (sn := []) (rs := rs.take n) hd h.bl.size rfl ⟨Nat.le_refl _, Nat.le_refl _, Nat.zero_le _, by show (cutB rs k z).length ≤ _; omega⟩ (fun q hq => by cases hq) hrng (hH.under' h.bl) hdR (fun w' f0 f1 k0 k1 => by
      have he := empty_of k0
      refine ⟨f1, f0, fun y => choose_second_alone y ?_ ?_ he.1, k1, he.2⟩
      all_goals
        obtain ⟨_, _, q3⟩ := k1
        rcases q3 with ⟨q4, _⟩ | ⟨g', sn', rs', us', q4, q5, _⟩
        · have : psS (cutB rs k z) 1 = none := q4
          rw [p1] at this; cases this
        · have : psS (cutB rs k z) 1 = some (g', sn', rs') := q4
          rw [p1] at this
          simp only [Option.some.injEq, Prod.mk.injEq] at this
          have := he.1
          omega) (by omega) (by omega) p1 (fun d hd => (hgd d (List.mem_of_mem_take hd)).2.1) (by simpa using p3) (by simp; omega)
  refine key.mono ?_
  rintro e w' ⟨u0, u1, hst, hr⟩
  have hrun : (runS (⟨[], cutB rs k z, 0, (cutB rs k z).length, false, -1, na, ns, nc⟩ : Sg) (mendOps ⟨((1 : Nat) : Int), none, 0, 0, none, 0, 0, (cutB rs k z).length, (cutB rs k z).length, 30 + ([] : List Int).length + sizes (rs.take n)⟩ ⟨0, none, 0, 0, none, 0, 0, 0, 0, 0⟩)).2 = 0 := by
    have n1 : ¬ (cutB rs k z).length < 30 + sizes (rs.take n) := by omega
    have n2 : ¬ ((30 + (sizes (rs.take n) : Int)) < 0) := by omega
    have n3 : ¬ (((cutB rs k z).length : Int) < 30 + (sizes (rs.take n) : Int)) := by omega
    unfold mendOps
    simp only [List.length_nil, Nat.add_zero, Nat.lt_irrefl, if_false, List.nil_append, n1, List.append_nil]
    split
    · simp [runS, opC, cutC, Sg.goes, goesOn, n2, n3]
    · rfl
  rcases hr with ⟨_, L, a, nn, kk, v2, us, he, hlg, hrow, hvr, hpc, hL⟩ | ⟨hc', _⟩
  · have hbw : Below w.heap.size w w' := h.bl.trans (hst.off.below h.bl.size (fun q hq => (hd.foot_lt hq).1))
    have e1 : ((0 : Nat) : Int) + ((cutB rs k z).length : Int) - ((30 + ([] : List Int).length + sizes (rs.take n) : Nat) : Int) = (if full then 0 else left + z) := by
      rw [← p4]; simp
    rw [e1] at he
    exact ⟨_, K, L, u0, u1, _, _, a, nn, kk, v2, us, he, hlg, hvr.low h.bl.size, hpc, hbw, off_cell hst.off h.r2 hf, h.vr.off hst.off ho, h.pc.below hbw⟩
  · exact absurd hrun hc'
theorem CtI.crI (h : CtI w r K L rs rs v vs wx) : ∃ na ns nc, CrI w r K (sgC rs na ns nc) rs v vs wx := by
  obtain ⟨v0, v1, na, ns, nc, hl, hf, ho⟩ := h.lg
  exact ⟨na, ns, nc, ⟨v0, v1, hl.d, hf, ho⟩, h.bl, h.r0, h.r2, h.vr, h.pc⟩
end
end Go.Proofs.YtgminfbhaclbbaaDoor
