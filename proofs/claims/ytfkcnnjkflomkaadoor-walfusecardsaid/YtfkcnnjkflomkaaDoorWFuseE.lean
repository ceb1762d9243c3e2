import Derived.Test.YtfkcnnjkflomkaaDoorWFuseC
import Derived.Test.YtfkcnnjkflomkaaDoorWComp0
import Derived.Test.YtfkcnnjkflomkaaDoorWApp
/-
  Fuse and Compact of the run: what the disk is then.
-/
namespace Go.Proofs.YtfkcnnjkflomkaaDoor
open Go.RowKit Go.BigFrame

/-- The run behind Fuse and Compact: both areas; whether the log is dead. -/
structure FzD (w : World) (r K L : Nat) (dd : Bool) (x0 x1 : List Int) (s0 s1 : Nat) (rs : List (List Int)) (v : Value) (vs : List Value) (wx : World) : Prop where
  lg : ∃ v0 v1 fu na ns nc gn ar rc wt by_, Lg wx w.heap.size K L v0 v1 ⟨x0, x1, s0, s1, dd, fu, na, ns, nc⟩ dd gn ar rc wt by_ ∧ ¬ Foot K v0 v1 r ∧ ∀ q, v.ownBlock = some q → ¬ Foot K v0 v1 q
  bl : Below w.heap.size w wx
  r0 : wx.cell? ⟨r, 0, none⟩ = some (.pointer (some ⟨K, 0, none⟩))
  r1 : wx.cell? ⟨r, 1, none⟩ = some (.pointer (some ⟨L, 0, none⟩))
  r2 : wx.cell? ⟨r, 2, none⟩ = some v
  rf : ∀ q, wx.frozen? ⟨r, q, none⟩ = false
  rn : r ≠ L
  rg : w.heap.size ≤ r
  vr : VRow wx w.heap.size 28 v vs
  pc : Pcs w vs rs
  ow : ∀ q, v.ownBlock = some q → q ≠ L ∧ q ≠ r
/-- Which areas, behind so many writes (wt: whether records waited). -/
def FzA (rs : List (List Int)) (sn : List Int) (ps : Nat) (n : Int) (x0 x1 : List Int) (s0 s1 : Nat) (dd : Bool) : Prop :=
  if n < 0 ∨ (if ps < rs.length then 5 else 4) ≤ n then dd = false ∧ x0 = newB sn ∧ x1 = [] ∧ s0 = (newB sn).length ∧ s1 = 0
  else dd = true ∧ x1 = oldB rs ∧
    (if ps < rs.length ∧ n = 0 then x0 = [] ∧ s0 = 0 ∧ s1 = 30 + sizes (rs.take ps)
    else s1 = (oldB rs).length ∧ (n < (if ps < rs.length then 3 else 2) ∧ x0 = [] ∧ s0 = 0 ∨ n = (if ps < rs.length then 3 else 2) ∧ x0 = newB sn ∧ s0 = 0 ∨ n = (if ps < rs.length then 4 else 3) ∧ x0 = newB sn ∧ s0 = (newB sn).length))
/-- The writes of the Compact. -/
theorem fz_run {rs : List (List Int)} {sn : List Int} {ps : Nat} {n na ns nc : Int} (hs : (newB sn).length ≤ 16777216) (hp : ps ≤ rs.length) :
    ∃ x0 x1 s0 s1 dd fu na' ns' nc', (if ps < rs.length then runS (sgF rs (30 + sizes (rs.take ps)) (max n (-1)) na ns nc) (.syn 1 :: folOps (1 + 1) 1 sn) else runS (sgF rs (30 + sizes (rs.take ps)) (max n (-1)) na ns nc) (folOps (1 + 1) 1 sn)) = (⟨x0, x1, s0, s1, dd, fu, na', ns', nc'⟩, if dd then 8 else 0) ∧ FzA rs sn ps n x0 x1 s0 s1 dd := by
  by_cases hw : ps < rs.length
  · simp only [if_pos hw]
    by_cases h0 : n = 0
    · subst h0
      have e := (run_front (rs := rs) (sn := sn) (s := 30 + sizes (rs.take ps)) (f := 0) (na := na) (ns := ns) (nc := nc) (by omega)).1 rfl
      refine ⟨_, _, _, _, _, _, _, _, _, e, ?_⟩
      unfold FzA
      simp [hw]
    · obtain ⟨ns1, e⟩ := (run_front (rs := rs) (sn := sn) (s := 30 + sizes (rs.take ps)) (f := max n (-1)) (na := na) (ns := ns) (nc := nc) (by omega)).2 (by omega)
      have hl : -1 ≤ leftOn (max n (-1)) := by unfold leftOn; split <;> omega
      obtain ⟨x0, x1, s0, s1, dd, fu, a, b, c, cc, e2, hr⟩ := run_four (rs := rs) (sn := sn) (na := na) (ns := ns1) (nc := nc) hs hl
      rw [e, e2]
      have hlf : leftOn (max n (-1)) = if 0 < n then n - 1 else -1 := by unfold leftOn; split <;> split <;> omega
      rw [hlf] at hr
      rcases hr with ⟨hf, rfl, rfl, q1, q2, q3, q4⟩ | ⟨hf, rfl, rfl, q1, q2, q3⟩
      · refine ⟨x0, x1, s0, s1, false, fu, a, b, c, rfl, ?_⟩
        unfold FzA
        rw [if_pos (by simp only [if_pos hw]; split at hf <;> omega)]
        exact ⟨rfl, q1, q2, q3, q4⟩
      · refine ⟨x0, x1, s0, s1, true, fu, a, b, c, rfl, ?_⟩
        have hn1 : 0 < n ∧ n < 5 := by split at hf <;> omega
        rw [if_pos hn1.1] at q3
        unfold FzA
        rw [if_neg (by simp only [if_pos hw]; omega), if_neg (by omega)]
        simp only [if_pos hw]
        refine ⟨trivial, q1, q2, ?_⟩
        rcases q3 with ⟨g, k1, k2⟩ | ⟨g, k1, k2⟩ | ⟨g, k1, k2⟩
        · exact Or.inl ⟨by omega, k1, k2⟩
        · exact Or.inr (Or.inl ⟨by omega, k1, k2⟩)
        · exact Or.inr (Or.inr ⟨by omega, k1, k2⟩)
  · simp only [if_neg hw]
    have hps : ps = rs.length := by omega
    have e0 : sgF rs (30 + sizes (rs.take ps)) (max n (-1)) na ns nc = ⟨[], oldB rs, 0, (oldB rs).length, false, max n (-1), na, ns, nc⟩ := by
      rw [hps, List.take_length, ← oldB_len]
      rfl
    obtain ⟨x0, x1, s0, s1, dd, fu, a, b, c, cc, e2, hr⟩ := run_four (rs := rs) (sn := sn) (na := na) (ns := ns) (nc := nc) hs (f := max n (-1)) (by omega)
    rw [e0, e2]
    rcases hr with ⟨hf, rfl, rfl, q1, q2, q3, q4⟩ | ⟨hf, rfl, rfl, q1, q2, q3⟩
    · refine ⟨x0, x1, s0, s1, false, fu, a, b, c, rfl, ?_⟩
      unfold FzA
      rw [if_pos (by simp only [if_neg hw]; omega)]
      exact ⟨rfl, q1, q2, q3, q4⟩
    · refine ⟨x0, x1, s0, s1, true, fu, a, b, c, rfl, ?_⟩
      unfold FzA
      rw [if_neg (by simp only [if_neg hw]; omega), if_neg (by omega)]
      simp only [if_neg hw]
      refine ⟨trivial, q1, q2, ?_⟩
      rcases q3 with ⟨g, k1, k2⟩ | ⟨g, k1, k2⟩ | ⟨g, k1, k2⟩
      · exact Or.inl ⟨by omega, k1, k2⟩
      · exact Or.inr (Or.inl ⟨by omega, k1, k2⟩)
      · exact Or.inr (Or.inr ⟨by omega, k1, k2⟩)
/-- The run behind Fuse. -/
structure FzU (w : World) (r K L : Nat) (rs : List (List Int)) (ps : Nat) (n : Int) (v : Value) (vs : List Value) (wx : World) : Prop where
  lg : ∃ v0 v1 na ns nc, Lg wx w.heap.size K L v0 v1 (sgF rs (30 + sizes (rs.take ps)) (max n (-1)) na ns nc) false 1 1 rs.length ((rs.length - ps : Nat) : Int) ((30 + sizes rs : Nat) : Int) ∧ ¬ Foot K v0 v1 r ∧ ∀ q, v.ownBlock = some q → ¬ Foot K v0 v1 q
  bl : Below w.heap.size w wx
  r0 : wx.cell? ⟨r, 0, none⟩ = some (.pointer (some ⟨K, 0, none⟩))
  r1 : wx.cell? ⟨r, 1, none⟩ = some (.pointer (some ⟨L, 0, none⟩))
  r2 : wx.cell? ⟨r, 2, none⟩ = some v
  rf : ∀ q, wx.frozen? ⟨r, q, none⟩ = false
  rn : r ≠ L
  rg : w.heap.size ≤ r
  vr : VRow wx w.heap.size 28 v vs
  pc : Pcs w vs rs
  ow : ∀ q, v.ownBlock = some q → q ≠ L ∧ q ≠ r
  sz : sizes rs ≤ 8388608
  pl : ps ≤ rs.length
section
variable {w wx : World} {r K L ps : Nat} {rs : List (List Int)} {v : Value} {vs : List Value} {n : Int}
theorem Byts.blk2 {w : World} {po : Option Addr} {m : Nat} {bs : List Int} (h : Byts w po m bs) (b o : Nat) (h0 : 0 < m) (e : po = some ⟨b, o, none⟩) : b < w.heap.size := by
  obtain ⟨b', o', e', hl, _⟩ := h.cell 0 h0
  rw [e] at e'
  simp only [Option.some.injEq, Addr.mk.injEq] at e'
  omega
theorem fz_fuse (h : FzI w r K L rs rs ps v vs wx) (hn : n ≤ 9223372036854775807) :
    Calls Tryd.prog 18 #[.pointer (some ⟨K, 0, none⟩), .int .i64 n] wx fun e w' => e = .returned (.tuple #[]) ∧ FzU w r K L rs ps n v vs w' := by
  obtain ⟨v0, v1, na, ns, nc, hl, hf, ho⟩ := h.lg
  refine (dFuse hl.d n hn).mono ?_
  rintro e w' ⟨rfl, hd, hst⟩
  have hrl : r < wx.heap.size := cell_lt h.r0
  have e1 : fusS (sgF rs (30 + sizes (rs.take ps)) (-1) na ns nc) n = sgF rs (30 + sizes (rs.take ps)) (max n (-1)) na ns nc := rfl
  rw [e1] at hd
  exact ⟨rfl, ⟨v0, v1, na, ns, nc, hl.step hd hst, hf, ho⟩, h.bl.trans (hst.off.below h.bl.size (fun _ g => (hl.d.foot_lt g).1)), off_cell hst.off h.r0 hf, off_cell hst.off h.r1 hf, off_cell hst.off h.r2 hf, fun q => (hst.off.frozen (p := ⟨r, q, none⟩) hrl hf).trans (h.rf q), h.rn, h.rg, h.vr.off hst.off ho, h.pc, h.ow, h.sz, h.pl⟩
/-- What Compact answers and leaves. -/
def FzQ (w : World) (r K L : Nat) (rs : List (List Int)) (ps : Nat) (n : Int) (sn : List Int) (v : Value) (vs : List Value) (wx : World) (e : Ending) (w' : World) : Prop :=
  ∃ ev dd x0 x1 s0 s1, e = .returned ev ∧ FzA rs sn ps n x0 x1 s0 s1 dd ∧ FzD w r K L dd x0 x1 s0 s1 rs v vs w' ∧ (dd = false ∧ ev = .nilIface ∨ dd = true ∧ WDisk wx.heap.size 8 ev w')
theorem fz_compact {po : Option Addr} {m c : Nat} {sn : List Int} (h : FzU w r K L rs ps n v vs wx) (hb : Byts w po m sn) (hpo : po = none → c = 0) (hH : Halves w) (hm : m ≤ 2097152) :
    Calls Tryd.prog 13 #[.pointer (some ⟨L, 0, none⟩), .slice po m c] wx (FzQ w r K L rs ps n sn v vs wx) := by
  obtain ⟨v0, v1, na, ns, nc, hl, hf, ho⟩ := h.lg
  have hlen : sn.length = m := hb.len
  have hs0 := h.bl.size
  have hpl := h.pl
  have hfoot : ∀ b, b < w.heap.size → ¬ Foot K v0 v1 b := fun b hlt gf => by have := (hl.d.foot_lt gf).1; omega
  obtain ⟨x0, x1, s0, s1, dd, fu, na', ns', nc', er, hA⟩ := fz_run (rs := rs) (sn := sn) (ps := ps) (n := n) (na := na) (ns := ns) (nc := nc) (by rw [newB_len]; omega) h.pl
  have fin : ∀ (os : List Dop) (e : Ending) (w' : World), runS (sgF rs (30 + sizes (rs.take ps)) (max n (-1)) na ns nc) os = (⟨x0, x1, s0, s1, dd, fu, na', ns', nc'⟩, if dd then 8 else 0) → (∃ ev u0 u1, e = .returned ev ∧ LStep wx w' K L v0 v1 u0 u1 ∧ (((runS (sgF rs (30 + sizes (rs.take ps)) (max n (-1)) na ns nc) os).2 = 0 ∧ ev = .nilIface ∧ Lg w' w.heap.size K L u0 u1 (runS (sgF rs (30 + sizes (rs.take ps)) (max n (-1)) na ns nc) os).1 false (1 + 1) ((1 + 1) % 2) 0 0 (30 + m)) ∨ ((runS (sgF rs (30 + sizes (rs.take ps)) (max n (-1)) na ns nc) os).2 ≠ 0 ∧ WDisk wx.heap.size (runS (sgF rs (30 + sizes (rs.take ps)) (max n (-1)) na ns nc) os).2 ev w' ∧ ∃ a b c' d' e', Lg w' w.heap.size K L u0 u1 (runS (sgF rs (30 + sizes (rs.take ps)) (max n (-1)) na ns nc) os).1 true a b c' d' e'))) → FzQ w r K L rs ps n sn v vs wx e w' := by
    rintro os e w' hrun ⟨ev, u0, u1, rfl, hst, hr⟩
    rw [hrun] at hr
    have hrl : r < wx.heap.size := cell_lt h.r0
    have hn' : ¬ (Foot K v0 v1 r ∨ r = L) := fun g => g.elim hf h.rn
    have hq : ∀ q, v.ownBlock = some q → ¬ (Foot K v0 v1 q ∨ q = L) := fun q hq g => g.elim (ho q hq) (h.ow q hq).1
    have mk : ∀ b, (∃ gn ar rc wt by_, Lg w' w.heap.size K L u0 u1 ⟨x0, x1, s0, s1, b, fu, na', ns', nc'⟩ b gn ar rc wt by_) → FzD w r K L b x0 x1 s0 s1 rs v vs w' := fun b ⟨gn, ar, rc, wt, by_, hl'⟩ =>
      ⟨⟨u0, u1, fu, na', ns', nc', gn, ar, rc, wt, by_, hl', fun g => hf (hst.foot r hrl g), fun q hq' g => ho q hq' (hst.foot q (h.vr.lt hq').2 g)⟩, h.bl.trans (hst.off.below h.bl.size (fun k g => by
        rcases g with g | rfl
        · exact (hl.d.foot_lt g).1
        · exact hl.ge)), off_cell hst.off h.r0 hn', off_cell hst.off h.r1 hn', off_cell hst.off h.r2 hn', fun q => (hst.off.frozen (p := ⟨r, q, none⟩) hrl hn').trans (h.rf q), h.rn, h.rg, h.vr.off hst.off hq, h.pc, h.ow⟩
    cases dd with
    | false =>
      rcases hr with ⟨_, rfl, hl'⟩ | ⟨hc, _⟩
      · exact ⟨_, false, x0, x1, s0, s1, rfl, hA, mk false ⟨_, _, _, _, _, hl'⟩, Or.inl ⟨rfl, rfl⟩⟩
      · exact absurd rfl hc
    | true =>
      rcases hr with ⟨hc, _⟩ | ⟨_, hwd, a, b, c', d', e', hl'⟩
      · cases hc
      · exact ⟨_, true, x0, x1, s0, s1, rfl, hA, mk true ⟨_, _, _, _, _, hl'⟩, Or.inr ⟨rfl, hwd⟩⟩
  by_cases hw : ps < rs.length
  · rw [if_pos hw] at er
    refine (lCompact hl (by omega) (hb.below h.bl) (fun b o h0 e => hfoot b (hb.blk2 b o h0 e)) (fun b o h0 e => Nat.lt_of_lt_of_le (hb.blk2 b o h0 e) hs0) hpo hm (hH.under' h.bl) (hfoot _ (cell_lt (hH 0 (by decide)))) (by omega) (by omega)).mono fun e w' hq => fin _ e w' er ?_
    obtain ⟨ev, u0, u1, he, hst, hr⟩ := hq
    exact ⟨ev, u0, u1, he, hst, hr.imp id (fun ⟨a, b, c⟩ => ⟨a, b, _, _, _, _, _, c⟩)⟩
  · rw [if_neg hw] at er
    have h0 : ((rs.length - ps : Nat) : Int) = 0 := by omega
    rw [h0] at hl
    refine (lCompact0 hl (hb.below h.bl) (fun b o h0 e => hfoot b (hb.blk2 b o h0 e)) hpo hm (hH.under' h.bl) (hfoot _ (cell_lt (hH 0 (by decide)))) (by omega) (by omega)).mono fun e w' hq => fin _ e w' er ?_
    obtain ⟨ev, u0, u1, he, hst, hr⟩ := hq
    exact ⟨ev, u0, u1, he, hst, hr.imp id (fun ⟨a, b, c⟩ => ⟨a, b, _, _, _, _, _, c⟩)⟩
end
end Go.Proofs.YtfkcnnjkflomkaaDoor

/-
  The crash behind a stopped Compact, and Open of what it leaves.
-/
namespace Go.Proofs.YtfkcnnjkflomkaaDoor
open Go.RowKit Go.BigFrame

/-- What a crash leaves of the areas. -/
def FzY (rs : List (List Int)) (sn : List Int) (ps : Nat) (n : Int) (y0 y1 : List Int) : Prop :=
  (y0 = newB sn ∧ (y1 = oldB rs ∨ y1 = []) ∧ (n < 0 ∨ (if ps < rs.length then 3 else 2) ≤ n)) ∨ (∃ k z, y0 = tornB sn k z ∧ k < 30 + sn.length ∧ k + z ≤ 30 + sn.length ∧ y1 = oldB rs ∧ 0 ≤ n ∧ n ≤ (if ps < rs.length then 3 else 2)) ∨ (ps < rs.length ∧ n = 0 ∧ ∃ k z, y0 = [] ∧ y1 = cutB rs k z ∧ k + z ≤ sizes rs)
theorem sizes_take (rs : List (List Int)) (m : Nat) : sizes (rs.take m) ≤ sizes rs := by
  have := sizes_app (rs.take m) (rs.drop m)
  rw [List.take_append_drop] at this
  omega
section
variable {w wx : World} {r K L ps : Nat} {rs : List (List Int)} {sn : List Int} {v : Value} {vs : List Value} {n : Int}
theorem fz_crash {dd : Bool} {x0 x1 : List Int} {s0 s1 : Nat} (h : FzD w r K L dd x0 x1 s0 s1 rs v vs wx) (hA : FzA rs sn ps n x0 x1 s0 s1 dd) (hsz : sizes rs ≤ 8388608) (hsn : sn.length ≤ 2097152) (tk0 tz0 tk1 tz1 : Int) :
    Calls Tryd.prog 16 #[.pointer (some ⟨K, 0, none⟩), .agg #[.int .i64 tk0, .int .i64 tz0, .int .i64 tk1, .int .i64 tz1]] wx fun e w' => e = .returned (.tuple #[]) ∧ ∃ y0 y1 na ns nc, CrI w r K ⟨y0, y1, y0.length, y1.length, false, -1, na, ns, nc⟩ rs v vs w' ∧ FzY rs sn ps n y0 y1 := by
  obtain ⟨v0, v1, fu, na, ns, nc, gn, ar, rc, wt, by_, hl, hf, ho⟩ := h.lg
  have l0 := newB_len sn
  have l1 := oldB_len rs
  have st := sizes_take rs ps
  have hcr : CrI w r K ⟨x0, x1, s0, s1, dd, fu, na, ns, nc⟩ rs v vs wx := ⟨⟨v0, v1, hl.d, hf, ho⟩, h.bl, h.r0, h.r2, h.vr, h.pc⟩
  have key : ∃ y0 y1, crS ⟨x0, x1, s0, s1, dd, fu, na, ns, nc⟩ tk0 tz0 tk1 tz1 = ⟨y0, y1, y0.length, y1.length, false, -1, na, ns, nc⟩ ∧ FzY rs sn ps n y0 y1 ∧ Sg.Ok ⟨x0, x1, s0, s1, dd, fu, na, ns, nc⟩ := by
    unfold FzA at hA
    by_cases hd : n < 0 ∨ (if ps < rs.length then 5 else 4) ≤ n
    · rw [if_pos hd] at hA
      obtain ⟨rfl, rfl, rfl, rfl, rfl⟩ := hA
      refine ⟨newB sn, [], crash_two (x1 := []), Or.inl ⟨rfl, Or.inr rfl, ?_⟩, ⟨Nat.le_refl _, Nat.le_refl _, by show (newB sn).length ≤ _; omega, Nat.zero_le _⟩⟩
      split at hd <;> split <;> omega
    · rw [if_neg hd] at hA
      obtain ⟨rfl, rfl, hA⟩ := hA
      by_cases hq : ps < rs.length ∧ n = 0
      · rw [if_pos hq] at hA
        obtain ⟨rfl, rfl, rfl⟩ := hA
        obtain ⟨k, z, hk, e⟩ := crash_first (rs := rs) (dd := true) (fu := fu) (na := na) (ns := ns) (nc := nc) (tk0 := tk0) (tz0 := tz0) (tk1 := tk1) (tz1 := tz1) (s := sizes (rs.take ps)) st
        exact ⟨_, _, e, Or.inr (Or.inr ⟨hq.1, hq.2, _, z, rfl, rfl, hk⟩), ⟨Nat.le_refl _, by show 30 + sizes (rs.take ps) ≤ (oldB rs).length; omega, Nat.zero_le _, by show (oldB rs).length ≤ _; omega⟩⟩
      · rw [if_neg hq] at hA
        obtain ⟨rfl, hA⟩ := hA
        have hn0 : 0 ≤ n := by omega
        rcases hA with ⟨g, rfl, rfl⟩ | ⟨g, rfl, rfl⟩ | ⟨g, rfl, rfl⟩
        · refine ⟨tornB sn 0 0, oldB rs, crash_old, Or.inr (Or.inl ⟨0, 0, rfl, by omega, by omega, rfl, hn0, by omega⟩), ⟨Nat.le_refl _, Nat.le_refl _, Nat.zero_le _, by show (oldB rs).length ≤ _; omega⟩⟩
        · obtain ⟨k, z, hk, e⟩ := crash_mid (rs := rs) (sn := sn) (dd := true) (fu := fu) (na := na) (ns := ns) (nc := nc) (tk0 := tk0) (tz0 := tz0) (tk1 := tk1) (tz1 := tz1)
          refine ⟨_, _, e, ?_, ⟨Nat.zero_le _, Nat.le_refl _, by show (newB sn).length ≤ _; omega, by show (oldB rs).length ≤ _; omega⟩⟩
          by_cases hk2 : k < 30 + sn.length
          · exact Or.inr (Or.inl ⟨k, z, rfl, hk2, hk, rfl, hn0, by omega⟩)
          · obtain rfl : k = 30 + sn.length := by omega
            obtain rfl : z = 0 := by omega
            exact Or.inl ⟨torn_full sn, Or.inl rfl, Or.inr (by omega)⟩
        · refine ⟨newB sn, oldB rs, crash_two (x1 := oldB rs), Or.inl ⟨rfl, Or.inl rfl, Or.inr ?_⟩, ⟨Nat.le_refl _, Nat.le_refl _, by show (newB sn).length ≤ _; omega, by show (oldB rs).length ≤ _; omega⟩⟩
          rw [g]
          split <;> omega
  obtain ⟨y0, y1, e, hy, hok⟩ := key
  refine (dCrash hl.d hok tk0 tz0 tk1 tz1).mono ?_
  rintro e' w' ⟨rfl, u0, u1, hd', hs⟩
  rw [e] at hd'
  exact ⟨rfl, y0, y1, na, ns, nc, hcr.step hl.d hf ho hd' hs, hy⟩
/-- Of a log whose last records are torn. -/
theorem open_first {x : World} {B : Nat} {v0 v1 : Value} {k z : Nat} {na ns nc : Int} (hd : DskS x B K v0 v1 ⟨[], cutB rs k z, 0, (cutB rs k z).length, false, -1, na, ns, nc⟩) (hB : B ≤ x.heap.size) (hH : Halves x) (hgd : ∀ d ∈ rs, 1 ≤ d.length ∧ d.length ≤ 20000 ∧ Rng d) (hsz : sizes rs ≤ 8388608) (hkz : k + z ≤ sizes rs) :
    Calls Tryd.prog 14 #[.pointer (some ⟨K, 0, none⟩)] x fun e w' => ∃ m tn, m ≤ rs.length ∧ OpenD x B K v0 v1 1 [] (rs.take m) tn e w' := by
  obtain ⟨m, left, full, hc⟩ := cut_some rs (k := (k : Int)) (by omega)
  obtain ⟨p1, p2, p3, p4⟩ := cut_ps hc (fun d hd => ⟨(hgd d hd).1, (hgd d hd).2.1⟩) (k := k) (z := z) (by omega) hkz
  have hrng : Rng (cutB rs k z) := cutB_rng (fun d hd => (hgd d hd).2.2)
  have hls := len_sizes rs
  have key := lOpen_gen (nb := cutB rs k z) (na := 1) (ns := (cutB rs k z).length) (os_ := 0) (g := 1) (sn := []) (rs := rs.take m) hd hB rfl ⟨Nat.le_refl _, Nat.le_refl _, Nat.zero_le _, by show (cutB rs k z).length ≤ _; omega⟩ (fun q hq => by cases hq) hrng hH hdR (fun w' f0 f1 k0 k1 => by
      have he := empty_of k0
      have e1 := fnd_gen k1 p1
      exact ⟨f1, f0, fun y => choose_second_alone y (by rw [he.1, e1.1]; decide) (by rw [e1.1]; decide) he.1, k1, he.2⟩) (by omega) (by omega) p1 (fun d hd => (hgd d (List.mem_of_mem_take hd)).2.1) (by simpa using p3) (by simp; omega)
  refine key.mono ?_
  rintro e w' ⟨u0, u1, hst, hr⟩
  have hrun : (runS (⟨[], cutB rs k z, 0, (cutB rs k z).length, false, -1, na, ns, nc⟩ : Sg) (mendOps ⟨((1 : Nat) : Int), none, 0, 0, none, 0, 0, (cutB rs k z).length, (cutB rs k z).length, 30 + ([] : List Int).length + sizes (rs.take m)⟩ ⟨0, none, 0, 0, none, 0, 0, 0, 0, 0⟩)).2 = 0 := by
    have n1 : ¬ (cutB rs k z).length < 30 + sizes (rs.take m) := by omega
    have n2 : ¬ ((30 + (sizes (rs.take m) : Int)) < 0) := by omega
    have n3 : ¬ (((cutB rs k z).length : Int) < 30 + (sizes (rs.take m) : Int)) := by omega
    unfold mendOps
    simp only [List.length_nil, Nat.add_zero, Nat.lt_irrefl, if_false, List.nil_append, n1, List.append_nil]
    split
    · simp [runS, opC, cutC, Sg.goes, goesOn, n2, n3]
    · rfl
  rcases hr with ⟨_, L, a, nn, kk, v2, us, he, hlg, hrow, hvr, hpc, hL⟩ | ⟨hc', _⟩
  · exact ⟨m, _, hc.nl, u0, u1, _, _, L, a, nn, kk, v2, us, hst, he, hlg, hrow, hvr, hpc, hL⟩
  · exact absurd hrun hc'
/-- What the law finds: the old generation or the new one. -/
def FzO (w : World) (r : Nat) (rs : List (List Int)) (sn : List Int) (ps : Nat) (n : Int) (v : Value) (vs : List Value) (e : Ending) (w' : World) : Prop :=
  ∃ (g : Nat) (L : Nat) (a : Option Addr) (nn kk : Nat) (v2 : Value) (us : List Value) (sg : List Int) (ds : List (List Int)) (tn : Int), e = .returned (.tuple #[.pointer (some ⟨L, 0, none⟩), .agg #[.int .u64 g, .slice a nn kk, v2, .int .i64 tn], .nilIface]) ∧ nn = sg.length ∧ Byts w' a nn sg ∧ VRow w' w.heap.size 28 v2 us ∧ Pcs w' us ds ∧ Below w.heap.size w w' ∧ w'.cell? ⟨r, 2, none⟩ = some v ∧ VRow w' w.heap.size 28 v vs ∧ Pcs w' vs rs ∧
    ((g = 2 ∧ sg = sn ∧ ds = [] ∧ (n < 0 ∨ (if ps < rs.length then 3 else 2) ≤ n)) ∨ (g = 1 ∧ sg = [] ∧ 0 ≤ n ∧ n ≤ (if ps < rs.length then 3 else 2) ∧ (ds = rs ∨ ps < rs.length ∧ n = 0 ∧ ∃ m, m ≤ rs.length ∧ ds = rs.take m)))
theorem fz_open {y0 y1 : List Int} {na ns nc : Int} (h : CrI w r K ⟨y0, y1, y0.length, y1.length, false, -1, na, ns, nc⟩ rs v vs wx) (hy : FzY rs sn ps n y0 y1) (hH : Halves w) (hgd : ∀ d ∈ rs, 1 ≤ d.length ∧ d.length ≤ 20000 ∧ Rng d) (hsz : sizes rs ≤ 8388608) (hsn : sn.length ≤ 2097152) (hrg : Rng sn) :
    Calls Tryd.prog 14 #[.pointer (some ⟨K, 0, none⟩)] wx (FzO w r rs sn ps n v vs) := by
  obtain ⟨v0, v1, hd, hf, ho⟩ := h.dk
  have fin : ∀ (g : Nat) (sg : List Int) (ds : List (List Int)) (tn : Int) e w', OpenD wx w.heap.size K v0 v1 g sg ds tn e w' → ((g = 2 ∧ sg = sn ∧ ds = [] ∧ (n < 0 ∨ (if ps < rs.length then 3 else 2) ≤ n)) ∨ (g = 1 ∧ sg = [] ∧ 0 ≤ n ∧ n ≤ (if ps < rs.length then 3 else 2) ∧ (ds = rs ∨ ps < rs.length ∧ n = 0 ∧ ∃ m, m ≤ rs.length ∧ ds = rs.take m))) → FzO w r rs sn ps n v vs e w' := by
    rintro g sg ds tn e w' ⟨u0, u1, τ, wh, L, a, nn, kk, v2, us, hst, he, hlg, hrow, hvr, hpc, hL⟩ hc
    have hbw : Below w.heap.size w w' := h.bl.trans (hst.off.below h.bl.size (fun _ hq => (hd.foot_lt hq).1))
    obtain ⟨e1, e2, _⟩ := hrow.byts'
    exact ⟨g, L, a, nn, kk, v2, us, sg, ds, tn, he, e1, e2, hvr.low h.bl.size, hpc, hbw, off_cell hst.off h.r2 hf, h.vr.off hst.off ho, h.pc.below hbw, hc⟩
  rcases hy with ⟨rfl, h1, h2⟩ | ⟨k, z, rfl, hk, hkz, rfl, h1, h2⟩ | ⟨h1, h2, k, z, rfl, rfl, hk⟩
  · exact (open_new hd h1 h.bl.size (hH.under' h.bl) hgd hsz hsn hrg).mono fun e w' hq => fin _ _ _ _ e w' hq (Or.inl ⟨rfl, rfl, rfl, h2⟩)
  · exact (open_old hd h.bl.size (hH.under' h.bl) hgd hsz hsn hrg hk hkz).mono fun e w' hq => fin _ _ _ _ e w' hq (Or.inr ⟨rfl, rfl, h1, h2, Or.inl rfl⟩)
  · refine (open_first (rs := rs) hd h.bl.size (hH.under' h.bl) hgd hsz hk).mono fun e w' hq => ?_
    obtain ⟨m, tn, hm, hq⟩ := hq
    exact fin _ _ _ _ e w' hq (Or.inr ⟨rfl, rfl, by omega, by rw [h2]; split <;> omega, Or.inr ⟨h1, h2, m, hm, rfl⟩⟩)
end
end Go.Proofs.YtfkcnnjkflomkaaDoor

/-
  A dead log: Append, Stat.
-/
namespace Go.Proofs.YtfkcnnjkflomkaaDoor
open Go.RowKit Go.BigFrame

theorem set_five {x : World} {R : Nat} {c0 c1 c2 c3 c4 : Value} (h0 : x.cell? ⟨R, 0, none⟩ = some c0) (h1 : x.cell? ⟨R, 1, none⟩ = some c1) (h2 : x.cell? ⟨R, 2, none⟩ = some c2) (h3 : x.cell? ⟨R, 3, none⟩ = some c3) (h4 : x.cell? ⟨R, 4, none⟩ = some c4) (u0 u1 u2 u3 u4 : Value) : Off (fun k => k = R) x (((((x.setCell ⟨R, 0, none⟩ u0).setCell ⟨R, 1, none⟩ u1).setCell ⟨R, 2, none⟩ u2).setCell ⟨R, 3, none⟩ u3).setCell ⟨R, 4, none⟩ u4) ∧ (((((x.setCell ⟨R, 0, none⟩ u0).setCell ⟨R, 1, none⟩ u1).setCell ⟨R, 2, none⟩ u2).setCell ⟨R, 3, none⟩ u3).setCell ⟨R, 4, none⟩ u4).cell? ⟨R, 0, none⟩ = some u0 ∧ (((((x.setCell ⟨R, 0, none⟩ u0).setCell ⟨R, 1, none⟩ u1).setCell ⟨R, 2, none⟩ u2).setCell ⟨R, 3, none⟩ u3).setCell ⟨R, 4, none⟩ u4).cell? ⟨R, 1, none⟩ = some u1 ∧ (((((x.setCell ⟨R, 0, none⟩ u0).setCell ⟨R, 1, none⟩ u1).setCell ⟨R, 2, none⟩ u2).setCell ⟨R, 3, none⟩ u3).setCell ⟨R, 4, none⟩ u4).cell? ⟨R, 2, none⟩ = some u2 ∧ (((((x.setCell ⟨R, 0, none⟩ u0).setCell ⟨R, 1, none⟩ u1).setCell ⟨R, 2, none⟩ u2).setCell ⟨R, 3, none⟩ u3).setCell ⟨R, 4, none⟩ u4).cell? ⟨R, 3, none⟩ = some u3 ∧ (((((x.setCell ⟨R, 0, none⟩ u0).setCell ⟨R, 1, none⟩ u1).setCell ⟨R, 2, none⟩ u2).setCell ⟨R, 3, none⟩ u3).setCell ⟨R, 4, none⟩ u4).cell? ⟨R, 4, none⟩ = some u4 := by
  have so : ∀ (y : World) (q q' : Nat) (u : Value), q ≠ q' → (y.setCell ⟨R, q, none⟩ u).cell? ⟨R, q', none⟩ = y.cell? ⟨R, q', none⟩ := fun y q q' u h => World.cell?_setCell_other _ _ _ _ (by simp; first | done | omega)
  refine ⟨((((((Off.refl (fun k => k = R) x).setCell (p := ⟨R, 0, none⟩) rfl u0).setCell (p := ⟨R, 1, none⟩) rfl u1).setCell (p := ⟨R, 2, none⟩) rfl u2).setCell (p := ⟨R, 3, none⟩) rfl u3).setCell (p := ⟨R, 4, none⟩) rfl u4), ?_, ?_, ?_, ?_, ?_⟩
  · rw [so _ 4 0 _ (by omega), so _ 3 0 _ (by omega), so _ 2 0 _ (by omega), so _ 1 0 _ (by omega)]
    refine World.cell?_setCell_same' _ _ _ ?_
    rw [h0]
    rfl
  · rw [so _ 4 1 _ (by omega), so _ 3 1 _ (by omega), so _ 2 1 _ (by omega)]
    refine World.cell?_setCell_same' _ _ _ ?_
    rw [so _ 0 1 _ (by omega), h1]
    rfl
  · rw [so _ 4 2 _ (by omega), so _ 3 2 _ (by omega)]
    refine World.cell?_setCell_same' _ _ _ ?_
    rw [so _ 1 2 _ (by omega), so _ 0 2 _ (by omega), h2]
    rfl
  · rw [so _ 4 3 _ (by omega)]
    refine World.cell?_setCell_same' _ _ _ ?_
    rw [so _ 2 3 _ (by omega), so _ 1 3 _ (by omega), so _ 0 3 _ (by omega), h3]
    rfl
  · refine World.cell?_setCell_same' _ _ _ ?_
    rw [so _ 3 4 _ (by omega), so _ 2 4 _ (by omega), so _ 1 4 _ (by omega), so _ 0 4 _ (by omega), h4]
    rfl
section
variable {x : World} {B K L : Nat} {v0 v1 : Value} {σ : Sg} {gn ar rc wt by_ : Int} {po : Option Addr} {m k : Nat}
set_option maxRecDepth 100000 in
set_option maxHeartbeats 4000000 in
theorem lAppend_dead (h : Lg x B K L v0 v1 σ true gn ar rc wt by_) : Calls Tryd.prog 10 #[.pointer (some ⟨L, 0, none⟩), .slice po m k] x fun e w' => ∃ v, e = .returned v ∧ WErr x 8 v w' := by
  have HR : Hid (Calls Tryd.prog 26 #[.pointer (some ⟨L, 0, none⟩)] x fun e w' => ∃ v, e = .returned v ∧ WErr x 8 v w') := ready_dead h
  clear h
  go_enter Tryd.func10, Tryd.ntmps10
  go_wp2_with fail
  refine HR.out.mono ?_
  rintro e w1 ⟨v, rfl, hv⟩
  obtain ⟨b, hb, hr⟩ := hv
  subst hb
  have HV : Hid (WErr x 8 (.iface 98 (.pointer (some ⟨b, 0, none⟩))) w1) := ⟨b, rfl, hr⟩
  clear hr HR
  go_wp2_with fail
  go_ret
  exact ⟨_, rfl, HV.out⟩
set_option maxRecDepth 100000 in
set_option maxHeartbeats 4000000 in
theorem lStat_dead (h : Lg x B K L v0 v1 σ true gn ar rc wt by_) : Calls Tryd.prog 12 #[.pointer (some ⟨L, 0, none⟩)] x fun e w' => e = .returned (.agg #[.int .u64 0, .int .i64 0, .int .i64 0, .int .i64 0, .int .i64 0]) ∧ Below x.heap.size x w' := by
  have HR : Hid (∀ y, Below x.heap.size x y → Calls Tryd.prog 26 #[.pointer (some ⟨L, 0, none⟩)] y fun e w' => ∃ v, e = .returned v ∧ WErr y 8 v w') := fun y hy => ready_dead (h.below hy)
  clear h
  go_enter Tryd.func12, Tryd.ntmps12
  go_wp2_with fail
  refine (HR.out _ ((Below.refl _ _).alloc (Nat.le_refl _) _)).mono ?_
  rintro e w1 ⟨v, rfl, hv⟩
  obtain ⟨b, hb, _, hbl⟩ := hv
  subst hb
  have cz : ∀ q, w1.cell? ⟨x.heap.size, q, none⟩ = (#[Value.int .u64 0, .int .i64 0, .int .i64 0, .int .i64 0, .int .i64 0] : Array Value)[q]? := fun q => (hbl.cell (p := ⟨x.heap.size, q, none⟩) (by simp)).trans (World.cell?_alloc_new _ _ _ _)
  have zz : ∀ q, w1.frozen? ⟨x.heap.size, q, none⟩ = false := fun q => (hbl.frozen (p := ⟨x.heap.size, q, none⟩) (by simp)).trans (World.frozen?_alloc_new _ _ _ _)
  have f0 : w1.cell? ⟨x.heap.size, 0, none⟩ = some (.int .u64 0) := cz 0
  have f1 : w1.cell? ⟨x.heap.size, 1, none⟩ = some (.int .i64 0) := cz 1
  have f2 : w1.cell? ⟨x.heap.size, 2, none⟩ = some (.int .i64 0) := cz 2
  have f3 : w1.cell? ⟨x.heap.size, 3, none⟩ = some (.int .i64 0) := cz 3
  have f4 : w1.cell? ⟨x.heap.size, 4, none⟩ = some (.int .i64 0) := cz 4
  have z0 := zz 0
  have z1 := zz 1
  have z2 := zz 2
  have z3 := zz 3
  have z4 := zz 4
  have HBl : Hid (Below x.heap.size x w1) := ((Below.refl _ _).alloc (Nat.le_refl _) _).trans (hbl.mono (by simp))
  obtain ⟨ho, q0, q1, q2, q3, q4⟩ := set_five f0 f1 f2 f3 f4 (.int .u64 0) (.int .i64 0) (.int .i64 0) (.int .i64 0) (.int .i64 0)
  have HO : Hid (Below x.heap.size x (((((w1.setCell ⟨x.heap.size, 0, none⟩ (.int .u64 0)).setCell ⟨x.heap.size, 1, none⟩ (.int .i64 0)).setCell ⟨x.heap.size, 2, none⟩ (.int .i64 0)).setCell ⟨x.heap.size, 3, none⟩ (.int .i64 0)).setCell ⟨x.heap.size, 4, none⟩ (.int .i64 0))) := HBl.out.trans (ho.below HBl.out.size (fun k e => by omega))
  clear cz zz hbl ho HR
  go_wp2_with fail
  exact bodyPost_ret (v := .agg #[.int .u64 0, .int .i64 0, .int .i64 0, .int .i64 0, .int .i64 0]) (by simp [results, Tryd.results12, go_sem, q0, q1, q2, q3, q4]) rfl ⟨rfl, HO.out⟩
end
end Go.Proofs.YtfkcnnjkflomkaaDoor
