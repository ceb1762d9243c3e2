/-
  A log that goes from generation to generation.
-/
import Derived.Test.YtgminfbhaclbbaaDoorWComp
import Derived.Test.YtgminfbhaclbbaaDoorWBegR
import Derived.Test.YtgminfbhaclbbaaDoorWPure
namespace Go.Proofs.YtgminfbhaclbbaaDoor
open Go.RowKit Go.BigFrame

theorem app_gen {a : Int} {hd bs : List Int} {na ns nc : Int} (ha : a = 0 ∨ a = 1) (h : hd.length + bs.length ≤ 16777216) : appC (sgG a hd na ns nc) a bs.length = 0 ∧ (appS (sgG a hd na ns nc) a bs).dead = false ∧ (appS (sgG a hd na ns nc) a bs).fuse = -1 := by
  have hg : ¬ 16777216 < hd.length + bs.length := by omega
  rcases ha with rfl | rfl <;> simp [appC, appS, sgG, Sg.goes, goesOn, Sg.wr, leftOn, hg]
theorem Byts.blk {w : World} {po : Option Addr} {m : Nat} {bs : List Int} (h : Byts w po m bs) (b o : Nat) (h0 : 0 < m) (e : po = some ⟨b, o, none⟩) : b < w.heap.size := by
  obtain ⟨b', o', e', hl, _⟩ := h.cell 0 h0
  rw [e] at e'
  simp only [Option.some.injEq, Addr.mk.injEq] at e'
  omega
/-- A log of generation g with this snapshot, no record, all synced; named by a block r. -/
structure GnI (w : World) (r K L g : Nat) (sn : List Int) (wx : World) : Prop where
  lg : ∃ v0 v1 na ns nc, Lg wx w.heap.size K L v0 v1 (sgG ((g : Int) % 2) (headB g ++ recB sn) na ns nc) false g ((g : Int) % 2) 0 0 ((30 + sn.length : Nat) : Int) ∧ ¬ Foot K v0 v1 r
  bl : Below w.heap.size w wx
  r0 : wx.cell? ⟨r, 0, none⟩ = some (.pointer (some ⟨K, 0, none⟩))
  r1 : wx.cell? ⟨r, 1, none⟩ = some (.pointer (some ⟨L, 0, none⟩))
  rf : ∀ q, wx.frozen? ⟨r, q, none⟩ = false
  rn : r ≠ L
  rg : w.heap.size ≤ r
  sl : sn.length ≤ 2097152
  rs : Rng sn
  g0 : 1 ≤ g
  g1 : g ≤ 400000
/-- The same log with one record that waits. -/
structure GnA (w : World) (r K L g : Nat) (wx : World) : Prop where
  lg : ∃ v0 v1 σ rc wt by_, Lg wx w.heap.size K L v0 v1 σ false g ((g : Int) % 2) rc wt by_ ∧ 0 < wt ∧ σ.dead = false ∧ σ.fuse = -1 ∧ ¬ Foot K v0 v1 r
  bl : Below w.heap.size w wx
  r0 : wx.cell? ⟨r, 0, none⟩ = some (.pointer (some ⟨K, 0, none⟩))
  r1 : wx.cell? ⟨r, 1, none⟩ = some (.pointer (some ⟨L, 0, none⟩))
  rf : ∀ q, wx.frozen? ⟨r, q, none⟩ = false
  rn : r ≠ L
  rg : w.heap.size ≤ r
  g0 : 1 ≤ g
  g1 : g ≤ 400000
section
variable {w wx w' : World} {r K L g : Nat} {sn : List Int}
theorem GnI.below (h : GnI w r K L g sn wx) (hb : Below wx.heap.size wx w') : GnI w r K L g sn w' := by
  obtain ⟨v0, v1, na, ns, nc, hl, hf⟩ := h.lg
  have hr : r < wx.heap.size := cell_lt h.r0
  exact ⟨⟨v0, v1, na, ns, nc, hl.below hb, hf⟩, below_then h.bl hb, below_cell hb h.r0, below_cell hb h.r1, fun q => (hb.frozen (p := ⟨r, q, none⟩) hr).trans (h.rf q), h.rn, h.rg, h.sl, h.rs, h.g0, h.g1⟩
theorem lstep_r {v0 v1 u0 u1 : Value} {σ : Sg} {dd : Bool} {gn ar rc wt by_ : Int} (hbl : Below w.heap.size w wx) (h0 : wx.cell? ⟨r, 0, none⟩ = some (.pointer (some ⟨K, 0, none⟩))) (h1 : wx.cell? ⟨r, 1, none⟩ = some (.pointer (some ⟨L, 0, none⟩))) (hfr : ∀ q, wx.frozen? ⟨r, q, none⟩ = false) (hrn : r ≠ L) (hl : Lg wx w.heap.size K L v0 v1 σ dd gn ar rc wt by_) (hf : ¬ Foot K v0 v1 r) (hs : LStep wx w' K L v0 v1 u0 u1) :
    Below w.heap.size w w' ∧ w'.cell? ⟨r, 0, none⟩ = some (.pointer (some ⟨K, 0, none⟩)) ∧ w'.cell? ⟨r, 1, none⟩ = some (.pointer (some ⟨L, 0, none⟩)) ∧ (∀ q, w'.frozen? ⟨r, q, none⟩ = false) ∧ ¬ Foot K u0 u1 r := by
  have hr : r < wx.heap.size := cell_lt h0
  have hn : ¬ (Foot K v0 v1 r ∨ r = L) := fun g => g.elim hf hrn
  refine ⟨hbl.trans (hs.off.below hbl.size (fun k g => ?_)), off_cell hs.off h0 hn, off_cell hs.off h1 hn, fun q => (hs.off.frozen (p := ⟨r, q, none⟩) hr hn).trans (hfr q), fun g => hf (hs.foot r hr g)⟩
  rcases g with g | rfl
  · exact (hl.d.foot_lt g).1
  · exact hl.ge
theorem gn_append {po : Option Addr} {m c : Nat} {bs : List Int} (h : GnI w r K L g sn wx) (hb : Byts wx po m bs) (hpo : po = none → c = 0) (hH : Halves wx) (hm0 : 0 < m) (hm1 : m ≤ 20000) :
    Calls Tryd.prog 10 #[.pointer (some ⟨L, 0, none⟩), .slice po m c] wx fun e w' => e = .returned .nilIface ∧ GnA w r K L g w' := by
  obtain ⟨v0, v1, na, ns, nc, hl, hf⟩ := h.lg
  have hlen : bs.length = m := hb.len
  have hsl := h.sl
  obtain ⟨a1, a2, a3⟩ := app_gen (a := (g : Int) % 2) (hd := headB g ++ recB sn) (bs := recB bs) (na := na) (ns := ns) (nc := nc) (by omega) (by rw [head_rec_len, recB_len]; omega)
  rw [recB_len] at a1
  refine (lAppend_go hl hb hpo hH hm0 hm1 (by omega) (by omega) (by omega) (by omega) (by omega) (by omega)).mono ?_
  rintro e w' ⟨u0, u1, hs, ⟨_, he, hl'⟩ | ⟨hc, _⟩⟩
  · obtain ⟨q1, q2, q3, q4, q5⟩ := lstep_r h.bl h.r0 h.r1 h.rf h.rn hl hf hs
    exact ⟨he, ⟨u0, u1, _, _, _, _, hl', by omega, a2, a3, q5⟩, q1, q2, q3, q4, h.rn, h.rg, h.g0, h.g1⟩
  · exact absurd a1 hc
theorem gn_compact {po : Option Addr} {m c : Nat} {bs : List Int} (h : GnA w r K L g wx) (hb : Byts w po m bs) (hrg : Rng bs) (hpo : po = none → c = 0) (hH : Halves w) (hm : m ≤ 2097152) (hg : g < 400000) :
    Calls Tryd.prog 13 #[.pointer (some ⟨L, 0, none⟩), .slice po m c] wx fun e w' => e = .returned .nilIface ∧ GnI w r K L (g + 1) bs w' := by
  obtain ⟨v0, v1, σ, rc, wt, by_, hl, hw0, h1, h2, hf⟩ := h.lg
  have hlen : bs.length = m := hb.len
  have hs0 := h.bl.size
  have hg0 := h.g0
  have hfoot : ∀ b, b < w.heap.size → ¬ Foot K v0 v1 b := fun b hlt gf => by have := (hl.d.foot_lt gf).1; omega
  obtain ⟨r1, r2, r3⟩ := run_syn (σ := σ) (ar := (g : Int) % 2) (os := folOps ((g : Int) + 1) ((g : Int) % 2) bs) h1 h2 (by omega)
  obtain ⟨na, ns, nc, r4⟩ := run_fol (σ := synS σ ((g : Int) % 2)) (G := (g : Int) + 1) (ar := (g : Int) % 2) (bs := bs) r2 r3 (by rw [head_rec_len]; omega) (by omega)
  rw [r4] at r1
  refine (lCompact hl hw0 (hb.below h.bl) (fun b o h0 e => hfoot b (hb.blk b o h0 e)) (fun b o h0 e => Nat.lt_of_lt_of_le (hb.blk b o h0 e) hs0) hpo hm (hH.under' h.bl) (hfoot _ (cell_lt (hH 0 (by decide)))) (by omega) (by omega)).mono ?_
  rintro e w' ⟨ev, u0, u1, rfl, hs, hr⟩
  rw [r1] at hr
  rcases hr with ⟨_, rfl, hl'⟩ | ⟨hc, _⟩
  · obtain ⟨q1, q2, q3, q4, q5⟩ := lstep_r h.bl h.r0 h.r1 h.rf h.rn hl hf hs
    refine ⟨rfl, ⟨u0, u1, na, ns, nc, ?_, q5⟩, q1, q2, q3, q4, h.rn, h.rg, by omega, hrg, by omega, by omega⟩
    rw [show ((g + 1 : Nat) : Int) = (g : Int) + 1 by omega, show ((30 + bs.length : Nat) : Int) = 30 + (m : Int) by omega]
    exact hl'
  · exact absurd rfl hc
theorem gn_stat (h : GnI w r K L g sn wx) :
    Calls Tryd.prog 12 #[.pointer (some ⟨L, 0, none⟩)] wx fun e w' => e = .returned (.agg #[.int .u64 g, .int .i64 ((g : Int) % 2), .int .i64 0, .int .i64 0, .int .i64 ((30 + sn.length : Nat) : Int)]) ∧ GnI w r K L g sn w' := by
  obtain ⟨v0, v1, na, ns, nc, hl, hf⟩ := h.lg
  refine (lStat hl).mono ?_
  rintro e w' ⟨rfl, hb⟩
  exact ⟨rfl, h.below hb⟩
/-- What Open answers of it: a log like it. -/
def GnO (w : World) (r K g : Nat) (sn : List Int) (wx : World) (e : Ending) (w' : World) : Prop :=
  ∃ L' a n k v0 v1 na ns nc, e = .returned (.tuple #[.pointer (some ⟨L', 0, none⟩), .agg #[.int .u64 g, .slice a n k, .slice none 0 0, .int .i64 0], .nilIface]) ∧ Lg w' w.heap.size K L' v0 v1 (sgG ((g : Int) % 2) (headB g ++ recB sn) na ns nc) false g ((g : Int) % 2) 0 0 ((30 + sn.length : Nat) : Int) ∧ n = sn.length ∧ Byts w' a n sn ∧ Below wx.heap.size wx w' ∧ wx.heap.size ≤ L' ∧ ¬ Foot K v0 v1 r
theorem gn_open (h : GnI w r K L g sn wx) (hH : Halves w) : Calls Tryd.prog 14 #[.pointer (some ⟨K, 0, none⟩)] wx (GnO w r K g sn wx) := by
  obtain ⟨v0, v1, na, ns, nc, hl, hf⟩ := h.lg
  have hg0 := h.g0
  have hg1 := h.g1
  have hsl := h.sl
  have hlen : (headB (g : Int) ++ recB sn).length = 30 + sn.length := head_rec_len
  have hrng : Rng (headB (g : Int) ++ recB sn) := rng_app (hdR g (by omega) (by omega)) (rng_rec h.rs)
  have fin : ∀ e w', OpenQ wx w.heap.size K v0 v1 (sgG ((g : Int) % 2) (headB g ++ recB sn) na ns nc) g sn e w' → GnO w r K g sn wx e w' := by
    rintro e w' ⟨L', a, n, k, he, hl', hrow, hb, hLs⟩
    obtain ⟨e1, e2, _⟩ := hrow.byts'
    exact ⟨L', a, n, k, v0, v1, na, ns, nc, he, hl', e1, e2, hb, hLs, hf⟩
  rcases (show (g : Int) % 2 = 0 ∨ (g : Int) % 2 = 1 by omega) with h2 | h2
  · have hp := ps_gen (g := g) (sn := sn) (ar := 0) hg0 (by omega) hsl h2
    rw [h2] at hl fin
    refine (lOpen_0 hl.d h.bl.size rfl ⟨?_, ?_, ?_, ?_⟩ hrng (hH.under' h.bl) hdR rfl hp (by omega) (by omega) ?_ rfl).mono fin
    · exact Nat.le_refl _
    · exact Nat.le_refl _
    · show (headB (g : Int) ++ recB sn).length ≤ 16777216
      omega
    · exact Nat.zero_le _
    · exact hlen.symm
  · have hp := ps_gen (g := g) (sn := sn) (ar := 1) hg0 (by omega) hsl h2
    rw [h2] at hl fin
    refine (lOpen_1 hl.d h.bl.size rfl ⟨?_, ?_, ?_, ?_⟩ hrng (hH.under' h.bl) hdR rfl hp (by omega) (by omega) ?_ rfl).mono fin
    · exact Nat.le_refl _
    · exact Nat.le_refl _
    · exact Nat.zero_le _
    · show (headB (g : Int) ++ recB sn).length ≤ 16777216
      omega
    · exact hlen.symm
/-- The block r names another log. -/
theorem gn_name {L' : Nat} {v0 v1 : Value} {na ns nc : Int} (h : GnI w r K L g sn wx) (hb : Below wx.heap.size wx w') (hl : Lg w' w.heap.size K L' v0 v1 (sgG ((g : Int) % 2) (headB g ++ recB sn) na ns nc) false g ((g : Int) % 2) 0 0 ((30 + sn.length : Nat) : Int)) (hL : wx.heap.size ≤ L') (hf : ¬ Foot K v0 v1 r) : GnI w r K L' g sn (w'.setCell ⟨r, 1, none⟩ (.pointer (some ⟨L', 0, none⟩))) := by
  have hr : r < wx.heap.size := cell_lt h.r0
  have h' := h.below hb
  have off : Off (fun k => k = r) w' (w'.setCell ⟨r, 1, none⟩ (.pointer (some ⟨L', 0, none⟩))) := (Off.refl (fun k => k = r) w').setCell (p := ⟨r, 1, none⟩) rfl _
  have hn : ¬ L' = r := by omega
  have hLl := hl.lt
  refine ⟨⟨v0, v1, na, ns, nc, ⟨hl.d.off off (fun k hk e => hf (e ▸ hk)), off_cell off hl.c0 hn, off_cell off hl.c1 hn, off_cell off hl.c2 hn, off_cell off hl.c3 hn, off_cell off hl.c4 hn, off_cell off hl.c5 hn, off_cell off hl.c6 hn, fun o => (off.frozen (p := ⟨L', o, none⟩) hLl hn).trans (hl.fr o), hl.nf, hl.ge⟩, hf⟩, h'.bl.trans (off.below h'.bl.size (fun k e => by have := h.rg; omega)), (World.cell?_setCell_other _ _ _ _ (by simp)).trans h'.r0, World.cell?_setCell_same' _ _ _ (by rw [h'.r1]; rfl), fun q => ?_, by omega, h.rg, h.sl, h.rs, h.g0, h.g1⟩
  rw [World.frozen?_setCell]; exact h'.rf q
theorem gn_start (w : World) (hH : Halves w) : Calls Tryd.prog 8 #[] w fun e w' => ∃ r K L, e = .returned (.tuple #[.pointer (some ⟨r, 0, none⟩), .bool true]) ∧ GnI w r K L 1 [] w' := by
  refine (begin_full w hH).mono ?_
  rintro e w' ⟨r, K, L, u0, u1, rfl, hl, hb, hc, hfr, hf, hn, hg, hlt⟩
  refine ⟨r, K, L, rfl, ⟨u0, u1, 1, 1, 2, ?_, hf⟩, hb, hc 0, hc 1, hfr, hn, hg, by simp, fun z hz => (by cases hz), by omega, by omega⟩
  have e1 : sgG (((1 : Nat) : Int) % 2) (headB ((1 : Nat) : Int) ++ recB []) 1 1 2 = sgB := by
    have := len_new
    show (⟨[], headB 1 ++ recB [], 0, (headB 1 ++ recB []).length, false, -1, 1, 1, 2⟩ : Sg) = _
    rw [this]; rfl
  rw [e1]
  exact hl
end
end Go.Proofs.YtgminfbhaclbbaaDoor
