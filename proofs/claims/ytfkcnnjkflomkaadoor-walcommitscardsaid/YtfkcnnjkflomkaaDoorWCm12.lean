import Derived.Test.YtfkcnnjkflomkaaDoorWRep2
import Derived.Test.YtfkcnnjkflomkaaDoorWCm7
import Derived.Deep.RegionHeld3
/-
  The law's beginning: lists of records, the one's beginning of the other.
-/
namespace Go.Proofs.YtfkcnnjkflomkaaDoor
open Go.RowKit Go.BigFrame

set_option maxRecDepth 100000 in
set_option maxHeartbeats 4000000 in
theorem beginning_true {x : World} {N M : Nat} {ao bo : Option Addr} {ac bc : Nat} {us vs : List Value} {ds rs : List (List Int)} (hu : VRow x N 28 (.slice ao us.length ac) us) (hv : VRow x M 28 (.slice bo vs.length bc) vs) (pu : Pcs x us ds) (pv : Pcs x vs rs) (hle : us.length ≤ vs.length) (hpre : ∀ (j : Nat) (d : List Int), ds[j]? = some d → rs[j]? = some d) (hn : vs.length ≤ 16777216) (hdl : ∀ d ∈ ds, d.length ≤ 16777216) :
    Calls Tryd.prog 17 #[.slice ao us.length ac, .slice bo vs.length bc] x fun e w' => e = .returned (.bool true) ∧ Below x.heap.size x w' := by
  have HS : Hid (VRow x N 28 (.slice ao us.length ac) us ∧ VRow x M 28 (.slice bo vs.length bc) vs ∧ Pcs x us ds ∧ Pcs x vs rs ∧ (∀ (j : Nat) (d : List Int), ds[j]? = some d → rs[j]? = some d) ∧ ∀ d ∈ ds, d.length ≤ 16777216) := ⟨hu, hv, pu, pv, hpre, hdl⟩
  obtain ⟨n, hnn⟩ : ∃ n, us.length = n := ⟨_, rfl⟩
  obtain ⟨m, hmm⟩ : ∃ m, vs.length = m := ⟨_, rfl⟩
  have HN : Hid (us.length = n ∧ vs.length = m) := ⟨hnn, hmm⟩
  rw [hnn, hmm] at hle ⊢
  rw [hmm] at hn
  clear hu hv pu pv hpre hdl hnn hmm
  have q1 : ¬ (m : Int) < (n : Int) := by omega
  have q2 : decide ((m : Int) < (n : Int)) = false := decide_eq_false q1
  have hni : (n : Int) ≤ 16777216 := by omega
  go_enter Tryd.func17, Tryd.ntmps17
  go_wp2_with fail
  go_loopw [5] (fun t5 wx => ∃ j : Nat, j ≤ n ∧ t5 = .int .i64 j ∧ Hid (Below x.heap.size x wx)) (fun t5 _ => n - (intOf t5).toNat)
  case atStart => exact ⟨0, by omega, rfl, Below.refl _ _⟩
  case round =>
    obtain ⟨j, hj, rfl, HB⟩ := hrel
    by_cases hlt : j < n
    · have hlti : (j : Int) < n := by omega
      have hjm : (j : Int) < m := by omega
      obtain ⟨u, hju⟩ : ∃ u, us[j]? = some u := ⟨_, List.getElem?_eq_getElem (by have := HN.out.1; omega)⟩
      obtain ⟨v, hjv⟩ : ∃ v, vs[j]? = some v := ⟨_, List.getElem?_eq_getElem (by have := HN.out.2; omega)⟩
      obtain ⟨hu, hv, pu, pv, hpre, hdl⟩ := HS.out
      obtain ⟨d, hjd⟩ : ∃ d, ds[j]? = some d := ⟨_, List.getElem?_eq_getElem (by have := HN.out.1; have := pu.1; omega)⟩
      obtain ⟨ua, uc, rfl, hub, _⟩ := pu.2 j u d hju hjd
      obtain ⟨va, vc, rfl, hvb, _⟩ := pv.2 j v d hjv (hpre j d hjd)
      obtain ⟨ga, rfl⟩ : ∃ g, ao = some ⟨g, 0, none⟩ := by
        rcases hu.form with ⟨e, h0⟩ | ⟨g, cap, e, _⟩
        · rw [h0] at hju; cases hju
        · cases e; exact ⟨g, rfl⟩
      obtain ⟨gb, rfl⟩ : ∃ g, bo = some ⟨g, 0, none⟩ := by
        rcases hv.form with ⟨e, h0⟩ | ⟨g, cap, e, _⟩
        · rw [h0] at hjv; cases hjv
        · cases e; exact ⟨g, rfl⟩
      have c1 : wr.cell? ⟨ga, j, none⟩ = some (.slice ua d.length uc) := (HB.out.cell (p := ⟨ga, j, none⟩) (cell_lt (hu.slot hju))).trans (hu.slot hju)
      have c2 : wr.cell? ⟨gb, j, none⟩ = some (.slice va d.length vc) := (HB.out.cell (p := ⟨gb, j, none⟩) (cell_lt (hv.slot hjv))).trans (hv.slot hjv)
      have hd47 : d.length ≤ 16777216 := hdl d (List.mem_of_getElem? hjd)
      have HSm : Hid (∀ z, Below wr.heap.size wr z → Calls Tryd.prog 15 #[.slice ua d.length uc, .slice va d.length vc] z fun e w' => e = .returned (.bool true) ∧ Below wr.heap.size wr w' ∧ w'.cell? ⟨ga, j, none⟩ = some (.slice ua d.length uc) ∧ w'.cell? ⟨gb, j, none⟩ = some (.slice va d.length vc)) := fun z hz => (same_true (hub.below (below_then HB.out hz)) (hvb.below (below_then HB.out hz)) (by omega)).mono fun e w' ⟨he, q, hq⟩ => by
        have hb' : Below wr.heap.size wr w' := by rw [hq]; exact hz.trans ⟨rfl, rfl, rfl, Nat.le_refl _, fun _ _ => rfl⟩
        exact ⟨he, hb', (hb'.cell (p := ⟨ga, j, none⟩) (cell_lt c1)).trans c1, (hb'.cell (p := ⟨gb, j, none⟩) (cell_lt c2)).trans c2⟩
      have hB0 : Below wr.heap.size wr wr := Below.refl _ _
      clear hu hv pu pv hpre hdl hub hvb hju hjv hjd
      go_wp2_with fail
      go_region_held3 (fun z => z.cell? ⟨ga, j, none⟩ = some (.slice ua d.length uc) ∧ z.cell? ⟨gb, j, none⟩ = some (.slice va d.length vc)) (simp [*]) (first | (go_at_call 15; refine (HSm.out _ ?_).mono ?_; (first | assumption | exact Below.drew (by assumption)); rintro e wp ⟨rfl, hp1, f0, f1⟩))
      all_goals
        go_wp2_with fail
        go_roundw
        case rel => exact ⟨j + 1, by omega, by go_num, below_then HB.out hp1⟩
        case measure => simp [intOf]; omega
    · have hlti : ¬ (j : Int) < n := by omega
      go_wp2_with fail
      go_ret
      exact ⟨rfl, HB.out⟩
end Go.Proofs.YtfkcnnjkflomkaaDoor

/-
  WalCommits: the law's found: what Open finds is taken over.
-/
namespace Go.Proofs.YtfkcnnjkflomkaaDoor
open Go.RowKit Go.BigFrame

theorem VRow.cut {w : World} {B : Nat} {e : TypeId} {xs : List Value} {g cap n : Nat} (h : VRow w B e (.slice (some ⟨g, 0, none⟩) n cap) xs) {k : Nat} (hk : k ≤ xs.length) : VRow w B e (.slice (some ⟨g, 0, none⟩) k cap) (xs.take k) := by
  rcases h.2 with ⟨h0, _⟩ | ⟨g', cap', cur, e, hB, hg, hn, hm, hc, ht⟩
  · cases h0
  · simp only [Value.slice.injEq, Option.some.injEq, Addr.mk.injEq, and_true] at e
    obtain ⟨rfl, _, rfl⟩ := e
    have hl : (xs.take k).length = k := by simp; omega
    refine ⟨by omega, Or.inr ⟨g, cap, cur, by rw [hl], hB, hg, by omega, hm, hc, ?_⟩⟩
    rw [hl, ← ht, List.take_take]
    congr 1
    omega
theorem Pcs.take {w : World} {us : List Value} {ds : List (List Int)} (h : Pcs w us ds) (m : Nat) : Pcs w (us.take m) (ds.take m) := by
  refine ⟨by rw [List.length_take, List.length_take, h.1], fun j u d hu hd => ?_⟩
  rw [List.getElem?_take] at hu hd
  split at hu
  · rw [if_pos (by assumption)] at hd
    exact h.2 j u d hu hd
  · cases hu
theorem Lg.off {P : Nat → Prop} {x x' : World} {B K L : Nat} {v0 v1 : Value} {σ : Sg} {dd : Bool} {gn ar rc wt by_ : Int} (h : Lg x B K L v0 v1 σ dd gn ar rc wt by_) (ho : Off P x x') (hP : ∀ k, (Foot K v0 v1 k ∨ k = L) → ¬ P k) : Lg x' B K L v0 v1 σ dd gn ar rc wt by_ := by
  have hl := h.lt
  have hc : ∀ o, x'.cell? ⟨L, o, none⟩ = x.cell? ⟨L, o, none⟩ := fun o => ho.cell (p := ⟨L, o, none⟩) hl (hP L (Or.inr rfl))
  exact ⟨h.d.off ho (fun k g => hP k (Or.inl g)), (hc 0).trans h.c0, (hc 1).trans h.c1, (hc 2).trans h.c2, (hc 3).trans h.c3, (hc 4).trans h.c4, (hc 5).trans h.c5, (hc 6).trans h.c6, fun o => (ho.frozen (p := ⟨L, o, none⟩) hl (hP L (Or.inr rfl))).trans (h.fr o), h.nf, h.ge⟩
theorem set_three {x : World} {R : Nat} {c1 c2 c3 : Value} (h1 : x.cell? ⟨R, 1, none⟩ = some c1) (h2 : x.cell? ⟨R, 2, none⟩ = some c2) (h3 : x.cell? ⟨R, 3, none⟩ = some c3) (u1 u2 u3 : Value) : Off (fun k => k = R) x (((x.setCell ⟨R, 1, none⟩ u1).setCell ⟨R, 2, none⟩ u2).setCell ⟨R, 3, none⟩ u3) ∧ (((x.setCell ⟨R, 1, none⟩ u1).setCell ⟨R, 2, none⟩ u2).setCell ⟨R, 3, none⟩ u3).cell? ⟨R, 0, none⟩ = x.cell? ⟨R, 0, none⟩ ∧ (((x.setCell ⟨R, 1, none⟩ u1).setCell ⟨R, 2, none⟩ u2).setCell ⟨R, 3, none⟩ u3).cell? ⟨R, 1, none⟩ = some u1 ∧ (((x.setCell ⟨R, 1, none⟩ u1).setCell ⟨R, 2, none⟩ u2).setCell ⟨R, 3, none⟩ u3).cell? ⟨R, 2, none⟩ = some u2 ∧ (((x.setCell ⟨R, 1, none⟩ u1).setCell ⟨R, 2, none⟩ u2).setCell ⟨R, 3, none⟩ u3).cell? ⟨R, 3, none⟩ = some u3 := by
  have so : ∀ (y : World) (p q : Nat) (u : Value), p ≠ q → (y.setCell ⟨R, p, none⟩ u).cell? ⟨R, q, none⟩ = y.cell? ⟨R, q, none⟩ := fun y p q u h => World.cell?_setCell_other _ _ _ _ (by simp; first | done | omega)
  have ss : ∀ (y : World) (p : Nat) (u c : Value), y.cell? ⟨R, p, none⟩ = some c → (y.setCell ⟨R, p, none⟩ u).cell? ⟨R, p, none⟩ = some u := fun y p u c h => World.cell?_setCell_same' _ _ _ (by rw [h]; rfl)
  have off : ∀ (y : World) (p : Nat) (u : Value), Off (fun k => k = R) x y → Off (fun k => k = R) x (y.setCell ⟨R, p, none⟩ u) := fun y p u h => h.setCell (p := ⟨R, p, none⟩) rfl u
  refine ⟨off _ _ _ (off _ _ _ (off _ _ _ (Off.refl _ _))), ?_, ?_, ?_, ?_⟩
  · rw [so _ 3 0 _ (by omega), so _ 2 0 _ (by omega), so _ 1 0 _ (by omega)]
  · rw [so _ 3 1 _ (by omega), so _ 2 1 _ (by omega)]
    exact ss _ 1 _ c1 h1
  · rw [so _ 3 2 _ (by omega)]
    exact ss _ 2 _ c2 (by rw [so _ 1 2 _ (by omega)]; exact h2)
  · exact ss _ 3 _ c3 (by rw [so _ 2 3 _ (by omega), so _ 1 3 _ (by omega)]; exact h3)
/-- What found leaves: the run goes on with the first M records. -/
def FoQ (w : World) (T : Nat → Prop) (wt : World) (r K g : Nat) (al0 : List (List Int)) (lo : Nat) (ex : Nat → Prop) (w' : World) : Prop :=
  ∃ (g' : Nat) (base' rs' : List (List Int)) (M L : Nat) (v : Value) (vs : List Value), base' ++ rs' = al0.take M ∧ lo ≤ M ∧ M ≤ al0.length ∧ g ≤ g' ∧ g' ≤ g + 1 ∧ ex M ∧ CmI w T wt r K L g' base' rs' rs'.length v vs (al0.take M) M w'
section
variable {w x y wt : World} {T : Nat → Prop} {r K L g M : Nat} {base rs : List (List Int)} {lv : Value} {av : Option Addr} {nv cv : Nat} {vs : List Value} {ql : List (List Int)} {sf : Int} {u0 u1 : Value} {fu na ns nc : Int}
/-- The three stores. -/
theorem fo_store (hG : CmG g base rs) (hl : Lg x w.heap.size K L u0 u1 (sgT (g % 2) (genB g (laid base) rs) [] (30 + lays base + sizes rs) 0 false fu na ns nc) false g ((g : Int) % 2) rs.length 0 ((30 + lays base + sizes rs : Nat) : Int)) (hm : CmM w T wt r K lv (.slice av nv cv) vs ql sf (fun k => Foot K u0 u1 k ∨ k = L) x) (hM : M ≤ ql.length) :
    CmI w T wt r K L g base rs rs.length (.slice av M cv) (vs.take M) (ql.take M) M (((x.setCell ⟨r, 1, none⟩ (.pointer (some ⟨L, 0, none⟩))).setCell ⟨r, 2, none⟩ (.slice av M cv)).setCell ⟨r, 3, none⟩ (.int .i64 M)) := by
  obtain ⟨ho, s0, s1, s2, s3⟩ := set_three hm.r1 hm.r2 hm.r3 (.pointer (some ⟨L, 0, none⟩)) (.slice av M cv) (.int .i64 M)
  have hrl : r < x.heap.size := cell_lt hm.r0
  have hMv : M ≤ vs.length := by rw [hm.pc.1]; exact hM
  have hob : ∀ q, (Value.slice av M cv).ownBlock = some q → (Value.slice av nv cv).ownBlock = some q := fun q hq => by
    cases av with
    | none => cases hq
    | some a => exact hq
  have hfr : ∀ q, (((x.setCell ⟨r, 1, none⟩ (.pointer (some ⟨L, 0, none⟩))).setCell ⟨r, 2, none⟩ (.slice av M cv)).setCell ⟨r, 3, none⟩ (.int .i64 M)).frozen? ⟨r, q, none⟩ = false := fun q => by
    rw [World.frozen?_setCell, World.frozen?_setCell, World.frozen?_setCell]
    exact hm.rf q
  have hvr : VRow x w.heap.size 28 (.slice av M cv) (vs.take M) := by
    rcases hm.vr.form with ⟨e, h0⟩ | ⟨gg, cap, e, _⟩
    · subst h0
      have h0 : M = 0 := by simpa using hMv
      subst h0
      cases e
      exact VRow.nil _ _ _
    · have hv := hm.vr
      cases e
      exact hv.cut hMv
  refine ⟨hG, Nat.le_refl _, u0, u1, fu, na, ns, nc, ?_, ⟨hm.bl.trans (ho.below hm.bl.size (fun k e => by rw [e]; exact hm.rg)), s0.trans hm.r0, s1, s2, s3, hfr, hm.rg, hm.rp, hvr.off ho (fun q hq => (hm.vp q (hob q hq)).2), fun q hq => hm.vp q (hob q hq), ?_, fun j b o n c hu => ?_, fun b hb => ?_⟩⟩
  · rw [List.take_length, show ((rs.length - rs.length : Nat) : Int) = 0 by omega]
    exact hl.off ho (fun k hk e => hm.rp (by rw [← e]; exact hk))
  · refine ⟨(hm.pc.take M).1, fun j u d hu hd => ?_⟩
    obtain ⟨a, c, rfl, hb, hn⟩ := (hm.pc.take M).2 j u d hu hd
    refine ⟨a, c, rfl, byts_off hb ho (fun b o _ e => ?_), hn⟩
    subst e
    rw [List.getElem?_take] at hu
    split at hu
    · exact (hm.pp j b o _ c hu).2.2.1
    · cases hu
  · rw [List.getElem?_take] at hu
    split at hu
    · obtain ⟨h1, h2, h3, h4⟩ := hm.pp j b o n c hu
      exact ⟨Nat.lt_of_lt_of_le h1 ho.size, h2, h3, fun e => h4 (hob b e)⟩
    · cases hu
  · obtain ⟨h1, h2, h3, h4, h5⟩ := hm.kt b hb
    exact ⟨Nat.lt_of_lt_of_le h1 ho.size, (ho.block b h1 h4).trans h2, h3, h4, fun e => h5 (hob b e)⟩
end
end Go.Proofs.YtfkcnnjkflomkaaDoor

/-
  WalCommits: the law's found, walked.
-/
namespace Go.Proofs.YtfkcnnjkflomkaaDoor
open Go.RowKit Go.BigFrame

/-- What found answers: it goes on, or the disk refused (Z). -/
def FoE (w : World) (T : Nat → Prop) (wt : World) (r K g : Nat) (al0 : List (List Int)) (lo : Nat) (ex : Nat → Prop) (Z : World → Prop) (e : Ending) (w' : World) : Prop :=
  (e = .returned (.bool true) ∧ FoQ w T wt r K g al0 lo ex w') ∨ (e = .returned (.bool false) ∧ Z w')
/-- What Open answers found. -/
def FoO (w : World) (T : Nat → Prop) (wt : World) (r K N g : Nat) (al0 : List (List Int)) (lo : Nat) (ex : Nat → Prop) (lv v : Value) (vs : List Value) (ql : List (List Int)) (sf : Int) (Z : World → Prop) (e : Ending) (w' : World) : Prop :=
  CmU w T wt r K N g al0 lo ex lv v vs ql sf e w' ∨ ∃ b, e = .returned (.tuple #[.pointer none, .agg #[.int .u64 0, .slice none 0 0, .slice none 0 0, .int .i64 0], .iface 98 (.pointer (some ⟨b, 0, none⟩))]) ∧ Z w'
set_option maxRecDepth 100000 in
set_option maxHeartbeats 8000000 in
theorem found_any {w wx wt : World} {T : Nat → Prop} {r K g : Nat} {al0 ql : List (List Int)} {lo : Nat} {ex : Nat → Prop} {lv v : Value} {vs : List Value} {sf : Int} {Z : World → Prop} (hr0 : wx.cell? ⟨r, 0, none⟩ = some (.pointer (some ⟨K, 0, none⟩))) (hO : Calls Tryd.prog 14 #[.pointer (some ⟨K, 0, none⟩)] wx (FoO w T wt r K wx.heap.size g al0 lo ex lv v vs ql sf Z)) (hZ : ∀ x y, Z x → Below x.heap.size x y → Z y) (hq : al0 = ql.take al0.length) (hsf : sf ≤ lo) (hly : lays ql ≤ 1048576) :
    Calls Tryd.prog 43 #[.pointer (some ⟨r, 0, none⟩)] wx (FoE w T wt r K g al0 lo ex Z) := by
  have HO : Hid (Calls Tryd.prog 14 #[.pointer (some ⟨K, 0, none⟩)] wx (FoO w T wt r K wx.heap.size g al0 lo ex lv v vs ql sf Z)) := hO
  have HZ : Hid (∀ x y, Z x → Below x.heap.size x y → Z y) := hZ
  have HQ : Hid (al0 = ql.take al0.length ∧ lays ql ≤ 1048576 ∧ sf ≤ lo) := ⟨hq, hly, hsf⟩
  clear hO hZ hq hly hsf
  go_enter Tryd.func43, Tryd.ntmps43
  go_wp2_with fail
  refine HO.out.mono ?_
  rintro e w7 (⟨g', base', rs', M, L, a, n, k, v2, us, tn, rfl, hrow, hvr, hpc, hL, hM1, hM2, hM3, hg1, hg2, hex, hG, u0, u1, fu, na, ns, nc, hlg, hm⟩ | ⟨b, rfl, hz⟩)
  · obtain ⟨va, vc, hv2, _⟩ := hvr.isSlice
    subst hv2
    obtain ⟨W8, hW8⟩ : ∃ W, w7.alloc (.cells #[.int .u64 g', .slice a n k, .slice va us.length vc, .int .i64 tn] 44) = W := ⟨_, rfl⟩
    have HW8 : Hid (w7.alloc (.cells #[.int .u64 g', .slice a n k, .slice va us.length vc, .int .i64 tn] 44) = W8) := hW8
    have b78 : Below w7.heap.size w7 W8 := by rw [← hW8]; exact (Below.refl _ _).alloc (Nat.le_refl _) _
    have hlow := lg_low hlg
    have hm8 := hm.step (Q := fun k => Foot K u0 u1 k ∨ k = L) (Off.of_below b78) hlow (fun _ _ g => g)
    have hl8 := hlg.below b78
    have hly := HQ.out.2.1
    have hqe := HQ.out.1
    have hlr := hG.szs
    have hall : ∀ d ∈ base' ++ rs', 1 ≤ d.length ∧ d.length ≤ 20000 := fun d hd => ⟨(hG.ln d hd).1, (hG.ln d hd).2.1⟩
    obtain ⟨hb1, hb2, hb3, hb4⟩ : Byts W8 a n (laid base') ∧ n ≤ k ∧ k ≤ maxLen ∧ (a = none → k = 0) := by
      obtain ⟨e1, e2, e3, _⟩ := hrow.byts'
      rcases hrow.form with ⟨e, _⟩ | ⟨gg, cap, e, _, _, h1, h2⟩
      · cases e
        exact ⟨e2.below b78, Nat.le_refl _, Nat.zero_le _, fun _ => rfl⟩
      · cases e
        exact ⟨e2.below b78, h1, h2, fun e => (by cases e)⟩
    have HWh : Hid (Calls Tryd.prog 63 #[.agg #[.int .u64 g', .slice a n k, .slice va us.length vc, .int .i64 tn]] W8 (WhQ W8 (base' ++ rs'))) := whole_ok (N := wx.heap.size) hb1 hb2 hb3 hb4 (hvr.off (Off.of_below (P := fun _ => False) b78) (fun _ _ => id)) (hpc.below b78) (by have := lays_app base' rs'; have := hG.ly; omega) (fun d hd => hall d (List.mem_append_left _ hd)) (by have := hpc.1; omega)
    have HX : Hid (base' ++ rs' = al0.take M ∧ lo ≤ M ∧ M ≤ al0.length ∧ g ≤ g' ∧ g' ≤ g + 1 ∧ ex M ∧ CmG g' base' rs') := ⟨hM1, hM2, hM3, hg1, hg2, hex, hG⟩
    have HM8 : Hid (CmM w T wt r K lv v vs ql sf (fun k => Foot K u0 u1 k ∨ k = L) W8 ∧ Lg W8 w.heap.size K L u0 u1 (sgT (g' % 2) (genB g' (laid base') rs') [] (30 + lays base' + sizes rs') 0 false fu na ns nc) false g' ((g' : Int) % 2) rs'.length 0 ((30 + lays base' + sizes rs' : Nat) : Int)) := ⟨hm8, hl8⟩
    have f0 : W8.cell? ⟨w7.heap.size, 0, none⟩ = some (.int .u64 g') := by rw [← hW8]; exact World.cell?_alloc_new _ _ _ _
    clear hrow hvr hpc hL hM1 hM2 hM3 hg1 hg2 hex hG hlg hm hW8 b78 hlow hm8 hl8 hly hqe hlr hall hb1 hb2 hb3 hb4 HO f0
    go_wp2_with fail
    rw [HW8.out]
    refine HWh.out.mono ?_
    rintro e w9 ⟨ga, gn, gk, gs, rfl, hgv, hgp, hgb⟩
    obtain ⟨ga2, gc2, hge, _⟩ := hgv.isSlice
    cases hge
    obtain ⟨hX1, hX2, hX3, hX4, hX5, hX6, hG⟩ := HX.out
    have hgl : gs.length = M := by
      rw [hgp.1, hX1, List.length_take]
      omega
    subst hgl
    have hlow := lg_low HM8.out.2
    have hm9 := HM8.out.1.step (Q := fun k => Foot K u0 u1 k ∨ k = L) (Off.of_below hgb) hlow (fun _ _ g => g)
    have hl9 := HM8.out.2.below hgb
    obtain ⟨av, cv, hve, _⟩ := hm9.vr.isSlice
    subst hve
    have hvl := hm9.pc.1
    have hqe := HQ.out.1
    have hql := len_lays ql
    have hly := HQ.out.2.1
    have haq : al0.length ≤ ql.length := by
      have := congrArg List.length hqe
      rw [List.length_take] at this
      omega
    have hpre : ∀ (j : Nat) (d : List Int), (base' ++ rs')[j]? = some d → ql[j]? = some d := fun j d hd => by
      rw [hX1, hqe, List.take_take, List.getElem?_take] at hd
      split at hd
      · exact hd
      · cases hd
    have HBg : Hid (Calls Tryd.prog 17 #[.slice ga gs.length gk, .slice av vs.length cv] w9 fun e w' => e = .returned (.bool true) ∧ Below w9.heap.size w9 w') := beginning_true hgv hm9.vr hgp hm9.pc (by omega) hpre (by omega) (fun d hd => by have := (hG.ln d hd).2.1; omega)
    have HM9 : Hid (CmM w T wt r K lv (.slice av vs.length cv) vs ql sf (fun k => Foot K u0 u1 k ∨ k = L) w9 ∧ Lg w9 w.heap.size K L u0 u1 (sgT (g' % 2) (genB g' (laid base') rs') [] (30 + lays base' + sizes rs') 0 false fu na ns nc) false g' ((g' : Int) % 2) rs'.length 0 ((30 + lays base' + sizes rs' : Nat) : Int)) := ⟨hm9, hl9⟩
    have c2 := hm9.r2
    have HL2 : Hid (gs.length ≤ vs.length ∧ gs.length ≤ ql.length) := ⟨by omega, by omega⟩
    have HT : Hid (ql.take gs.length = al0.take gs.length) := by
      rw [hqe, List.take_take]
      congr 1
      omega
    clear hgv hgp hgb hX1 hX2 hX3 hX4 hX5 hX6 hG hlow hm9 hl9 hvl hqe hql hly haq hpre HWh HM8
    go_wp2_with fail
    refine HBg.out.mono ?_
    rintro e w10 ⟨rfl, hb10⟩
    have hm10 := HM9.out.1.step (Q := fun k => Foot K u0 u1 k ∨ k = L) (Off.of_below hb10) (lg_low HM9.out.2) (fun _ _ g => g)
    have hl10 := HM9.out.2.below hb10
    have HF : Hid (CmI w T wt r K L g' base' rs' rs'.length (.slice av gs.length cv) (vs.take gs.length) (ql.take gs.length) gs.length (((w10.setCell ⟨r, 1, none⟩ (.pointer (some ⟨L, 0, none⟩))).setCell ⟨r, 2, none⟩ (.slice av gs.length cv)).setCell ⟨r, 3, none⟩ (.int .i64 gs.length))) := fo_store HX.out.2.2.2.2.2.2 hl10 hm10 HL2.out.2
    have d1 := hm10.r1
    have d2 := hm10.r2
    have d3 := hm10.r3
    have z1 := hm10.rf 1
    have z2 := hm10.rf 2
    have z3 := hm10.rf 3
    have hsl : ¬ (gs.length : Int) < sf := by have := HQ.out.2.2; have := HX.out.2.1; omega
    have hsd : decide ((gs.length : Int) < sf) = false := decide_eq_false hsl
    have hfm := hm10.vr.form
    clear hm10 hl10 hb10 HBg c2 HM9
    rcases hfm with ⟨e, h0⟩ | ⟨gg, cap, e, _, _, hcap, hcm⟩
    · subst h0
      cases e
      have hg0 : gs = [] := List.eq_nil_of_length_eq_zero (by have := HL2.out.1; simpa using this)
      subst hg0
      have hsl0 : ¬ (0 : Int) < sf := hsl
      have hsd0 : decide ((0 : Int) < sf) = false := decide_eq_false hsl0
      go_wp2_with fail
      go_ret
      refine Or.inl ⟨rfl, g', base', rs', 0, L, .slice none 0 0, [], HX.out.1, HX.out.2.1, HX.out.2.2.1, HX.out.2.2.2.1, HX.out.2.2.2.2.1, HX.out.2.2.2.2.2.1, ?_⟩
      have hT : ql.take 0 = al0.take 0 := HT.out
      rw [← hT]
      exact HF.out
    · cases e
      have hgc : (gs.length : Int) ≤ cv := by have := HL2.out.1; omega
      have hgc2 : (gs.length : Int) ≤ vs.length := by have := HL2.out.1; omega
      unfold maxLen at hcm
      have hcmi : (cv : Int) ≤ 9223372036854775807 := by omega
      go_wp2_with fail
      go_ret
      refine Or.inl ⟨rfl, g', base', rs', gs.length, L, .slice (some ⟨gg, 0, none⟩) gs.length cv, vs.take gs.length, HX.out.1, HX.out.2.1, HX.out.2.2.1, HX.out.2.2.2.1, HX.out.2.2.2.2.1, HX.out.2.2.2.2.2.1, ?_⟩
      rw [← HT.out]
      exact HF.out
  · have HZz : Hid (Z w7) := hz
    clear hz
    go_wp2_with fail
    go_ret
    exact Or.inr ⟨rfl, HZ.out _ _ HZz.out ((Below.refl _ _).alloc (Nat.le_refl _) _)⟩
end Go.Proofs.YtfkcnnjkflomkaaDoor

/-
  WalCommits: the law's crash, walked.
-/
namespace Go.Proofs.YtfkcnnjkflomkaaDoor
open Go.RowKit Go.BigFrame

theorem cell_block {x y : World} {b : Nat} (h : y.heap[b]? = x.heap[b]?) (o : Nat) : y.cell? ⟨b, o, none⟩ = x.cell? ⟨b, o, none⟩ := by
  unfold World.cell?
  simp only [h]
section
variable {w wx wy wt W0 : World} {T T' : Nat → Prop} {r K : Nat} {lv v : Value} {vs : List Value} {ql : List (List Int)} {sf : Int} {P : Nat → Prop}
theorem CmM.kept (h : CmM w T' W0 r K lv v vs ql sf P wx) (hT : ∀ b, T b → T' b ∧ W0.heap[b]? = wt.heap[b]?) : CmM w T wt r K lv v vs ql sf P wx :=
  ⟨h.bl, h.r0, h.r1, h.r2, h.r3, h.rf, h.rg, h.rp, h.vr, h.vp, h.pc, h.pp, fun b hb => by
    obtain ⟨h1, h2, h3, h4, h5⟩ := h.kt b (hT b hb).1
    exact ⟨h1, h2.trans (hT b hb).2, h3, h4, h5⟩⟩
/-- One more block that stays: a box. -/
theorem CmM.box (h : CmM w T wt r K lv v vs ql sf P wx) (hP : ∀ k, P k → w.heap.size ≤ k ∧ k < wx.heap.size) (o : Obj) : CmM w (fun b => T b ∨ b = wx.heap.size) (wx.alloc o) r K lv v vs ql sf P (wx.alloc o) := by
  have hb : Below wx.heap.size wx (wx.alloc o) := (Below.refl _ _).alloc (Nat.le_refl _) _
  have g := h.step (Q := P) (Off.of_below hb) (fun k hk => (hP k hk).1) (fun _ _ g => g)
  refine ⟨g.bl, g.r0, g.r1, g.r2, g.r3, g.rf, g.rg, g.rp, g.vr, g.vp, g.pc, g.pp, fun b hb' => ?_⟩
  rcases hb' with hb' | rfl
  · obtain ⟨h1, _, h3, h4, h5⟩ := g.kt b hb'
    exact ⟨h1, rfl, h3, h4, h5⟩
  · refine ⟨by simp, rfl, fun hk => ?_, fun e => ?_, fun e => ?_⟩
    · have := (hP _ hk).2
      omega
    · have := cell_lt h.r0
      simp at this
      omega
    · have := (h.vr.lt e).2
      omega
end
section
variable {w wx wy wt : World} {T : Nat → Prop} {r K g p : Nat} {base rs : List (List Int)} {lv v : Value} {vs : List Value} {ql : List (List Int)} {sf : Int} {dd one : Bool}
theorem CmX.below (h : CmX w T wt r K g base rs p lv v vs ql sf dd one wx) (hb : Below wx.heap.size wx wy) : CmX w T wt r K g base rs p lv v vs ql sf dd one wy := by
  obtain ⟨hG, v0, v1, X, Y, sx, sy, fu, na, ns, nc, hd, hZ, hm⟩ := h
  exact ⟨hG, v0, v1, X, Y, sx, sy, fu, na, ns, nc, hd.off (P := fun _ => False) (Off.of_below hb) (fun _ _ => id), hZ, hm.step (Q := Foot K v0 v1) (Off.of_below hb) (fun k hk => (hd.foot_lt hk).1) (fun _ _ g => g)⟩
theorem CmX.box (h : CmX w T wt r K g base rs p lv v vs ql sf dd one wx) (o : Obj) : CmX w (fun b => T b ∨ b = wx.heap.size) (wx.alloc o) r K g base rs p lv v vs ql sf dd one (wx.alloc o) := by
  obtain ⟨hG, v0, v1, X, Y, sx, sy, fu, na, ns, nc, hd, hZ, hm⟩ := h
  have hb : Below wx.heap.size wx (wx.alloc o) := (Below.refl _ _).alloc (Nat.le_refl _) _
  exact ⟨hG, v0, v1, X, Y, sx, sy, fu, na, ns, nc, hd.off (P := fun _ => False) (Off.of_below hb) (fun _ _ => id), hZ, hm.box (fun k hk => hd.foot_lt hk) o⟩
theorem CmX.mem (h : CmX w T wt r K g base rs p lv v vs ql sf dd one wx) : ∃ P, CmM w T wt r K lv v vs ql sf P wx := by
  obtain ⟨_, v0, v1, _, _, _, _, _, _, _, _, _, _, hm⟩ := h
  exact ⟨_, hm⟩
end
/-- What crash answers. -/
def CrQ (w : World) (T : Nat → Prop) (wt : World) (r K g : Nat) (al0 : List (List Int)) (lo : Nat) (e : Ending) (w' : World) : Prop :=
  e = .returned (.bool true) ∧ FoQ w T wt r K g al0 lo (fun _ => True) w'
set_option maxRecDepth 100000 in
set_option maxHeartbeats 16000000 in
theorem crash_any {w x wt : World} {T : Nat → Prop} {r K g p : Nat} {base rs : List (List Int)} {lv v : Value} {vs : List Value} {ql : List (List Int)} {sf : Int} {dd one alive : Bool} {tk0 tz0 tk1 tz1 : Int} (h : CmX w T wt r K g base rs p lv v vs ql sf dd one x) (hq : base ++ rs = ql.take (base ++ rs).length) (hsf : sf ≤ ((base.length + p : Nat) : Int)) (hly : lays ql ≤ 1048576) (hH : Halves w) (hg : g + 1 < 4611686018427387904) (hal : alive = true → one = true ∧ ql = base ++ rs ∧ sf = ((base.length + p : Nat) : Int)) :
    Calls Tryd.prog 23 #[.pointer (some ⟨r, 0, none⟩), .agg #[.int .i64 tk0, .int .i64 tz0, .int .i64 tk1, .int .i64 tz1], .bool alive] x (CrQ w T wt r K g (base ++ rs) (base.length + p)) := by
  obtain ⟨P0, hm0⟩ := h.mem
  obtain ⟨av, cv, hve, _⟩ := hm0.vr.isSlice
  subst hve
  obtain ⟨W0, hW0⟩ : ∃ W, x.alloc (.cells #[.int .i64 tk0, .int .i64 tz0, .int .i64 tk1, .int .i64 tz1] 52) = W := ⟨_, rfl⟩
  have HW0 : Hid (x.alloc (.cells #[.int .i64 tk0, .int .i64 tz0, .int .i64 tk1, .int .i64 tz1] 52) = W0) := hW0
  have b0 : Below x.heap.size x W0 := by rw [← hW0]; exact (Below.refl _ _).alloc (Nat.le_refl _) _
  have HT : Hid (∀ q u, (#[Value.int .i64 tk0, .int .i64 tz0, .int .i64 tk1, .int .i64 tz1] : Array Value)[q]? = some u → W0.cell? ⟨x.heap.size, q, none⟩ = some u) := fun q u hu => by rw [← hW0, ← hu]; exact World.cell?_alloc_new _ _ _ _
  have HX : Hid (CmX w (fun b => T b ∨ b = x.heap.size) W0 r K g base rs p lv (.slice av vs.length cv) vs ql sf dd one W0) := by rw [← hW0]; exact h.box _
  have HTk : Hid (∀ b, T b → (T b ∨ b = x.heap.size) ∧ W0.heap[b]? = wt.heap[b]?) := fun b hb => ⟨Or.inl hb, (b0.block b (hm0.kt b hb).1).trans (hm0.kt b hb).2.1⟩
  have HA : Hid (base ++ rs = ql.take (base ++ rs).length ∧ sf ≤ ((base.length + p : Nat) : Int) ∧ lays ql ≤ 1048576 ∧ Halves w ∧ g + 1 < 4611686018427387904) := ⟨hq, hsf, hly, hH, hg⟩
  have HAl : Hid (alive = true → one = true ∧ ql = base ++ rs ∧ sf = ((base.length + p : Nat) : Int)) := hal
  have c0 := below_cell b0 hm0.r0
  have c2 := below_cell b0 hm0.r2
  have c3 := below_cell b0 hm0.r3
  have HVl : Hid (vs.length = ql.length) := hm0.pc.1
  have al2 : ∀ o, (x.alloc o).cell? ⟨r, 2, none⟩ = some (.slice av vs.length cv) := fun o => (World.cell?_alloc_lt _ _ ⟨r, 2, none⟩ (cell_lt hm0.r2)).trans hm0.r2
  have al3 : ∀ o, (x.alloc o).cell? ⟨r, 3, none⟩ = some (.int .i64 sf) := fun o => (World.cell?_alloc_lt _ _ ⟨r, 3, none⟩ (cell_lt hm0.r3)).trans hm0.r3
  have t0 := HT.out 0 _ rfl
  have t1 := HT.out 1 _ rfl
  have t2 := HT.out 2 _ rfl
  have t3 := HT.out 3 _ rfl
  have HCr : Hid (∀ zw, Below W0.heap.size W0 zw → Calls Tryd.prog 16 #[.pointer (some ⟨K, 0, none⟩), .agg #[.int .i64 tk0, .int .i64 tz0, .int .i64 tk1, .int .i64 tz1]] zw fun e w' => e = .returned (.tuple #[]) ∧ Hid (CmC w (fun b => T b ∨ b = x.heap.size) W0 r K g base rs p lv (.slice av vs.length cv) vs ql sf one (16777216 ≤ tk0 ∧ 16777216 ≤ tk1) (tk0 ≤ 0 ∧ tk1 ≤ 0) w') ∧ w'.cell? ⟨r, 0, none⟩ = some (.pointer (some ⟨K, 0, none⟩)) ∧ w'.cell? ⟨x.heap.size, 0, none⟩ = some (.int .i64 tk0) ∧ w'.cell? ⟨x.heap.size, 1, none⟩ = some (.int .i64 tz0) ∧ w'.cell? ⟨x.heap.size, 2, none⟩ = some (.int .i64 tk1) ∧ w'.cell? ⟨x.heap.size, 3, none⟩ = some (.int .i64 tz1)) := fun zw hz => by
    refine (cm_down (HX.out.below hz) tk0 tz0 tk1 tz1).mono ?_
    rintro e w' ⟨he, hc⟩
    have hc' := hc
    obtain ⟨_, _, _, _, _, _, _, _, _, _, _, hm⟩ := hc
    have hk := (hm.kt x.heap.size (Or.inr rfl)).2.1
    exact ⟨he, hc', hm.r0, (cell_block hk 0).trans t0, (cell_block hk 1).trans t1, (cell_block hk 2).trans t2, (cell_block hk 3).trans t3⟩
  have hBv : Below W0.heap.size W0 W0 := Below.refl _ _
  clear h hq hsf hly hH hg hal hm0 b0 hW0
  go_enter Tryd.func23, Tryd.ntmps23
  go_wp2_with fail
  rw [HW0.out]
  go_region_held3 (fun zw => zw.cell? ⟨r, 0, none⟩ = some (.pointer (some ⟨K, 0, none⟩)) ∧ zw.cell? ⟨x.heap.size, 0, none⟩ = some (.int .i64 tk0) ∧ zw.cell? ⟨x.heap.size, 1, none⟩ = some (.int .i64 tz0) ∧ zw.cell? ⟨x.heap.size, 2, none⟩ = some (.int .i64 tk1) ∧ zw.cell? ⟨x.heap.size, 3, none⟩ = some (.int .i64 tz1)) (simp [*]) (first | (go_at_call 16; refine (HCr.out _ ?_).mono ?_; (first | assumption | exact Below.drew (by assumption)); rintro e w6 ⟨rfl, HC6, q0, q1, q2, q3, q4⟩))
  all_goals
    have HFo : Hid (Calls Tryd.prog 43 #[.pointer (some ⟨r, 0, none⟩)] w6 (FoE w (fun b => T b ∨ b = x.heap.size) W0 r K g (base ++ rs) (base.length + p) (fun M => ((16777216 ≤ tk0 ∧ 16777216 ≤ tk1) → M = (base ++ rs).length) ∧ (one = true → (tk0 ≤ 0 ∧ tk1 ≤ 0) → M = base.length + p)) (fun _ => False))) := found_any (lv := lv) (v := .slice av vs.length cv) (vs := vs) (ql := ql) (sf := sf) q0 ((cm_up HC6.out HA.out.2.2.2.1 HA.out.2.2.2.2).mono fun e w' h => Or.inl h) (fun _ _ h _ => h) HA.out.1 HA.out.2.1 HA.out.2.2.1
    clear HCr HC6 c0 c2 c3 al2 al3 t0 t1 t2 t3 q0 q1 q2 q3 q4 hBv
    go_wp2_with fail
    refine HFo.out.mono ?_
    rintro e w7 (⟨rfl, hfo⟩ | ⟨_, hz⟩)
    · obtain ⟨g', base', rs', M, L, v', vs', hM1, hM2, hM3, hg1, hg2, hex, hI⟩ := hfo
      obtain ⟨hG', hp', v0, v1, fu, na, ns, nc, hl, hm⟩ := hI
      have hk := (hm.kt x.heap.size (Or.inr rfl)).2.1
      have k0 := (cell_block hk 0).trans (HT.out 0 _ rfl)
      have k2 := (cell_block hk 2).trans (HT.out 2 _ rfl)
      obtain ⟨av', cv', hve', _⟩ := hm.vr.isSlice
      subst hve'
      have d2 := hm.r2
      have hvl : vs'.length = M := by
        rw [hm.pc.1, List.length_take]
        omega
      have HF : Hid (FoQ w T wt r K g (base ++ rs) (base.length + p) (fun _ => True) w7) := ⟨g', base', rs', M, L, .slice av' vs'.length cv', vs', hM1, hM2, hM3, hg1, hg2, trivial, hG', hp', v0, v1, fu, na, ns, nc, hl, hm.kept HTk.out⟩
      have HE : Hid (((16777216 ≤ tk0 ∧ 16777216 ≤ tk1) → M = (base ++ rs).length) ∧ (one = true → (tk0 ≤ 0 ∧ tk1 ≤ 0) → M = base.length + p) ∧ vs'.length = M) := ⟨hex.1, hex.2, hvl⟩
      clear hM1 hM2 hM3 hg1 hg2 hex hG' hp' hl hm hk hvl HFo
      rcases (by omega : 16777216 ≤ tk0 ∨ tk0 ≤ 0 ∨ (0 < tk0 ∧ tk0 < 16777216)) with h0 | h0 | h0
      · rcases (by omega : 16777216 ≤ tk1 ∨ tk1 ≤ 0 ∨ (0 < tk1 ∧ tk1 < 16777216)) with h1 | h1 | h1
        · have a0 : (16777216 : Int) ≤ tk0 := by omega
          have ad0 : decide ((16777216 : Int) ≤ tk0) = true := decide_eq_true a0
          have b0 : ¬ tk0 ≤ (0 : Int) := by omega
          have bd0 : decide (tk0 ≤ (0 : Int)) = false := decide_eq_false b0
          have a1 : (16777216 : Int) ≤ tk1 := by omega
          have ad1 : decide ((16777216 : Int) ≤ tk1) = true := decide_eq_true a1
          have b1 : ¬ tk1 ≤ (0 : Int) := by omega
          have bd1 : decide (tk1 ≤ (0 : Int)) = false := decide_eq_false b1
          cases alive with
          | false =>
            go_wp2_with fail
            go_ret
            exact ⟨rfl, HF.out⟩
          | true =>
            obtain ⟨h1, h2, h3⟩ := HAl.out rfl
            have he : vs'.length = vs.length := by rw [HE.out.2.2, HE.out.1 ⟨a0, a1⟩, HVl.out, h2]
            have he1 : ((vs'.length : Int) == (vs.length : Int)) = true := by rw [he]; simp
            have he2 : (vs'.length : Int) = vs.length := by rw [he]
            clear h1 h2 h3
            go_wp2_with fail
            go_ret
            exact ⟨rfl, HF.out⟩
        · have a0 : (16777216 : Int) ≤ tk0 := by omega
          have ad0 : decide ((16777216 : Int) ≤ tk0) = true := decide_eq_true a0
          have b0 : ¬ tk0 ≤ (0 : Int) := by omega
          have bd0 : decide (tk0 ≤ (0 : Int)) = false := decide_eq_false b0
          have a1 : ¬ (16777216 : Int) ≤ tk1 := by omega
          have ad1 : decide ((16777216 : Int) ≤ tk1) = false := decide_eq_false a1
          have b1 : tk1 ≤ (0 : Int) := by omega
          have bd1 : decide (tk1 ≤ (0 : Int)) = true := decide_eq_true b1
          cases alive with
          | false =>
            go_wp2_with fail
            go_ret
            exact ⟨rfl, HF.out⟩
          | true =>
            obtain ⟨h1, h2, h3⟩ := HAl.out rfl
            clear h1 h2 h3
            go_wp2_with fail
            go_ret
            exact ⟨rfl, HF.out⟩
        · have a0 : (16777216 : Int) ≤ tk0 := by omega
          have ad0 : decide ((16777216 : Int) ≤ tk0) = true := decide_eq_true a0
          have b0 : ¬ tk0 ≤ (0 : Int) := by omega
          have bd0 : decide (tk0 ≤ (0 : Int)) = false := decide_eq_false b0
          have a1 : ¬ (16777216 : Int) ≤ tk1 := by omega
          have ad1 : decide ((16777216 : Int) ≤ tk1) = false := decide_eq_false a1
          have b1 : ¬ tk1 ≤ (0 : Int) := by omega
          have bd1 : decide (tk1 ≤ (0 : Int)) = false := decide_eq_false b1
          cases alive with
          | false =>
            go_wp2_with fail
            go_ret
            exact ⟨rfl, HF.out⟩
          | true =>
            obtain ⟨h1, h2, h3⟩ := HAl.out rfl
            clear h1 h2 h3
            go_wp2_with fail
            go_ret
            exact ⟨rfl, HF.out⟩
      · rcases (by omega : 16777216 ≤ tk1 ∨ tk1 ≤ 0 ∨ (0 < tk1 ∧ tk1 < 16777216)) with h1 | h1 | h1
        · have a0 : ¬ (16777216 : Int) ≤ tk0 := by omega
          have ad0 : decide ((16777216 : Int) ≤ tk0) = false := decide_eq_false a0
          have b0 : tk0 ≤ (0 : Int) := by omega
          have bd0 : decide (tk0 ≤ (0 : Int)) = true := decide_eq_true b0
          have a1 : (16777216 : Int) ≤ tk1 := by omega
          have ad1 : decide ((16777216 : Int) ≤ tk1) = true := decide_eq_true a1
          have b1 : ¬ tk1 ≤ (0 : Int) := by omega
          have bd1 : decide (tk1 ≤ (0 : Int)) = false := decide_eq_false b1
          cases alive with
          | false =>
            go_wp2_with fail
            go_ret
            exact ⟨rfl, HF.out⟩
          | true =>
            obtain ⟨h1, h2, h3⟩ := HAl.out rfl
            clear h1 h2 h3
            go_wp2_with fail
            go_ret
            exact ⟨rfl, HF.out⟩
        · have a0 : ¬ (16777216 : Int) ≤ tk0 := by omega
          have ad0 : decide ((16777216 : Int) ≤ tk0) = false := decide_eq_false a0
          have b0 : tk0 ≤ (0 : Int) := by omega
          have bd0 : decide (tk0 ≤ (0 : Int)) = true := decide_eq_true b0
          have a1 : ¬ (16777216 : Int) ≤ tk1 := by omega
          have ad1 : decide ((16777216 : Int) ≤ tk1) = false := decide_eq_false a1
          have b1 : tk1 ≤ (0 : Int) := by omega
          have bd1 : decide (tk1 ≤ (0 : Int)) = true := decide_eq_true b1
          cases alive with
          | false =>
            go_wp2_with fail
            go_ret
            exact ⟨rfl, HF.out⟩
          | true =>
            obtain ⟨h1, h2, h3⟩ := HAl.out rfl
            have he : (vs'.length : Int) = sf := by rw [HE.out.2.2, HE.out.2.1 h1 ⟨b0, b1⟩, h3]
            have he1 : ((vs'.length : Int) == sf) = true := by rw [he]; simp
            clear h1 h2 h3
            go_wp2_with fail
            go_ret
            exact ⟨rfl, HF.out⟩
        · have a0 : ¬ (16777216 : Int) ≤ tk0 := by omega
          have ad0 : decide ((16777216 : Int) ≤ tk0) = false := decide_eq_false a0
          have b0 : tk0 ≤ (0 : Int) := by omega
          have bd0 : decide (tk0 ≤ (0 : Int)) = true := decide_eq_true b0
          have a1 : ¬ (16777216 : Int) ≤ tk1 := by omega
          have ad1 : decide ((16777216 : Int) ≤ tk1) = false := decide_eq_false a1
          have b1 : ¬ tk1 ≤ (0 : Int) := by omega
          have bd1 : decide (tk1 ≤ (0 : Int)) = false := decide_eq_false b1
          cases alive with
          | false =>
            go_wp2_with fail
            go_ret
            exact ⟨rfl, HF.out⟩
          | true =>
            obtain ⟨h1, h2, h3⟩ := HAl.out rfl
            clear h1 h2 h3
            go_wp2_with fail
            go_ret
            exact ⟨rfl, HF.out⟩
      · rcases (by omega : 16777216 ≤ tk1 ∨ tk1 ≤ 0 ∨ (0 < tk1 ∧ tk1 < 16777216)) with h1 | h1 | h1
        · have a0 : ¬ (16777216 : Int) ≤ tk0 := by omega
          have ad0 : decide ((16777216 : Int) ≤ tk0) = false := decide_eq_false a0
          have b0 : ¬ tk0 ≤ (0 : Int) := by omega
          have bd0 : decide (tk0 ≤ (0 : Int)) = false := decide_eq_false b0
          have a1 : (16777216 : Int) ≤ tk1 := by omega
          have ad1 : decide ((16777216 : Int) ≤ tk1) = true := decide_eq_true a1
          have b1 : ¬ tk1 ≤ (0 : Int) := by omega
          have bd1 : decide (tk1 ≤ (0 : Int)) = false := decide_eq_false b1
          cases alive with
          | false =>
            go_wp2_with fail
            go_ret
            exact ⟨rfl, HF.out⟩
          | true =>
            obtain ⟨h1, h2, h3⟩ := HAl.out rfl
            clear h1 h2 h3
            go_wp2_with fail
            go_ret
            exact ⟨rfl, HF.out⟩
        · have a0 : ¬ (16777216 : Int) ≤ tk0 := by omega
          have ad0 : decide ((16777216 : Int) ≤ tk0) = false := decide_eq_false a0
          have b0 : ¬ tk0 ≤ (0 : Int) := by omega
          have bd0 : decide (tk0 ≤ (0 : Int)) = false := decide_eq_false b0
          have a1 : ¬ (16777216 : Int) ≤ tk1 := by omega
          have ad1 : decide ((16777216 : Int) ≤ tk1) = false := decide_eq_false a1
          have b1 : tk1 ≤ (0 : Int) := by omega
          have bd1 : decide (tk1 ≤ (0 : Int)) = true := decide_eq_true b1
          cases alive with
          | false =>
            go_wp2_with fail
            go_ret
            exact ⟨rfl, HF.out⟩
          | true =>
            obtain ⟨h1, h2, h3⟩ := HAl.out rfl
            clear h1 h2 h3
            go_wp2_with fail
            go_ret
            exact ⟨rfl, HF.out⟩
        · have a0 : ¬ (16777216 : Int) ≤ tk0 := by omega
          have ad0 : decide ((16777216 : Int) ≤ tk0) = false := decide_eq_false a0
          have b0 : ¬ tk0 ≤ (0 : Int) := by omega
          have bd0 : decide (tk0 ≤ (0 : Int)) = false := decide_eq_false b0
          have a1 : ¬ (16777216 : Int) ≤ tk1 := by omega
          have ad1 : decide ((16777216 : Int) ≤ tk1) = false := decide_eq_false a1
          have b1 : ¬ tk1 ≤ (0 : Int) := by omega
          have bd1 : decide (tk1 ≤ (0 : Int)) = false := decide_eq_false b1
          cases alive with
          | false =>
            go_wp2_with fail
            go_ret
            exact ⟨rfl, HF.out⟩
          | true =>
            obtain ⟨h1, h2, h3⟩ := HAl.out rfl
            clear h1 h2 h3
            go_wp2_with fail
            go_ret
            exact ⟨rfl, HF.out⟩
    · exact hz.elim
end Go.Proofs.YtfkcnnjkflomkaaDoor

/-
  WalCommits: what the walks of act share.
-/
namespace Go.Proofs.YtfkcnnjkflomkaaDoor
open Go.RowKit Go.BigFrame

/-- What act answers: the run goes on. -/
def AcQ (w : World) (T : Nat → Prop) (wt : World) (r K g : Nat) (al0 : List (List Int)) (m : Nat) (e : Ending) (w' : World) : Prop :=
  e = .returned (.bool true) ∧ ∃ (g' : Nat) (base' rs' : List (List Int)) (p' L : Nat) (v : Value) (vs : List Value), g ≤ g' ∧ g' ≤ g + 1 ∧ lays (base' ++ rs') ≤ lays al0 + m ∧ CmI w T wt r K L g' base' rs' p' v vs (base' ++ rs') ((base'.length + p' : Nat) : Int) w'
theorem byts_blk {w : World} {po : Option Addr} {m : Nat} {bs : List Int} (h : Byts w po m bs) (b o : Nat) (h0 : 0 < m) (e : po = some ⟨b, o, none⟩) : b < w.heap.size := by
  obtain ⟨b', o', e', hl, _⟩ := h.cell 0 h0
  rw [e] at e'
  simp only [Option.some.injEq, Addr.mk.injEq] at e'
  omega
section
variable {w wx wy wt W0 : World} {T T' : Nat → Prop} {r K L g p : Nat} {base rs : List (List Int)} {lv v : Value} {vs : List Value} {ql : List (List Int)} {sf : Int} {dd one : Bool}
theorem CmI.below (h : CmI w T wt r K L g base rs p v vs ql sf wx) (hb : Below wx.heap.size wx wy) : CmI w T wt r K L g base rs p v vs ql sf wy := by
  obtain ⟨hG, hp, v0, v1, fu, na, ns, nc, hl, hm⟩ := h
  exact ⟨hG, hp, v0, v1, fu, na, ns, nc, hl.below hb, hm.step (Off.of_below hb) (lg_low hl) (fun _ _ g => g)⟩
theorem CmI.box (h : CmI w T wt r K L g base rs p v vs ql sf wx) (o : Obj) : CmI w (fun b => T b ∨ b = wx.heap.size) (wx.alloc o) r K L g base rs p v vs ql sf (wx.alloc o) := by
  obtain ⟨hG, hp, v0, v1, fu, na, ns, nc, hl, hm⟩ := h
  have hb : Below wx.heap.size wx (wx.alloc o) := (Below.refl _ _).alloc (Nat.le_refl _) _
  refine ⟨hG, hp, v0, v1, fu, na, ns, nc, hl.below hb, hm.box (fun k hk => ⟨lg_low hl k hk, ?_⟩) o⟩
  rcases hk with hk | rfl
  · exact (hl.d.foot_lt hk).2
  · exact hl.lt
theorem CmI.mem (h : CmI w T wt r K L g base rs p v vs ql sf wx) : ∃ P, CmM w T wt r K (.pointer (some ⟨L, 0, none⟩)) v vs ql sf P wx := by
  obtain ⟨_, _, _, _, _, _, _, _, _, hm⟩ := h
  exact ⟨_, hm⟩
theorem CmI.kept (h : CmI w T' W0 r K L g base rs p v vs ql sf wx) (hT : ∀ b, T b → T' b ∧ W0.heap[b]? = wt.heap[b]?) : CmI w T wt r K L g base rs p v vs ql sf wx := by
  obtain ⟨hG, hp, v0, v1, fu, na, ns, nc, hl, hm⟩ := h
  exact ⟨hG, hp, v0, v1, fu, na, ns, nc, hl, hm.kept hT⟩
theorem FoQ.act {al0 : List (List Int)} {lo m : Nat} {ex : Nat → Prop} (h : FoQ w T' W0 r K g al0 lo ex wx) (hT : ∀ b, T b → T' b ∧ W0.heap[b]? = wt.heap[b]?) : AcQ w T wt r K g al0 m (.returned (.bool true)) wx := by
  obtain ⟨g', base', rs', M, L, v, vs, hM1, hM2, hM3, hg1, hg2, _, hI⟩ := h
  have hl : base'.length + rs'.length = M := by
    have := congrArg List.length hM1
    rw [List.length_append, List.length_take] at this
    omega
  refine ⟨rfl, g', base', rs', rs'.length, L, v, vs, hg1, hg2, ?_, ?_⟩
  · rw [hM1]
    have := lays_take al0 M
    omega
  · have h2 := hI.kept (T := T) (wt := wt) hT
    rw [← hM1] at h2
    rw [hl]
    exact h2
theorem CmX.alive (h : CmX w T wt r K g base rs p lv v vs ql sf dd one wx) : Calls Tryd.prog 19 #[.pointer (some ⟨K, 0, none⟩)] wx fun e w' => e = .returned (.bool (!dd)) ∧ w' = wx := by
  obtain ⟨hG, v0, v1, X, Y, sx, sy, fu, na, ns, nc, hd, hZ, hm⟩ := h
  have hd' := hd
  cases dd with
  | false =>
    unfold sgT at hd'
    split at hd'
    · exact Alive_ok hd'
    · exact Alive_ok hd'
  | true =>
    unfold sgT at hd'
    split at hd'
    · exact Alive_dead hd'
    · exact Alive_dead hd'
/-- What laidOut leaves. -/
def LaQ (W0 : World) (al : List (List Int)) (a : Option Addr) (n c : Nat) (w' : World) : Prop := Below W0.heap.size W0 w' ∧ Byts w' a n (laid al) ∧ (a = none → c = 0) ∧ ∀ b o, 0 < n → a = some ⟨b, o, none⟩ → W0.heap.size ≤ b ∧ b < w'.heap.size
/-- The store of what is safe. -/
theorem CmI.safe (h : CmI w T wt r K L g base rs p v vs ql sf wx) (sf' : Int) : CmI w T wt r K L g base rs p v vs ql sf' (wx.setCell ⟨r, 3, none⟩ (.int .i64 sf')) := by
  obtain ⟨hG, hp, v0, v1, fu, na, ns, nc, hl, hm⟩ := h
  have ho : Off (fun k => k = r) wx (wx.setCell ⟨r, 3, none⟩ (.int .i64 sf')) := (Off.refl (fun k => k = r) wx).setCell (p := ⟨r, 3, none⟩) rfl _
  have so : ∀ q, 3 ≠ q → (wx.setCell ⟨r, 3, none⟩ (.int .i64 sf')).cell? ⟨r, q, none⟩ = wx.cell? ⟨r, q, none⟩ := fun q h => World.cell?_setCell_other _ _ _ _ (by simp; first | done | omega)
  refine ⟨hG, hp, v0, v1, fu, na, ns, nc, hl.off ho (fun k hk e => hm.rp (by rw [← e]; exact hk)), ⟨hm.bl.trans (ho.below hm.bl.size (fun k e => by rw [e]; exact hm.rg)), (so 0 (by omega)).trans hm.r0, (so 1 (by omega)).trans hm.r1, (so 2 (by omega)).trans hm.r2, World.cell?_setCell_same' _ _ _ (by rw [hm.r3]; rfl), fun q => by rw [World.frozen?_setCell]; exact hm.rf q, hm.rg, hm.rp, hm.vr.off ho (fun q hq => (hm.vp q hq).2), hm.vp, ⟨hm.pc.1, fun j u d hu hd => ?_⟩, fun j b o n c hu => ?_, fun b hb => ?_⟩⟩
  · obtain ⟨a, c, rfl, hb, hn⟩ := hm.pc.2 j u d hu hd
    exact ⟨a, c, rfl, byts_off hb ho (fun b o _ e => by subst e; exact (hm.pp j b o _ c hu).2.2.1), hn⟩
  · obtain ⟨h1, h2, h3, h4⟩ := hm.pp j b o n c hu
    exact ⟨Nat.lt_of_lt_of_le h1 ho.size, h2, h3, h4⟩
  · obtain ⟨h1, h2, h3, h4, h5⟩ := hm.kt b hb
    exact ⟨Nat.lt_of_lt_of_le h1 ho.size, (ho.block b h1 h4).trans h2, h3, h4, h5⟩
end
end Go.Proofs.YtfkcnnjkflomkaaDoor

/-
  WalCommits: a record is put into the law's own list.
-/
namespace Go.Proofs.YtfkcnnjkflomkaaDoor
open Go.RowKit Go.BigFrame

theorem Pcs.snoc2 {P : Nat → Prop} {x y : World} {us : List Value} {ds : List (List Int)} {a : Option Addr} {n c : Nat} {d : List Int} (h : Pcs x us ds) (hn : n = d.length) (hb : Byts x a n d) (hno : a = none → c = 0) (ho : Off P x y) (hp : ∀ (j b o n c : Nat), us[j]? = some (Value.slice (some ⟨b, o, none⟩) n c) → ¬ P b) (ha : ∀ b o, a = some ⟨b, o, none⟩ → ¬ P b) : Pcs y (us ++ [.slice a n c]) (ds ++ [d]) := by
  subst hn
  have h1 : Pcs y us ds := ⟨h.1, fun j u e hu he => by
    obtain ⟨a, c, rfl, hb, hn⟩ := h.2 j u e hu he
    exact ⟨a, c, rfl, byts_off hb ho (fun b o _ e => by subst e; exact hp j b o _ c hu), hn⟩⟩
  exact h1.snoc (byts_off hb ho (fun b o _ e => ha b o e)) hno
/-- A copy of bytes: append to an empty literal. -/
def ClQ (W0 : World) (d : List Int) (a : Option Addr) (n c : Nat) (w' : World) : Prop := n = d.length ∧ Below W0.heap.size W0 w' ∧ Byts w' a n d ∧ (a = none → c = 0) ∧ ∀ b o, a = some ⟨b, o, none⟩ → W0.heap.size ≤ b ∧ b < w'.heap.size
theorem run_clone {W0 zw : World} {po : Option Addr} {m c : Nat} {d : List Int} (hz : Below W0.heap.size W0 zw) (hb : Byts zw po m d) (hpo : po = none → c = 0) (hm : m ≤ 20000) :
    ∃ a n k w', (Builtin.append_ #[28, 28] 28 #[.slice (some ⟨zw.heap.size, 0, none⟩) 0 0, .slice po m c]).run Tryd.prog (zw.alloc (.cells #[] 5)) = .ok (.slice a n k) w' ∧ ClQ W0 d a n k w' := by
  have ha : Below zw.heap.size zw (zw.alloc (.cells #[] 5)) := (Below.refl _ _).alloc (Nat.le_refl _) _
  have hrow : Row (zw.alloc (.cells #[] 5)) zw.heap.size (.slice (some ⟨zw.heap.size, 0, none⟩) 0 0) [] := by
    exact ⟨rfl, Or.inr ⟨zw.heap.size, 0, #[], rfl, Nat.le_refl _, heap_alloc_new zw _, Nat.le_refl _, Nat.zero_le _, rfl, rfl⟩⟩
  obtain ⟨v', w', hr, r, g, o⟩ := run_append_bytes (c := c) hrow (hb.below ha) hpo (by simp; omega) (by simp) 28
  have hoff : Off (fun k => k = zw.heap.size) zw w' := ((Off.refl _ zw).alloc _).trans ((Off.of_grown g).mono (fun k e => by simp [Value.ownBlock] at e; exact e.symm))
  have hbw : Below zw.heap.size zw w' := hoff.below_of (fun k hk e => by omega)
  rw [List.nil_append] at r
  obtain ⟨a, n, k, rfl⟩ : ∃ a n k, v' = .slice a n k := by
    rcases r.form with ⟨e, _⟩ | ⟨g, cap, e, _⟩
    · exact ⟨_, _, _, e⟩
    · exact ⟨_, _, _, e⟩
  obtain ⟨e1, e2, e3, e4⟩ := r.byts'
  refine ⟨a, n, k, w', hr, e1, below_then hz hbw, e2, e3, fun b o e => ⟨Nat.le_trans hz.size (e4 b o e), ?_⟩⟩
  rcases r.form with ⟨e', _⟩ | ⟨gg, cap, e', _, hlt, _⟩
  · cases e'
    cases e
  · cases e'
    cases e
    exact hlt
/-- As one step of a region that draws. -/
theorem step_clone {W0 zw wz : World} {ops : Array Oper} {o : Oper} {a : Act} {KK : Act → World → Prop} {Q : Exit → Act → World → Prop} {E : Prop} {po : Option Addr} {m c : Nat} {d : List Int} (hgd : o.guard = none) (s y : Operand)
    (ho : o.op = .call { callee := .builtin .append, args := #[s, y], argTypes := #[28, 28] }) (ht : o.type = 28) (hs : a.eval s = .slice (some ⟨zw.heap.size, 0, none⟩) 0 0) (hx : a.eval y = .slice po m c)
    (he : wz = zw.alloc (.cells #[] 5)) (hz : Below W0.heap.size W0 zw) (hb : Byts W0 po m d) (hpo : po = none → c = 0) (hm : m ≤ 20000)
    (hk : ∀ a' n' k' w', Hid (ClQ W0 d a' n' k' w') → KK (a.put o.dst (.slice a' n' k')) w') :
    if Region.wanted o (yielded ops a.tmps) = true then Oper.wp Tryd.prog o a wz KK Q else E := by
  subst he
  have hw : Region.wanted o (yielded ops a.tmps) = true := by simp [Region.wanted, hgd]
  obtain ⟨a', n', k', w', e1, e2⟩ := run_clone hz (hb.below hz) hpo hm
  rw [if_pos hw]
  unfold Oper.wp execOp
  simp only [ho, ht, resolve, invoke, builtin, Sem.run_bind, Sem.run_pure, Result.andThen_ok, List.map_toArray, List.map_cons, List.map_nil, hs, hx, e1]
  exact hk _ _ _ _ e2
section
variable {w W0 wy wt : World} {T : Nat → Prop} {r K L g p : Nat} {base rs : List (List Int)} {v : Value} {vs : List Value} {ql : List (List Int)} {sf : Int} {d : List Int}
theorem cm_push {a : Option Addr} {n c : Nat} (h : CmI w T wt r K L g base rs p v vs ql sf W0) (hq : Below W0.heap.size W0 wy) (hn : n = d.length) (hby : Byts wy a n d) (hno : a = none → c = 0) (hbk : ∀ b o, a = some ⟨b, o, none⟩ → W0.heap.size ≤ b ∧ b < wy.heap.size) (hql : ql.length ≤ 1048576) :
    ∃ a' n' k' w', (Builtin.append_ #[22, 22] 22 #[v, .slice (some ⟨wy.heap.size, 0, none⟩) 1 1]).run Tryd.prog (wy.alloc (.cells #[.slice a n c] 28)) = .ok (.slice a' n' k') w' ∧ w'.cell? ⟨r, 2, none⟩ = some v ∧ w'.frozen? ⟨r, 2, none⟩ = false ∧ CmI w T wt r K L g base rs p (.slice a' n' k') (vs ++ [.slice a n c]) (ql ++ [d]) sf (w'.setCell ⟨r, 2, none⟩ (.slice a' n' k')) := by
  obtain ⟨hG, hp, v0, v1, fu, na, ns, nc, hl0, hm0⟩ := h
  have hl := hl0.below hq
  have hm := hm0.step (Q := fun k => Foot K v0 v1 k ∨ k = L) (Off.of_below hq) (lg_low hl0) (fun _ _ g => g)
  have hPlt : ∀ k, (Foot K v0 v1 k ∨ k = L) → k < W0.heap.size := fun k hk => by
    rcases hk with hk | rfl
    · exact (hl0.d.foot_lt hk).2
    · exact hl0.lt
  have hrl0 : r < W0.heap.size := cell_lt hm0.r0
  have hrl : r < wy.heap.size := cell_lt hm.r0
  have hsz := hq.size
  obtain ⟨a', n', k', w', e1, r1, o1, own1⟩ := run_vpush hm.vr hm.bl.size (by rw [hm.pc.1]; omega) (.slice a n c) rfl
  have hov : ∀ q, v.ownBlock = some q → q < W0.heap.size := fun q hq' => (hm0.vr.lt hq').2
  have hown : ∀ q, (Value.slice a' n' k').ownBlock = some q → v.ownBlock = some q ∨ wy.heap.size ≤ q := fun q hq' => by
    rcases own1 with e | ⟨gg, e, hgg⟩
    · rw [e] at hq'; exact Or.inl hq'
    · rw [e] at hq'; cases hq'; exact Or.inr hgg
  have hnr : ¬ v.ownBlock = some r := fun e => (hm.vp r e).2 rfl
  have c0 := off_cell o1 hm.r0 hnr
  have c1 := off_cell o1 hm.r1 hnr
  have c2 := off_cell o1 hm.r2 hnr
  have c3 := off_cell o1 hm.r3 hnr
  have hfz : ∀ q, w'.frozen? ⟨r, q, none⟩ = false := fun q => (o1.frozen (p := ⟨r, q, none⟩) hrl hnr).trans (hm.rf q)
  have ho : Off (fun k => k = r) w' (w'.setCell ⟨r, 2, none⟩ (.slice a' n' k')) := (Off.refl (fun k => k = r) w').setCell (p := ⟨r, 2, none⟩) rfl _
  have so : ∀ q, 2 ≠ q → (w'.setCell ⟨r, 2, none⟩ (.slice a' n' k')).cell? ⟨r, q, none⟩ = w'.cell? ⟨r, q, none⟩ := fun q h => World.cell?_setCell_other _ _ _ _ (by simp; first | done | omega)
  have hb1 : Below w.heap.size w w' := hm.bl.trans (o1.below hm.bl.size (fun k e => (hm.vr.lt e).1))
  have hall : Off (fun k => v.ownBlock = some k ∨ k = r) wy (w'.setCell ⟨r, 2, none⟩ (.slice a' n' k')) := (o1.mono (fun _ e => Or.inl e)).trans (ho.mono (fun _ e => Or.inr e))
  refine ⟨a', n', k', w', e1, c2, hfz 2, hG, hp, v0, v1, fu, na, ns, nc, hl.off hall (fun k hk e => ?_), ⟨hb1.trans (ho.below hb1.size (fun k e => by rw [e]; exact hm.rg)), (so 0 (by omega)).trans c0, (so 1 (by omega)).trans c1, World.cell?_setCell_same' _ _ _ (by rw [c2]; rfl), (so 3 (by omega)).trans c3, fun q => by rw [World.frozen?_setCell]; exact hfz q, hm.rg, hm.rp, r1.off ho (fun q hq' e => ?_), fun q hq' => ?_, ?_, fun j b o n2 c2' hu => ?_, fun b hb => ?_⟩⟩
  · rcases e with e | e
    · exact (hm.vp k e).1 hk
    · subst e; exact hm.rp hk
  · subst e
    rcases hown q hq' with h1 | h1
    · exact (hm.vp q h1).2 rfl
    · omega
  · rcases hown q hq' with h1 | h1
    · exact hm.vp q h1
    · exact ⟨fun hk => by have := hPlt q hk; omega, fun e => by omega⟩
  · refine Pcs.snoc2 hm.pc hn hby hno hall (fun j b o n2 c2' hu => ?_) (fun b o e => ?_)
    · obtain ⟨h1, h2, h3, h4⟩ := hm.pp j b o n2 c2' hu
      exact fun e => e.elim h4 h3
    · obtain ⟨h1, h2⟩ := hbk b o e
      exact fun e => e.elim (fun e => by have := hov b e; omega) (fun e => by omega)
  · rcases Nat.lt_or_ge j vs.length with hj | hj
    · rw [List.getElem?_append_left hj] at hu
      obtain ⟨h1, h2, h3, h4⟩ := hm.pp j b o n2 c2' hu
      exact ⟨Nat.lt_of_lt_of_le h1 hall.size, h2, h3, fun e => (hown b e).elim h4 (fun e => by omega)⟩
    · rw [List.getElem?_append_right hj] at hu
      obtain ⟨h1, h2⟩ : W0.heap.size ≤ b ∧ b < wy.heap.size := by
        cases hjj : j - vs.length with
        | zero =>
          rw [hjj] at hu
          simp at hu
          exact hbk b o hu.1
        | succ q =>
          rw [hjj] at hu
          simp at hu
      exact ⟨Nat.lt_of_lt_of_le h2 hall.size, fun hk => by have := hPlt b hk; omega, fun e => by omega, fun e => (hown b e).elim (fun e => by have := hov b e; omega) (fun e => by omega)⟩
  · obtain ⟨h1, h2, h3, h4, h5⟩ := hm.kt b hb
    exact ⟨Nat.lt_of_lt_of_le h1 hall.size, (hall.block b h1 (fun e => e.elim h5 h4)).trans h2, h3, h4, fun e => (hown b e).elim h5 (fun e => by omega)⟩
theorem step_push {wz : World} {ops : Array Oper} {o : Oper} {ac : Act} {KK : Act → World → Prop} {Q : Exit → Act → World → Prop} {E : Prop} {a : Option Addr} {n c : Nat} (hgd : o.guard = none) (s y : Operand)
    (ho : o.op = .call { callee := .builtin .append, args := #[s, y], argTypes := #[22, 22] }) (ht : o.type = 22) (hs : ac.eval s = v) (hx : ac.eval y = .slice (some ⟨wy.heap.size, 0, none⟩) 1 1)
    (he : wz = wy.alloc (.cells #[.slice a n c] 28)) (h : CmI w T wt r K L g base rs p v vs ql sf W0) (hq : Below W0.heap.size W0 wy) (hn : n = d.length) (hby : Byts wy a n d) (hno : a = none → c = 0) (hbk : ∀ b o, a = some ⟨b, o, none⟩ → W0.heap.size ≤ b ∧ b < wy.heap.size) (hql : ql.length ≤ 1048576)
    (hk : ∀ a' n' k' w', w'.cell? ⟨r, 2, none⟩ = some v → w'.frozen? ⟨r, 2, none⟩ = false → Hid (CmI w T wt r K L g base rs p (.slice a' n' k') (vs ++ [.slice a n c]) (ql ++ [d]) sf (w'.setCell ⟨r, 2, none⟩ (.slice a' n' k'))) → KK (ac.put o.dst (.slice a' n' k')) w') :
    if Region.wanted o (yielded ops ac.tmps) = true then Oper.wp Tryd.prog o ac wz KK Q else E := by
  subst he
  have hw : Region.wanted o (yielded ops ac.tmps) = true := by simp [Region.wanted, hgd]
  obtain ⟨a', n', k', w', e1, e2, e3, e4⟩ := cm_push h hq hn hby hno hbk hql
  rw [if_pos hw]
  unfold Oper.wp execOp
  simp only [ho, ht, resolve, invoke, builtin, Sem.run_bind, Sem.run_pure, Result.andThen_ok, List.map_toArray, List.map_cons, List.map_nil, hs, hx, e1]
  exact hk _ _ _ _ e2 e3 e4
theorem app_core {wx : World} {v0 v1 : Value} {fu na ns nc : Int} {po : Option Addr} {m c : Nat} {d : List Int} (hG : CmG g base rs) (hp : p ≤ rs.length) (hl : Lg wx w.heap.size K L v0 v1 (sgT (g % 2) (genB g (laid base) rs) [] (30 + lays base + sizes (rs.take p)) 0 false fu na ns nc) false g ((g : Int) % 2) rs.length ((rs.length - p : Nat) : Int) ((30 + lays base + sizes rs : Nat) : Int)) (hm : CmM w T wt r K (.pointer (some ⟨L, 0, none⟩)) v vs ql sf (fun k => Foot K v0 v1 k ∨ k = L) wx) (hb : Byts w po m d) (hr : Rng d) (hpo : po = none → c = 0) (hH : Halves w) (hm0 : 0 < m) (hm1 : m ≤ 20000) (hs : lays (base ++ rs) + (m + 2) ≤ 1048576) :
    Calls Tryd.prog 10 #[.pointer (some ⟨L, 0, none⟩), .slice po m c] wx fun e w' => (goesOn false fu = true ∧ e = .returned .nilIface ∧ CmI w T wt r K L g base (rs ++ [d]) p v vs ql sf w') ∨ (¬ goesOn false fu = true ∧ ∃ b, e = .returned (.iface 98 (.pointer (some ⟨b, 0, none⟩))) ∧ CmX w T wt r K g base rs p (.pointer (some ⟨L, 0, none⟩)) v vs ql sf true true w') := by
  have hsz := hG.szs
  have hll := laid_len base
  have l0 := genB_len g (laid base) rs
  have hdl : d.length = m := hb.len
  have ha := two_mod g
  have hc : ((g % 2 : Nat) : Int) = (g : Int) % 2 := by omega
  have hG' : CmG g base (rs ++ [d]) := ⟨hG.g1, hG.g2, fun e he => by
    rw [← List.append_assoc] at he
    rcases List.mem_append.1 he with he | he
    · exact hG.ln e he
    · rw [List.mem_singleton] at he
      subst he
      exact ⟨by omega, by omega, hr⟩, by
    rw [← List.append_assoc, lays_app]
    have : lays [d] = d.length + 2 := by simp [lays]
    omega⟩
  refine (lAppend_go hl (hb.below hm.bl) hpo (hH.under' hm.bl) hm0 hm1 (by omega) (by omega) (by omega) (by omega) (by omega) (by omega)).mono ?_
  rintro e w' ⟨u0, u1, hst, hr'⟩
  have hM := hm.step (Q := fun k => Foot K u0 u1 k ∨ k = L) hst.off (lg_low hl) (foot_next hst)
  have e1 : appC (sgT (g % 2) (genB g (laid base) rs) [] (30 + lays base + sizes (rs.take p)) 0 false fu na ns nc) ((g : Int) % 2) (d.length + 13) = if goesOn false fu then 0 else 8 := by rw [← hc]; exact tC_app ha (by omega)
  have e2 : appS (sgT (g % 2) (genB g (laid base) rs) [] (30 + lays base + sizes (rs.take p)) 0 false fu na ns nc) ((g : Int) % 2) (recB d) = if goesOn false fu then sgT (g % 2) (genB g (laid base) rs ++ recB d) [] (30 + lays base + sizes (rs.take p)) 0 false (leftOn fu) (oneMore na) ns nc else sgT (g % 2) (genB g (laid base) rs) [] (30 + lays base + sizes (rs.take p)) 0 true fu na ns nc := by rw [← hc]; exact tS_app ha (by rw [recB_len]; omega)
  rw [e1, e2] at hr'
  by_cases gg : goesOn false fu = true
  · rw [if_pos gg, if_pos gg] at hr'
    rcases hr' with ⟨_, rfl, hl'⟩ | ⟨hx, _⟩
    · refine Or.inl ⟨gg, rfl, hG', by simp; omega, u0, u1, leftOn fu, oneMore na, ns, nc, ?_, hM⟩
      have t1 : (rs ++ [d]).take p = rs.take p := List.take_append_of_le_length hp
      have t2 : (((rs ++ [d]).length - p : Nat) : Int) = ((rs.length - p : Nat) : Int) + 1 := by simp; omega
      have t3 : ((rs ++ [d]).length : Int) = (rs.length : Int) + 1 := by simp
      have t4 : ((30 + lays base + sizes (rs ++ [d]) : Nat) : Int) = ((30 + lays base + sizes rs : Nat) : Int) + ((m : Int) + 13) := by rw [sizes_snoc]; omega
      rw [t1, t2, t3, t4, ← genB_snoc]
      exact hl'
    · exact absurd rfl hx
  · rw [if_neg gg, if_neg gg] at hr'
    rcases hr' with ⟨hx, _⟩ | ⟨_, ⟨b, rfl⟩, hl'⟩
    · exact absurd hx (by decide)
    · exact Or.inr ⟨gg, b, rfl, hG, u0, u1, _, _, _, _, fu, na, ns, nc, hl'.d, ⟨rfl, hp, Or.inl ⟨rfl, rfl, rfl⟩⟩, hM.weak (fun _ _ g => Or.inl g)⟩
/-- An Append is done, or refused: which of the two is known ahead. -/
theorem cm_append_ways {wx : World} {po : Option Addr} {m c : Nat} {d : List Int} (h : CmI w T wt r K L g base rs p v vs ql sf wx) (hb : Byts w po m d) (hr : Rng d) (hpo : po = none → c = 0) (hH : Halves w) (hm0 : 0 < m) (hm1 : m ≤ 20000) (hs : lays (base ++ rs) + (m + 2) ≤ 1048576) :
    (∀ zw, Below wx.heap.size wx zw → Calls Tryd.prog 10 #[.pointer (some ⟨L, 0, none⟩), .slice po m c] zw fun e w' => e = .returned .nilIface ∧ CmI w T wt r K L g base (rs ++ [d]) p v vs ql sf w') ∨ (∀ zw, Below wx.heap.size wx zw → Calls Tryd.prog 10 #[.pointer (some ⟨L, 0, none⟩), .slice po m c] zw fun e w' => ∃ b, e = .returned (.iface 98 (.pointer (some ⟨b, 0, none⟩))) ∧ CmX w T wt r K g base rs p (.pointer (some ⟨L, 0, none⟩)) v vs ql sf true true w') := by
  obtain ⟨hG, hp, v0, v1, fu, na, ns, nc, hl, hm⟩ := h
  by_cases gg : goesOn false fu = true
  · refine Or.inl (fun zw hz => (app_core hG hp (hl.below hz) (hm.step (Off.of_below hz) (lg_low hl) (fun _ _ g => g)) hb hr hpo hH hm0 hm1 hs).mono ?_)
    rintro e w' (⟨_, h⟩ | ⟨hx, _⟩)
    · exact h
    · exact absurd gg hx
  · refine Or.inr (fun zw hz => (app_core hG hp (hl.below hz) (hm.step (Off.of_below hz) (lg_low hl) (fun _ _ g => g)) hb hr hpo hH hm0 hm1 hs).mono ?_)
    rintro e w' (⟨hx, _⟩ | ⟨_, h⟩)
    · exact absurd hx gg
    · exact h
end
end Go.Proofs.YtfkcnnjkflomkaaDoor
