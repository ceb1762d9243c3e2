import Derived.Test.YthnpckmgnompiaaGreatDoorLsLog
/-
  The law WalLists: the log, the room and the list of what was put, side by side.
-/
namespace Go.Proofs.YthnpckmgnompiaaGreatDoor
open Go.RowKit Go.BigFrame

/-- The law's run: the log (its records rl), the room R, the list v of what was put (rs). -/
structure WlI (w : World) (K L R : Nat) (sn : List Int) (rl rs : List (List Int)) (v : Value) (vs : List Value) (wx : World) : Prop where
  lg : ∃ v0 v1 na ns nc s wt, Lg wx w.heap.size K L v0 v1 (sgL sn rl s na ns nc) false 1 1 rl.length wt ((30 + sn.length + sizes rl : Nat) : Int) ∧ 0 ≤ wt ∧ wt ≤ rl.length ∧ s ≤ 30 + sn.length + sizes rl ∧ ∀ q, Foot K v0 v1 q → q ≠ R ∧ v.ownBlock ≠ some q ∧ ∀ (j : Nat) (u : Value), vs[j]? = some u → u.ownBlock ≠ some q
  bl : Below w.heap.size w wx
  rm : ∃ xs, Row wx w.heap.size (.slice (some ⟨R, 0, none⟩) 20001 20001) xs
  vr : VRow wx w.heap.size 22 v vs
  rw : Rws wx w.heap.size vs rs
  dL : L ≠ R ∧ v.ownBlock ≠ some L ∧ ∀ (j : Nat) (u : Value), vs[j]? = some u → u.ownBlock ≠ some L
  dR : v.ownBlock ≠ some R ∧ ∀ (j : Nat) (u : Value), vs[j]? = some u → u.ownBlock ≠ some R
  gd : LlG sn rl
section
variable {w wx w' : World} {K L R : Nat} {sn : List Int} {rl rs : List (List Int)} {v : Value} {vs : List Value}
theorem WlI.under (h : WlI w K L R sn rl rs v vs wx) (hb : Below wx.heap.size wx w') : WlI w K L R sn rl rs v vs w' := by
  obtain ⟨v0, v1, na, ns, nc, s, wt, hl, h1, h2, h3, h4⟩ := h.lg
  obtain ⟨xs, hx⟩ := h.rm
  exact ⟨⟨v0, v1, na, ns, nc, s, wt, hl.below hb, h1, h2, h3, h4⟩, h.bl.trans (hb.mono h.bl.size), ⟨xs, hx.keep fun g hg => hb.block g (hx.lt hg).2⟩, h.vr.keep fun g hg => hb.block g (h.vr.lt hg).2, h.rw.off (Off.of_below (P := fun _ => False) hb) (fun _ _ _ _ _ => id), h.dL, h.dR, h.gd⟩
theorem WlI.room (h : WlI w K L R sn rl rs v vs wx) (k : Nat) (z : Int) : WlI w K L R sn rl rs v vs (wx.setCell ⟨R, k, none⟩ (.int .u8 z)) := by
  obtain ⟨v0, v1, na, ns, nc, s, wt, hl, h1, h2, h3, h4⟩ := h.lg
  obtain ⟨xs, hx⟩ := h.rm
  have o : Off (fun q => q = R) wx (wx.setCell ⟨R, k, none⟩ (.int .u8 z)) := Off.setCell (P := fun q => q = R) (Off.refl _ _) (p := ⟨R, k, none⟩) rfl _
  have hR := (hx.lt (g := R) rfl).1
  exact ⟨⟨v0, v1, na, ns, nc, s, wt, hl.far o (fun q hq => (h4 q hq).1) h.dL.1, h1, h2, h3, h4⟩, h.bl.trans (o.below h.bl.size (fun q e => by omega)), ⟨_, hx.stored k z⟩, h.vr.off o (fun q e e' => h.dR.1 (e' ▸ e)), h.rw.off o (fun j u hu q e e' => h.dR.2 j u hu (e' ▸ e)), h.dL, h.dR, h.gd⟩
theorem wl_bad {po : Option Addr} {m c : Nat} (h : WlI w K L R sn rl rs v vs wx) (hm : m = 0 ∨ 20000 < m) :
    Calls Tryz.prog 8 #[.pointer (some ⟨L, 0, none⟩), .slice po m c] wx fun e w' => ∃ u, e = .returned u ∧ WErr wx 62 u w' ∧ WlI w K L R sn rl rs v vs w' := by
  obtain ⟨v0, v1, na, ns, nc, s, wt, hl, h1, h2, h3, h4⟩ := h.lg
  refine (lAppend_bad hl hm).mono ?_
  rintro e w' ⟨u, he, hw⟩
  have hb : Below wx.heap.size wx w' := by obtain ⟨_, _, _, hb⟩ := hw; exact hb
  exact ⟨u, he, hw, h.under hb⟩
theorem wl_full {po : Option Addr} {m c : Nat} (h : WlI w K L R sn rl rs v vs wx) (hm0 : 0 < m) (hm1 : m ≤ 20000) (hf : 16777216 < 30 + sn.length + sizes rl + (m + 13)) :
    Calls Tryz.prog 8 #[.pointer (some ⟨L, 0, none⟩), .slice po m c] wx fun e w' => ∃ u, e = .returned u ∧ WErr wx 7 u w' ∧ WlI w K L R sn rl rs v vs w' := by
  obtain ⟨v0, v1, na, ns, nc, s, wt, hl, h1, h2, h3, h4⟩ := h.lg
  have hz := h.gd.sz
  refine (lAppend_full hl hm0 hm1 (by omega) (by omega) (by omega)).mono ?_
  rintro e w' ⟨u, he, hw⟩
  have hb : Below wx.heap.size wx w' := by obtain ⟨_, _, _, hb⟩ := hw; exact hb
  exact ⟨u, he, hw, h.under hb⟩
theorem wl_append {m c : Nat} {po : Option Addr} {d : List Int} (h : WlI w K L R sn rl rs v vs wx) (hb : Byts wx po m d) (hr : Rng d) (hpo : po = none → c = 0) (hH : Halves w) (hm0 : 0 < m) (hm1 : m ≤ 20000) (hf : 30 + sn.length + sizes rl + (m + 13) ≤ 16777216) :
    Calls Tryz.prog 8 #[.pointer (some ⟨L, 0, none⟩), .slice po m c] wx fun e w' => e = .returned .nilIface ∧ WlI w K L R sn (rl ++ [d]) rs v vs w' := by
  obtain ⟨v0, v1, na, ns, nc, s, wt, hl, h1, h2, h3, h4⟩ := h.lg
  obtain ⟨xs, hx⟩ := h.rm
  have hlen : d.length = m := hb.len
  have hll := len_sizes rl
  refine (ll_append hl h1 (by omega) hb hpo (hH.under' h.bl) hm0 hm1 hf).mono ?_
  rintro e w' ⟨u0, u1, na', he, hst, hl'⟩
  have nR : ¬ (Foot K v0 v1 R ∨ R = L) := fun p => p.elim (fun p => (h4 R p).1 rfl) (fun p => h.dL.1 p.symm)
  have nv : ∀ q, v.ownBlock = some q → ¬ (Foot K v0 v1 q ∨ q = L) := fun q e p => p.elim (fun p => (h4 q p).2.1 e) (fun p => h.dL.2.1 (p ▸ e))
  have nu : ∀ (j : Nat) (u : Value), vs[j]? = some u → ∀ q, u.ownBlock = some q → ¬ (Foot K v0 v1 q ∨ q = L) := fun j u hu q e p => p.elim (fun p => (h4 q p).2.2 j u hu e) (fun p => h.dL.2.2 j u hu (p ▸ e))
  refine ⟨he, ⟨u0, u1, na', ns, nc, s, wt + 1, hl', by omega, by simp; omega, by rw [sizes_snoc]; omega, fun q hq => ?_⟩, h.bl.trans (hst.off.below h.bl.size (fun q g => ?_)), ⟨xs, hx.off hst.off (fun q e => ?_)⟩, h.vr.off hst.off nv, h.rw.off hst.off nu, h.dL, h.dR, h.gd.snoc (by omega) (by omega) hr (by omega)⟩
  · refine ⟨fun e => ?_, fun e => ?_, fun j u hu e => ?_⟩
    · subst e; exact nR (Or.inl (hst.foot q (hx.lt (g := q) rfl).2 hq))
    · exact nv q e (Or.inl (hst.foot q (h.vr.lt e).2 hq))
    · exact nu j u hu q e (Or.inl (hst.foot q (h.rw.lt hu e).2 hq))
  · rcases g with g | rfl
    · exact (hl.d.foot_lt g).1
    · exact hl.ge
  · simp only [Value.ownBlock, Option.some.injEq] at e
    subst e; exact nR
end
end Go.Proofs.YthnpckmgnompiaaGreatDoor

/-
  The law WalLists: a record's copy is put into the law's own list.
-/
namespace Go.Proofs.YthnpckmgnompiaaGreatDoor
open Go.RowKit Go.BigFrame

/-- A copy of bytes: append to an empty literal. -/
theorem run_copied {zw : World} {po : Option Addr} {m c : Nat} {d : List Int} (hb : Byts zw po m d) (hpo : po = none → c = 0) (hm : m ≤ 140737488355328) :
    ∃ a k w', (Builtin.append_ #[22, 22] 22 #[.slice (some ⟨zw.heap.size, 0, none⟩) 0 0, .slice po m c]).run Tryz.prog (zw.alloc (.cells #[] 5)) = .ok (.slice a m k) w' ∧ Row w' zw.heap.size (.slice a m k) d ∧ Below zw.heap.size zw w' := by
  have hlen := hb.len
  have ha : Below zw.heap.size zw (zw.alloc (.cells #[] 5)) := (Below.refl _ _).alloc (Nat.le_refl _) _
  have hrow : Row (zw.alloc (.cells #[] 5)) zw.heap.size (.slice (some ⟨zw.heap.size, 0, none⟩) 0 0) [] := by
    exact ⟨rfl, Or.inr ⟨zw.heap.size, 0, #[], rfl, Nat.le_refl _, by show (Array.push _ _)[_]? = _; simp, Nat.le_refl _, Nat.zero_le _, rfl, rfl⟩⟩
  obtain ⟨v', w', hr, r, g, o⟩ := run_append_bytes (c := c) hrow (hb.below ha) hpo (by simp; omega) (by simp) 22
  have hoff : Off (fun k => k = zw.heap.size) zw w' := ((Off.refl _ zw).alloc _).trans ((Off.of_grown g).mono (fun k e => by simp [Value.ownBlock] at e; exact e.symm))
  rw [List.nil_append] at r
  obtain ⟨a, n, k, rfl⟩ : ∃ a n k, v' = .slice a n k := by
    rcases r.form with ⟨e, _⟩ | ⟨g, cap, e, _⟩
    · exact ⟨_, _, _, e⟩
    · exact ⟨_, _, _, e⟩
  have hn := r.len
  obtain rfl : n = m := by omega
  exact ⟨a, k, w', hr, r, hoff.below (Nat.le_refl _) (fun q e => by omega)⟩
theorem wl_push {w wx wy : World} {K L R m c : Nat} {sn d : List Int} {rl rs : List (List Int)} {v : Value} {vs : List Value} {a : Option Addr} (h : WlI w K L R sn rl rs v vs wx) (hb : Below wx.heap.size wx wy) (hu : Row wy wx.heap.size (.slice a m c) d) (hl : rs.length ≤ 16777216) :
    ∃ a' n' c' w', (Builtin.append_ #[23, 23] 23 #[v, .slice (some ⟨wy.heap.size, 0, none⟩) 1 1]).run Tryz.prog (wy.alloc (.cells #[.slice a m c] 22)) = .ok (.slice a' n' c') w' ∧ WlI w K L R sn rl (rs ++ [d]) (.slice a' n' c') (vs ++ [.slice a m c]) w' := by
  obtain ⟨v0, v1, na, ns, nc, s, wt, hlg, h1, h2, h3, h4⟩ := h.lg
  obtain ⟨xs, hx⟩ := h.rm
  have hlL := hlg.lt
  have hR := (hx.lt (g := R) rfl).2
  have hU := h.under hb
  obtain ⟨ys, hy⟩ := hU.rm
  obtain ⟨a', n', c', w', e1, r1, o1, s1⟩ := run_vpush hU.vr hU.bl.size (by have := h.rw.len; omega) (.slice a m c) rfl
  have hs := hb.size
  have low : ∀ q, (Value.slice a' n' c').ownBlock = some q → v.ownBlock = some q ∨ wy.heap.size ≤ q := fun q e => by
    rcases s1 with e' | ⟨g, e', hg⟩
    · exact Or.inl (e' ▸ e)
    · rw [e', Option.some.injEq] at e; exact Or.inr (by omega)
  have uge : ∀ q, (Value.slice a m c).ownBlock = some q → wx.heap.size ≤ q := fun q e => (hu.lt e).1
  have hat : ∀ (j : Nat) (u : Value), (vs ++ [Value.slice a m c])[j]? = some u → vs[j]? = some u ∨ u = .slice a m c := fun j u hj => by
    rcases Nat.lt_or_ge j vs.length with q | q
    · rw [List.getElem?_append_left q] at hj; exact Or.inl hj
    · rw [List.getElem?_append_right q] at hj
      exact Or.inr (by have := List.mem_of_getElem? hj; simpa using this)
  have hul : Row wy w.heap.size (.slice a m c) d := hu.base h.bl.size
  have nv : ∀ q, v.ownBlock = some q → ∀ (j : Nat) (u : Value), vs[j]? = some u → u.ownBlock ≠ some q := fun q e j u hj e' => by
    obtain ⟨b, _, hr⟩ := hU.rw.at_ hj
    exact row_ne hr hU.vr q e' e
  refine ⟨a', n', c', w', e1, ⟨v0, v1, na, ns, nc, s, wt, (hlg.below hb).far o1 (fun q hq e => (h4 q hq).2.1 e) h.dL.2.1, h1, h2, h3, fun q hq => ⟨(h4 q hq).1, fun e => ?_, fun j u hj e => ?_⟩⟩, hU.bl.trans (o1.below hU.bl.size (fun q e => (hU.vr.lt e).1)), ⟨ys, hy.off o1 (fun q e e' => ?_)⟩, r1, (hU.rw.off o1 (fun j u hj q e e' => nv q e' j u hj e)).snoc (hul.off o1 (fun q e e' => ?_)) (fun j u hj q e e' => ?_), ⟨h.dL.1, fun e => ?_, fun j u hj e => ?_⟩, ⟨fun e => ?_, fun j u hj e => ?_⟩, h.gd⟩
  · rcases low q e with p | p
    · exact (h4 q hq).2.1 p
    · have := (hlg.d.foot_lt hq).2; omega
  · rcases hat j u hj with p | rfl
    · exact (h4 q hq).2.2 j u p e
    · have := uge q e; have := (hlg.d.foot_lt hq).2; omega
  · simp only [Value.ownBlock, Option.some.injEq] at e
    subst e; exact h.dR.1 e'
  · have := uge q e; have := (h.vr.lt e').2; omega
  · have := uge q e'; have := (h.rw.lt hj e).2; omega
  · rcases low L e with p | p
    · exact h.dL.2.1 p
    · omega
  · rcases hat j u hj with p | rfl
    · exact h.dL.2.2 j u p e
    · have := uge L e; omega
  · rcases low R e with p | p
    · exact h.dR.1 p
    · omega
  · rcases hat j u hj with p | rfl
    · exact h.dR.2 j u p e
    · have := uge R e; omega
end Go.Proofs.YthnpckmgnompiaaGreatDoor
