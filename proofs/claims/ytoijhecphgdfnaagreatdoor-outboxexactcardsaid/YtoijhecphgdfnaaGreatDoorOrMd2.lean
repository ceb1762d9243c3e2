import Derived.Test.YtoijhecphgdfnaaGreatDoorOrMd
/-
  What made answers.
-/
namespace Go.Proofs.YtoijhecphgdfnaaGreatDoor
open Go.RowKit

section
variable {sq : Bool} {tr : Int} {ms xs : List Msg} {w w' : World}
theorem refS_wi {x y : Msg} (h : ∃ a c, x = y.wi a c) : refS sq xs x = refS sq xs y := by
  obtain ⟨a, c, rfl⟩ := h
  rfl
theorem LdNo.wis {a c : Int} (hw : Wis ms xs) (h : LdNo sq tr ms a c) : LdNo sq tr xs a c := by
  rcases h with h | ⟨h1, h2, h3, h4, h5⟩ | ⟨h1, h2, h3, i, x, k1, k2, k3, k4, k5⟩
  · exact Or.inl h
  · exact Or.inr (Or.inl ⟨h1, h2, by rw [← hw.1]; exact h3, h4, h5⟩)
  · obtain ⟨y, a', c', hy, rfl⟩ := hw.at_ k1
    have e : ∀ (j : Nat) (z : Msg), refS sq (ms.take j) z = refS sq (xs.take j) z := fun j z => refS_wis (hw.take j) z
    refine Or.inr (Or.inr ⟨h1, h2, by rw [← hw.1]; exact h3, i, y, hy, fun j z hj hz => ?_, ?_, k4, ?_⟩)
    · have hjl := (List.getElem?_eq_some_iff.1 hz).1
      obtain ⟨u, hu⟩ : ∃ u, ms[j]? = some u := ⟨_, List.getElem?_eq_getElem (by rw [hw.1]; exact hjl)⟩
      rw [← e, ← refS_wi (hw.2 j u z hu hz)]
      exact k2 j u hj hu
    · rw [← e, ← refS_wi (x := y.wi a' c') ⟨a', c', rfl⟩]; exact k3
    · rw [← e, ← refS_wi (x := y.wi a' c') ⟨a', c', rfl⟩]; exact k5
theorem Good.wis (hw : Wis ms xs) (h : Good sq tr ms) : Good sq tr xs := by
  refine ⟨h.t0, h.t1, by rw [← hw.1]; exact h.len, fun j x hx => ?_⟩
  have hjl := (List.getElem?_eq_some_iff.1 hx).1
  obtain ⟨u, hu⟩ : ∃ u, ms[j]? = some u := ⟨_, List.getElem?_eq_getElem (by rw [hw.1]; exact hjl)⟩
  rw [← refS_wis (hw.take j) x, ← refS_wi (hw.2 j u x hu hx)]
  exact h.ref j u hu
theorem Wis.swap (h : Wis ms xs) : Wis xs ms := ⟨h.1.symm, fun i m x hm hx => by
  obtain ⟨a, c, rfl⟩ := h.2 i x m hx hm
  exact ⟨m.tp, m.tc, rfl⟩⟩
theorem Wis.trans {ys : List Msg} (h : Wis ms xs) (h' : Wis xs ys) : Wis ms ys := ⟨h.1.trans h'.1, fun i m y hm hy => by
  obtain ⟨x, a, c, hx, rfl⟩ := h.at_ hm
  obtain ⟨a', c', rfl⟩ := h'.2 i x y hx hy
  exact ⟨a, c, rfl⟩⟩
theorem Bx.off {P : Nat → Prop} {b kb : Nat} {v : Value} (h : Bx w b kb v sq tr ms) (o : Off P w w') (hb : ¬ P b) (hk : ¬ P kb) (hv : ∀ q, v.ownBlock = some q → ¬ P q) (hm : ∀ m ∈ ms, ∀ q, (Value.slice m.tp m.tn m.tc).ownBlock = some q → ¬ P q) : Bx w' b kb v sq tr ms :=
  ⟨(o.block b (blk_lt h.1) hb).trans h.1, ⟨(o.block kb (blk_lt h.2.1.1) hk).trans h.2.1.1, ERow.off h.2.1.2.1 o hv, h.2.1.2.2⟩, fun m hm' => (h.2.2 m hm').off o (hm m hm')⟩
/-- The two boxes that made made, all of it behind K; or none. -/
def MRes (K : Nat) (sq : Bool) (tr : Int) (xs : List Msg) (bv rv : Value) (w : World) : Prop :=
  (bv = .pointer none ∧ rv = .pointer none) ∨
  (∃ b kb v ms r L rs, bv = .pointer (some ⟨b, 0, none⟩) ∧ rv = .pointer (some ⟨r, 0, none⟩) ∧ Bx w b kb v sq tr ms ∧ RB w K r L sq tr rs ∧ Wis ms xs ∧ Wis rs xs ∧ Good sq tr xs ∧ K ≤ b ∧ K ≤ kb ∧ (∀ q, v.ownBlock = some q → K ≤ q ∧ L.ownBlock ≠ some q) ∧ ∀ m ∈ ms, ∀ q, (Value.slice m.tp m.tn m.tc).ownBlock = some q → K ≤ q)
theorem MRes.off {K : Nat} {P : Nat → Prop} {bv rv : Value} (h : MRes K sq tr xs bv rv w) (o : Off P w w') (hP : ∀ q, P q → q < K) : MRes K sq tr xs bv rv w' := by
  have no : ∀ {q : Nat}, K ≤ q → ¬ P q := fun hq h => by have := hP _ h; omega
  rcases h with h | ⟨b, kb, v, ms, r, L, rs, h1, h2, h3, h4, h5, h6, h7, h8, h9, h10, h11⟩
  · exact Or.inl h
  · exact Or.inr ⟨b, kb, v, ms, r, L, rs, h1, h2, h3.off o (no h8) (no h9) (fun q hq => no (h10 q hq).1) (fun m hm q hq => no (h11 m hm q hq)), h4.off o (no h4.lB) (fun q hq => no (ERow.lt h4.row hq).1) (fun m hm q hq => no (ERow.lt (h4.own m hm).1 hq).1), h5, h6, h7, h8, h9, h10, h11⟩
/-- Load's answer, its two results named. -/
def LdV (w : World) (sq : Bool) (tr : Int) (xs : List Msg) (bv ev : Value) (w' : World) : Prop := LdQF w sq tr xs (.returned (.tuple #[bv, ev])) w'
theorem ldv_of {e : Ending} (h : LdQF w sq tr xs e w') : ∃ bv ev, e = .returned (.tuple #[bv, ev]) ∧ Hid (LdV w sq tr xs bv ev w') := by
  rcases h with ⟨z, a, c, rfl, h⟩ | ⟨b, kb, v, ms, rfl, h⟩
  · exact ⟨_, _, rfl, Or.inl ⟨z, a, c, rfl, h⟩⟩
  · exact ⟨_, _, rfl, Or.inr ⟨b, kb, v, ms, rfl, h⟩⟩
theorem LdV.below {bv ev : Value} (h : LdV w sq tr xs bv ev w') : Below w.heap.size w w' := by
  rcases h with ⟨z, a, c, _, _, _, _, hb⟩ | ⟨b, kb, v, ms, _, L, _⟩
  · exact hb
  · exact L.bel
def RLdV (w : World) (sq : Bool) (tr : Int) (xs : List Msg) (rv : Value) (a c : Int) (w' : World) : Prop := RLdQ w sq tr xs (.returned (.tuple #[rv, .int .i64 a, .int .i64 c])) w'
theorem rldv_of {e : Ending} (h : RLdQ w sq tr xs e w') : ∃ rv a c, e = .returned (.tuple #[rv, .int .i64 a, .int .i64 c]) ∧ Hid (RLdV w sq tr xs rv a c w') := by
  rcases h with ⟨a, c, rfl, h⟩ | ⟨r, L, ms, rfl, h⟩
  · exact ⟨_, _, _, rfl, Or.inl ⟨a, c, rfl, h⟩⟩
  · exact ⟨_, _, _, rfl, Or.inr ⟨r, L, ms, rfl, h⟩⟩
/-- The two answers go together. -/
theorem ld_both {w1 w2 : World} {bv ev rv : Value} {a c : Int} (h1 : LdV w sq tr ms bv ev w1) (hw : Wis ms xs) (h2 : RLdV w1 sq tr xs rv a c w2) :
    ErrV w2 ev a c ∧ MRes w.heap.size sq tr xs bv rv w2 ∧ Below w.heap.size w w2 ∧ ((bv = .pointer none ∧ rv = .pointer none) ∨ ∃ b r, bv = .pointer (some ⟨b, 0, none⟩) ∧ rv = .pointer (some ⟨r, 0, none⟩)) := by
  rcases h1 with ⟨z, a1, c1, e1, hz, hf, hn, hb⟩ | ⟨b, kb, v, ls, e1, Lp, hb, hfr, hwl, hg⟩ <;> rcases h2 with ⟨a2, c2, e2, hn2, hb2⟩ | ⟨r, L, rs, e2, hr, hb2, hw2, hg2⟩ <;> (injection e1 with e1; injection e1 with e1; injection e2 with e2; injection e2 with e2; simp only [Array.mk.injEq, List.cons.injEq, Value.int.injEq, and_true, true_and] at e1 e2)
  · obtain ⟨rfl, rfl⟩ := e1
    obtain ⟨rfl, rfl, rfl⟩ := e2
    obtain ⟨rfl, rfl⟩ := LdNo.uniq (hn.wis hw) hn2
    exact ⟨Or.inr ⟨hn2.ne, z, rfl, hf.below hb2⟩, Or.inl ⟨rfl, rfl⟩, below_then hb hb2, Or.inl ⟨rfl, rfl⟩⟩
  · exact absurd hg2 (hn.wis hw).bad
  · exact absurd (hg.wis hw) hn2.bad
  · obtain ⟨rfl, rfl⟩ := e1
    obtain ⟨rfl, rfl, rfl⟩ := e2
    have hs := Lp.bel.size
    refine ⟨Or.inl ⟨rfl, rfl⟩, Or.inr ⟨b, kb, v, ls, r, L, rs, rfl, rfl, Lp.bx.below hb2, ⟨hr.blk, ERow.base hr.row hs, fun m hm => ⟨ERow.base (hr.own m hm).1 hs, (hr.own m hm).2⟩, hr.len, Nat.le_trans hs hr.lB⟩, hwl.trans hw, hw2, hg2, hb, Lp.kb, fun q hq => ⟨Lp.v q hq, fun hq2 => ?_⟩, hfr⟩, below_then Lp.bel hb2, Or.inr ⟨b, r, rfl, rfl⟩⟩
    have h3 := (ERow.lt Lp.bx.2.1.2.1 hq).2
    have h4 := (ERow.lt hr.row hq2).1
    omega
/-- The list that is handed in, as Load finds it. -/
theorem hdl_outs {G N c : Nat} {gs : List Nat} {rest : List Msg} (h1 : HdL w (G + 1) xs gs) (h2 : ERow w G 58 7 encO (.slice (some ⟨G, 0, none⟩) N c) (hdl xs gs ++ rest)) : Outs w (some ⟨G, 0, none⟩) (hdl xs gs) := fun j m hm => by
  have hj := (List.getElem?_eq_some_iff.1 hm).1
  obtain ⟨g', eg, hgl, hgc⟩ := ERow.at_ encO_len7 h2 (j := j) (by rw [List.getElem?_append_left hj]; exact hm)
  obtain rfl : G = g' := by simpa using eg
  have e0 := hgc 0 (by decide)
  have e1 := hgc 1 (by decide)
  have e2 := hgc 2 (by decide)
  have e3 := hgc 3 (by decide)
  have e4 := hgc 4 (by decide)
  have e5 := hgc 5 (by decide)
  have e6 := hgc 6 (by decide)
  have hx := hm
  unfold hdl at hx
  rw [List.getElem?_zipWith] at hx
  cases hy : xs[j]? with
  | none => rw [hy] at hx; cases hx
  | some y =>
    cases hg : gs[j]? with
    | none => rw [hy, hg] at hx; cases hx
    | some g =>
      rw [hy, hg] at hx
      simp only [Option.some.injEq] at hx
      subst hx
      refine ⟨G, 0, rfl, ⟨hgl, ?_, ?_, ?_, ?_, ?_, ?_, ?_, (h1.at_ j y g hy hg).byts, fun e => (by cases e)⟩⟩
      all_goals rw [Nat.zero_add]
      · exact e0
      · exact e1
      · exact e2
      · exact e3
      · exact e4
      · exact e5
      · exact e6
theorem hdl_plain {gs : List Nat} (hp : ∀ x ∈ xs, Plain x) : ∀ x ∈ hdl xs gs, Plain x := fun x hx => by
  obtain ⟨j, hj, e⟩ := List.getElem_of_mem hx
  have hm : (hdl xs gs)[j]? = some x := by rw [List.getElem?_eq_getElem hj, e]
  unfold hdl at hm
  rw [List.getElem?_zipWith] at hm
  cases hy : xs[j]? with
  | none => rw [hy] at hm; cases hm
  | some y =>
    cases hg : gs[j]? with
    | none => rw [hy, hg] at hm; cases hm
    | some g =>
      rw [hy, hg] at hm
      simp only [Option.some.injEq] at hm
      subst hm
      exact hp y (List.mem_of_getElem? hy)
end
set_option maxRecDepth 100000 in
set_option maxHeartbeats 2000000 in
theorem sameOut_w (m : Msg) {w : World} {a a2 : Option Addr} {c c2 : Nat} (ha : Byts w a m.tn m.tx) (hb : Byts w a2 m.tn m.tx) (hn : m.tn ≤ 9223372036854775807) : Calls Tryz.prog 15 #[.agg #[.string m.ct, .slice a m.tn c, .bool m.e, .int .i64 m.a, .int .i64 m.p, .int .i64 m.nu, .bool m.nt], .agg #[.string m.ct, .slice a2 m.tn c2, .bool m.e, .int .i64 m.a, .int .i64 m.p, .int .i64 m.nu, .bool m.nt]] w fun e w' => e = .returned (.bool true) ∧ Below w.heap.size w w' := by
  have bv : Below w.heap.size w ((w.alloc (.cells #[.string m.ct, .slice a m.tn c, .bool m.e, .int .i64 m.a, .int .i64 m.p, .int .i64 m.nu, .bool m.nt] 58)).alloc (.cells #[.string m.ct, .slice a2 m.tn c2, .bool m.e, .int .i64 m.a, .int .i64 m.p, .int .i64 m.nu, .bool m.nt] 58)) := ((Below.refl _ _).alloc (Nat.le_refl _) _).alloc (by simp) _
  have hs := memSame_true (ac := c) (bc := c2) (ha.below bv) (hb.below bv) (by omega)
  have HB : Hid (Below w.heap.size w ((w.alloc (.cells #[.string m.ct, .slice a m.tn c, .bool m.e, .int .i64 m.a, .int .i64 m.p, .int .i64 m.nu, .bool m.nt] 58)).alloc (.cells #[.string m.ct, .slice a2 m.tn c2, .bool m.e, .int .i64 m.a, .int .i64 m.p, .int .i64 m.nu, .bool m.nt] 58))) := bv
  clear bv ha hb
  go_enter Tryz.func15, Tryz.ntmps15
  go_wp2_with fail
  refine hs.mono ?_
  rintro _ w1 ⟨rfl, k, rfl⟩
  clear hs
  go_wp2_with fail
  go_ret
  exact ⟨rfl, below_drewN HB.out k⟩
theorem RLdV.below {w w' : World} {sq : Bool} {tr : Int} {xs : List Msg} {rv : Value} {a c : Int} (h : RLdV w sq tr xs rv a c w') : Below w.heap.size w w' := by
  rcases h with ⟨a2, c2, _, _, hb⟩ | ⟨r, L, rs, _, _, hb, _⟩
  · exact hb
  · exact hb
end Go.Proofs.YtoijhecphgdfnaaGreatDoor

/-
  The law's made: what was handed in is written over.
-/
namespace Go.Proofs.YtoijhecphgdfnaaGreatDoor
open Go.RowKit

/-- j of the list are written over. -/
structure MdO (V : World) (K G n : Nat) (sq : Bool) (tr : Int) (xs : List Msg) (gs : List Nat) (bv rv : Value) (j : Nat) (wx : World) : Prop where
  row : ∃ ys, ys.length = j ∧ ERow wx G 58 7 encO (.slice (some ⟨G, 0, none⟩) (n + 90) (n + 90)) (ys ++ ((hdl xs gs).drop j ++ mksM 90))
  txt : ∀ (l : Nat) (x : Msg) (g : Nat), j ≤ l → xs[l]? = some x → gs[l]? = some g → Mkd wx (G + 1) g x.tn x.tx ∧ g < K
  bel : Below V.heap.size V wx
  res : MRes K sq tr xs bv rv wx
/-- And k bytes of the next one's text. -/
structure MdP (V : World) (K G n : Nat) (sq : Bool) (tr : Int) (xs : List Msg) (gs : List Nat) (bv rv : Value) (j g m : Nat) (wx : World) : Prop where
  row : ∃ ys, ys.length = j ∧ ERow wx G 58 7 encO (.slice (some ⟨G, 0, none⟩) (n + 90) (n + 90)) (ys ++ ((hdl xs gs).drop j ++ mksM 90))
  cur : ∃ bs, BRow wx (G + 1) (.slice (some ⟨g, 0, none⟩) m (m + 90)) bs
  txt : ∀ (l : Nat) (x : Msg) (h : Nat), j + 1 ≤ l → xs[l]? = some x → gs[l]? = some h → Mkd wx (G + 1) h x.tn x.tx ∧ h < K ∧ h ≠ g
  bel : Below V.heap.size V wx
  res : MRes K sq tr xs bv rv wx
section
variable {V wx w' : World} {K G n j g m k : Nat} {sq : Bool} {tr : Int} {xs : List Msg} {gs : List Nat} {bv rv : Value} {x : Msg}
theorem hdl_at (hx : xs[j]? = some x) (hg : gs[j]? = some g) : (hdl xs gs)[j]? = some (hdM x g) := by
  unfold hdl
  rw [List.getElem?_zipWith, hx, hg]
theorem drop_at {α : Type} {l : List α} {x : α} (h : l[j]? = some x) : l.drop j = x :: l.drop (j + 1) := by
  obtain ⟨hj, e⟩ := List.getElem?_eq_some_iff.1 h
  rw [List.drop_eq_getElem_cons hj, e]
/-- The element at j. -/
theorem MdO.cells (h : MdO V K G n sq tr xs gs bv rv j wx) (hx : xs[j]? = some x) (hg : gs[j]? = some g) : wx.cell? ⟨G, j * 7, none⟩ = some (.string x.ct) ∧ wx.cell? ⟨G, j * 7 + 1, none⟩ = some (.slice (some ⟨g, 0, none⟩) x.tn (x.tn + 90)) ∧ wx.cell? ⟨G, j * 7 + 2, none⟩ = some (.bool x.e) ∧ wx.cell? ⟨G, j * 7 + 3, none⟩ = some (.int .i64 x.a) ∧ wx.cell? ⟨G, j * 7 + 4, none⟩ = some (.int .i64 x.p) ∧ wx.cell? ⟨G, j * 7 + 5, none⟩ = some (.int .i64 x.nu) ∧ wx.cell? ⟨G, j * 7 + 6, none⟩ = some (.bool x.nt) ∧ G < wx.heap.size := by
  obtain ⟨ys, hy, hr⟩ := h.row
  obtain ⟨g', eg, hgl, hgc⟩ := ERow.at_ encO_len7 hr (j := j) (x := hdM x g) (by rw [List.getElem?_append_right (by omega), hy, Nat.sub_self, drop_at (hdl_at hx hg)]; rfl)
  obtain rfl : G = g' := by simpa using eg
  exact ⟨hgc 0 (by decide), hgc 1 (by decide), hgc 2 (by decide), hgc 3 (by decide), hgc 4 (by decide), hgc 5 (by decide), hgc 6 (by decide), hgl⟩
theorem MdP.cell1 (h : MdP V K G n sq tr xs gs bv rv j g m wx) (hx : xs[j]? = some x) (hg : gs[j]? = some g) : wx.cell? ⟨G, j * 7, none⟩ = some (.string x.ct) ∧ wx.cell? ⟨G, j * 7 + 1, none⟩ = some (.slice (some ⟨g, 0, none⟩) x.tn (x.tn + 90)) ∧ G < wx.heap.size ∧ ∀ q, wx.frozen? ⟨G, q, none⟩ = false := by
  obtain ⟨ys, hy, hr⟩ := h.row
  obtain ⟨g', eg, hgl, hgc⟩ := ERow.at_ encO_len7 hr (j := j) (x := hdM x g) (by rw [List.getElem?_append_right (by omega), hy, Nat.sub_self, drop_at (hdl_at hx hg)]; rfl)
  obtain rfl : G = g' := by simpa using eg
  exact ⟨hgc 0 (by decide), hgc 1 (by decide), hgl, ERow.thaw hr⟩
theorem MdO.into (h : MdO V K G n sq tr xs gs bv rv j wx) (hlt : ∀ (i j g h : Nat), i < j → gs[i]? = some g → gs[j]? = some h → g < h) (hx : xs[j]? = some x) (hg : gs[j]? = some g) : MdP V K G n sq tr xs gs bv rv j g x.tn wx :=
  ⟨h.row, ⟨_, mkd_pre (h.txt j x g (Nat.le_refl _) hx hg).1⟩, fun l y k hl hy hk => ⟨(h.txt l y k (by omega) hy hk).1, (h.txt l y k (by omega) hy hk).2, by have := hlt j l g k (by omega) hg hk; omega⟩, h.bel, h.res⟩
theorem MdO.off_ {P : Nat → Prop} (h : MdO V K G n sq tr xs gs bv rv j wx) (o : Off P wx w') (hP : ∀ q, ¬ P q) : MdO V K G n sq tr xs gs bv rv j w' := by
  obtain ⟨ys, hy, hr⟩ := h.row
  exact ⟨⟨ys, hy, ERow.off hr o fun q _ => hP q⟩, fun l x g hl hx hg => ⟨(h.txt l x g hl hx hg).1.off o (hP g), (h.txt l x g hl hx hg).2⟩, h.bel.trans (o.below h.bel.size fun q hq => absurd hq (hP q)), h.res.off o fun q hq => absurd hq (hP q)⟩
theorem MdO.below_ (h : MdO V K G n sq tr xs gs bv rv j wx) (hb : Below wx.heap.size wx w') : MdO V K G n sq tr xs gs bv rv j w' := h.off_ (Off.of_below (P := fun _ => False) hb) fun _ => id
theorem MRes.form {w : World} (h : MRes K sq tr xs bv rv w) : (bv = .pointer none ∧ rv = .pointer none) ∨ ∃ b r, bv = .pointer (some ⟨b, 0, none⟩) ∧ rv = .pointer (some ⟨r, 0, none⟩) := by
  rcases h with h | ⟨b, _, _, _, r, _, _, h1, h2, _⟩
  · exact Or.inl h
  · exact Or.inr ⟨b, r, h1, h2⟩
/-- A byte turned. -/
theorem MdP.byte (h : MdP V K G n sq tr xs gs bv rv j g m wx) (hV : V.heap.size ≤ G) (hk : k < m) (z : Int) (hgK : g < K) : MdP V K G n sq tr xs gs bv rv j g m (wx.setCell ⟨g, k, none⟩ (.int .u8 z)) := by
  obtain ⟨ys, hy, hr⟩ := h.row
  obtain ⟨bs, hb⟩ := h.cur
  have hl := ERow.len hb
  have hg1 := (ERow.lt hb (g := g) rfl).1
  have o : Off (fun q => q = g) wx (wx.setCell ⟨g, k, none⟩ (.int .u8 z)) := Off.setCell (P := fun q => q = g) (Off.refl _ _) (p := ⟨g, k, none⟩) rfl _
  refine ⟨⟨ys, hy, ERow.off hr o fun q hq e => ?_⟩, ⟨_, BRow.stored hb k z (by omega)⟩, fun l x h' hl hx hh => ?_, h.bel.trans (o.below h.bel.size fun q hq => by omega), h.res.off o fun q hq => by omega⟩
  · simp only [Value.ownBlock, Option.some.injEq] at hq
    omega
  · obtain ⟨t1, t2, t3⟩ := h.txt l x h' hl hx hh
    exact ⟨t1.off o t3, t2, t3⟩
theorem MdP.drew_ (h : MdP V K G n sq tr xs gs bv rv j g m wx) : MdP V K G n sq tr xs gs bv rv j g m wx.drew := by
  obtain ⟨ys, hy, hr⟩ := h.row
  obtain ⟨bs, hb⟩ := h.cur
  have o : Off (fun _ => False) wx wx.drew := (Off.refl _ _).drew
  exact ⟨⟨ys, hy, ERow.off hr o fun _ _ => id⟩, ⟨bs, ERow.off hb o fun _ _ => id⟩, fun l x h' hl hx hh => ⟨(h.txt l x h' hl hx hh).1.off o id, (h.txt l x h' hl hx hh).2⟩, h.bel.trans (o.below h.bel.size fun _ hq => hq.elim), h.res.off o fun _ hq => hq.elim⟩
/-- The control id gone. -/
theorem MdP.gone (h : MdP V K G n sq tr xs gs bv rv j g m wx) (hV : V.heap.size ≤ G) (hx : xs[j]? = some x) (hg : gs[j]? = some g) (hGK : G < K) (u : ByteArray) : MdO V K G n sq tr xs gs bv rv (j + 1) (wx.setCell ⟨G, j * 7, none⟩ (.string u)) := by
  obtain ⟨ys, hy, hr⟩ := h.row
  have hd := drop_at (hdl_at hx hg)
  rw [hd] at hr
  have o : Off (fun q => q = G) wx (wx.setCell ⟨G, j * 7, none⟩ (.string u)) := Off.setCell (P := fun q => q = G) (Off.refl _ _) (p := ⟨G, j * 7, none⟩) rfl _
  have r3 := row_cell encO_len7 hr (i := j) (x := hdM x g) (by rw [List.getElem?_append_right (by omega), hy, Nat.sub_self]; rfl) (q := 0) (u := .string u) (x' := { hdM x g with ct := u }) (by decide) rfl
  rw [Nat.add_zero] at r3
  refine ⟨⟨ys ++ [{ hdM x g with ct := u }], by simp [hy], ?_⟩, fun l y k hl hy' hk => ?_, h.bel.trans (o.below h.bel.size fun q hq => by omega), h.res.off o fun q hq => by omega⟩
  · rw [List.set_append_right _ _ (by omega), hy, Nat.sub_self] at r3
    rw [List.append_assoc]
    exact r3
  · obtain ⟨t1, t2, t3⟩ := h.txt l y k hl hy' hk
    have := t1.lt.1
    exact ⟨t1.off o (by omega), t2⟩
/-- The marks as they were. -/
theorem MdO.mark (h : MdO V K G n sq tr xs gs bv rv n wx) (hn : (hdl xs gs).length = n) (hk : k < 90) : wx.cell? ⟨G, (n + k) * 7, none⟩ = some (.string ⟨#[]⟩) ∧ wx.cell? ⟨G, (n + k) * 7 + 5, none⟩ = some (.int .i64 (-77 - (k : Int))) := by
  obtain ⟨ys, hy, hr⟩ := h.row
  rw [List.drop_of_length_le (by omega), List.nil_append] at hr
  obtain ⟨g', eg, hgl, hgc⟩ := ERow.at_ encO_len7 hr (j := n + k) (x := mkM k) (by
    rw [List.getElem?_append_right (by omega), hy, Nat.add_sub_cancel_left]
    unfold mksM
    rw [List.getElem?_map, List.getElem?_range hk]
    rfl)
  obtain rfl : G = g' := by simpa using eg
  exact ⟨hgc 0 (by decide), hgc 5 (by decide)⟩
end
end Go.Proofs.YtoijhecphgdfnaaGreatDoor
