/-
  Held.alone: what each of its loops keeps.
-/
import Derived.Test.YtoijhecphgdfnaaDoorHsShow
namespace Go.Proofs.YtoijhecphgdfnaaDoor
open Go.RowKit

section
variable {w w' : World} {B hb n : Nat} {σ : Hs}
/-- Book.Alone over all of Held. -/
theorem bk_alone (h : HS w B hb n σ) (hn : n ≤ 1000000000) :
    Calls Tryd.prog 20 #[.pointer (some ⟨hb, 4, none⟩)] w fun e w' => e = .returned (.bool true) ∧ Hid (AL w' B hb σ.f σ.X (contents σ.D) (contents σ.S) ∧ Off (HsFt σ) w w') := by
  obtain ⟨vb, vw, hk⟩ := h.h0.hr.bk
  refine (Bo.Alone_true hk h.h0.bs (by have := h.nE; omega)).mono fun e w' ⟨e1, q1, q2⟩ => ⟨e1, ⟨⟨⟨_, _, q1⟩, fun q hq => ?_, h.h0.hr.dis, fun q g hq hg => ?_, fun g hg => ?_⟩, ?_, ?_, fun e => ?_, fun e => ?_⟩, (bo_off q2).mono fun k e => Or.inl (Or.inl ?_)⟩
  · exact ERow.off (h.h0.hr.row q hq) (bo_off q2) fun g hg p => by
      have := h.h0.hr.ap q g hq hg
      rcases p with p | ⟨j, p⟩ <;> omega
  · refine rho0_ne fun e => ?_
    have h1 := h.h0.hr.ap q g hq hg
    have h2 := hk.pK
    subst e
    omega
  · rw [rho0_of hg]
    exact h.h0.hr.lo hb (by rw [hk.pK]; decide)
  · show LV w' B 70 3 encD (σ.D.map TD.val) (contents σ.D)
    exact h.h0.dd.lv.off (bo_off q2) fun g hg p => by
      have := h.h0.ap g (Or.inl (LVf.lb hg))
      rcases p with p | ⟨j, p⟩ <;> omega
  · show LV w' B 74 10 encM (σ.S.map TD.val) (contents σ.S)
    exact h.h0.ss.lv.off (bo_off q2) fun g hg p => by
      have := h.h0.ap g (Or.inr (LVf.lb hg))
      rcases p with p | ⟨j, p⟩ <;> omega
  · have h1 := h.h0.ap hb (Or.inl (LVf.lb e)); have h2 := hk.pK; omega
  · have h1 := h.h0.ap hb (Or.inr (LVf.lb e)); have h2 := hk.pK; omega
  · rcases e with p | ⟨j, p⟩ <;> omega
end
/-- The lists' blocks. -/
def LFt (X : Nat → List Sl) (g : Nat) : Prop := LVf (X 0) g ∨ LVf (X 2) g
section
variable {w w' W : World} {B hb : Nat} {f : Nat → Value} {X : Nat → List Sl} {CD : Nat → List Deed} {CS : Nat → List Msg}
theorem deed_set {w : World} {B g n c j : Nat} {xs : List Deed} (h : DRow w B (.slice (some ⟨g, 0, none⟩) n c) xs) (hj : j < xs.length) (d : Deed) :
    DRow (((w.setCell ⟨g, j * 3, none⟩ (.string d.1)).setCell ⟨g, j * 3 + 1, none⟩ (.int .i64 d.2.1)).setCell ⟨g, j * 3 + 2, none⟩ (.string d.2.2)) B (.slice (some ⟨g, 0, none⟩) n c) (xs.set j d) := by
  obtain ⟨x0, hx0⟩ : ∃ x, xs[j]? = some x := ⟨_, List.getElem?_eq_getElem hj⟩
  have h1 := row_cell encD_len h hx0 (q := 0) (u := .string d.1) (x' := (d.1, x0.2)) (by decide) rfl
  have h2 := row_cell encD_len h1 (x := (d.1, x0.2)) (List.getElem?_set_self hj) (q := 1) (u := .int .i64 d.2.1) (x' := (d.1, d.2.1, x0.2.2)) (by decide) rfl
  have h3 := row_cell encD_len h2 (x := (d.1, d.2.1, x0.2.2)) (List.getElem?_set_self (by rw [List.length_set]; exact hj)) (q := 2) (u := .string d.2.2) (x' := d) (by decide) rfl
  rw [List.set_set, List.set_set] at h3
  exact h3
theorem sent_set {w : World} {B g n c j : Nat} {xs : List Msg} (h : ERow w B 74 10 encM (.slice (some ⟨g, 0, none⟩) n c) xs) (hj : j < xs.length) (m : Msg) :
    ERow ((((((((((w.setCell ⟨g, j * 10, none⟩ (.string m.ct)).setCell ⟨g, j * 10 + 1, none⟩ (.slice m.tp m.tn m.tc)).setCell ⟨g, j * 10 + 2, none⟩ (.bool m.e)).setCell ⟨g, j * 10 + 3, none⟩ (.int .i64 m.a)).setCell ⟨g, j * 10 + 4, none⟩ (.int .i64 m.p)).setCell ⟨g, j * 10 + 5, none⟩ (.int .i64 m.nu)).setCell ⟨g, j * 10 + 6, none⟩ (.bool m.nt)).setCell ⟨g, j * 10 + 7, none⟩ (.int .i64 m.st)).setCell ⟨g, j * 10 + 8, none⟩ (.int .i64 m.lf)).setCell ⟨g, j * 10 + 9, none⟩ (.bool m.un)) B 74 10 encM (.slice (some ⟨g, 0, none⟩) n c) (xs.set j m) := by
  obtain ⟨x0, hx0⟩ : ∃ x, xs[j]? = some x := ⟨_, List.getElem?_eq_getElem hj⟩
  have h0 := row_cell encM_len h hx0 (q := 0) (u := (.string m.ct)) (x' := { x0 with ct := m.ct }) (by decide) rfl
  have h1 := row_cell encM_len h0 (x := { x0 with ct := m.ct }) (List.getElem?_set_self (by simpa using hj)) (q := 1) (u := (.slice m.tp m.tn m.tc)) (x' := { x0 with ct := m.ct, tp := m.tp, tn := m.tn, tc := m.tc }) (by decide) rfl
  have h2 := row_cell encM_len h1 (x := { x0 with ct := m.ct, tp := m.tp, tn := m.tn, tc := m.tc }) (List.getElem?_set_self (by simpa using hj)) (q := 2) (u := (.bool m.e)) (x' := { x0 with ct := m.ct, tp := m.tp, tn := m.tn, tc := m.tc, e := m.e }) (by decide) rfl
  have h3 := row_cell encM_len h2 (x := { x0 with ct := m.ct, tp := m.tp, tn := m.tn, tc := m.tc, e := m.e }) (List.getElem?_set_self (by simpa using hj)) (q := 3) (u := (.int .i64 m.a)) (x' := { x0 with ct := m.ct, tp := m.tp, tn := m.tn, tc := m.tc, e := m.e, a := m.a }) (by decide) rfl
  have h4 := row_cell encM_len h3 (x := { x0 with ct := m.ct, tp := m.tp, tn := m.tn, tc := m.tc, e := m.e, a := m.a }) (List.getElem?_set_self (by simpa using hj)) (q := 4) (u := (.int .i64 m.p)) (x' := { x0 with ct := m.ct, tp := m.tp, tn := m.tn, tc := m.tc, e := m.e, a := m.a, p := m.p }) (by decide) rfl
  have h5 := row_cell encM_len h4 (x := { x0 with ct := m.ct, tp := m.tp, tn := m.tn, tc := m.tc, e := m.e, a := m.a, p := m.p }) (List.getElem?_set_self (by simpa using hj)) (q := 5) (u := (.int .i64 m.nu)) (x' := { x0 with ct := m.ct, tp := m.tp, tn := m.tn, tc := m.tc, e := m.e, a := m.a, p := m.p, nu := m.nu }) (by decide) rfl
  have h6 := row_cell encM_len h5 (x := { x0 with ct := m.ct, tp := m.tp, tn := m.tn, tc := m.tc, e := m.e, a := m.a, p := m.p, nu := m.nu }) (List.getElem?_set_self (by simpa using hj)) (q := 6) (u := (.bool m.nt)) (x' := { x0 with ct := m.ct, tp := m.tp, tn := m.tn, tc := m.tc, e := m.e, a := m.a, p := m.p, nu := m.nu, nt := m.nt }) (by decide) rfl
  have h7 := row_cell encM_len h6 (x := { x0 with ct := m.ct, tp := m.tp, tn := m.tn, tc := m.tc, e := m.e, a := m.a, p := m.p, nu := m.nu, nt := m.nt }) (List.getElem?_set_self (by simpa using hj)) (q := 7) (u := (.int .i64 m.st)) (x' := { x0 with ct := m.ct, tp := m.tp, tn := m.tn, tc := m.tc, e := m.e, a := m.a, p := m.p, nu := m.nu, nt := m.nt, st := m.st }) (by decide) rfl
  have h8 := row_cell encM_len h7 (x := { x0 with ct := m.ct, tp := m.tp, tn := m.tn, tc := m.tc, e := m.e, a := m.a, p := m.p, nu := m.nu, nt := m.nt, st := m.st }) (List.getElem?_set_self (by simpa using hj)) (q := 8) (u := (.int .i64 m.lf)) (x' := { x0 with ct := m.ct, tp := m.tp, tn := m.tn, tc := m.tc, e := m.e, a := m.a, p := m.p, nu := m.nu, nt := m.nt, st := m.st, lf := m.lf }) (by decide) rfl
  have h9 := row_cell encM_len h8 (x := { x0 with ct := m.ct, tp := m.tp, tn := m.tn, tc := m.tc, e := m.e, a := m.a, p := m.p, nu := m.nu, nt := m.nt, st := m.st, lf := m.lf }) (List.getElem?_set_self (by simpa using hj)) (q := 9) (u := (.bool m.un)) (x' := m) (by decide) rfl
  rw [List.set_set, List.set_set, List.set_set, List.set_set, List.set_set, List.set_set, List.set_set, List.set_set, List.set_set] at h9
  exact h9
/-- Writing over: lists of deeds up to i, of list i the first j. -/
structure WrI (W : World) (B hb : Nat) (f : Nat → Value) (X : Nat → List Sl) (CD : Nat → List Deed) (CS : Nat → List Msg) (wx : World) : Prop where
  al : AL wx B hb f X CD CS
  off : Off (LFt X) W wx
theorem WrI.deed {i j : Nat} (h : WrI W B hb f X (fillC mkD CD i j) CS w) {s : Sl} {g : Nat} (hs : (X 0)[i]? = some s) (hg : s.1 = some ⟨g, 0, none⟩) (hj : j < (CD i).length) :
    WrI W B hb f X (fillC mkD CD i (j + 1)) CS (((w.setCell ⟨g, j * 3, none⟩ (.string ⟨#[]⟩)).setCell ⟨g, j * 3 + 1, none⟩ (.int .i64 (-1 - (i : Int)))).setCell ⟨g, j * 3 + 2, none⟩ (.string ⟨#[]⟩)) := by
  have hr := h.al.ld.row i s hs
  have e : Sl.v s = .slice (some ⟨g, 0, none⟩) s.2.1 s.2.2 := by show Value.slice s.1 s.2.1 s.2.2 = _; rw [hg]
  have o : Off (fun q => (Sl.v s).ownBlock = some q) w (((w.setCell ⟨g, j * 3, none⟩ (.string ⟨#[]⟩)).setCell ⟨g, j * 3 + 1, none⟩ (.int .i64 (-1 - (i : Int)))).setCell ⟨g, j * 3 + 2, none⟩ (.string ⟨#[]⟩)) := by
    have hp : (Sl.v s).ownBlock = some g := by rw [e]; rfl
    exact (((Off.refl _ w).setCell (p := ⟨g, j * 3, none⟩) hp _).setCell (p := ⟨g, j * 3 + 1, none⟩) hp _).setCell (p := ⟨g, j * 3 + 2, none⟩) hp _
  have hj2 : j < (fillC mkD CD i j i).length := by rw [fill_len i (by omega)]; exact hj
  have hw : DRow (((w.setCell ⟨g, j * 3, none⟩ (.string ⟨#[]⟩)).setCell ⟨g, j * 3 + 1, none⟩ (.int .i64 (-1 - (i : Int)))).setCell ⟨g, j * 3 + 2, none⟩ (.string ⟨#[]⟩)) B (Sl.v s) ((fillC mkD CD i j i).set j (mkD i)) := by
    rw [e] at hr ⊢
    exact deed_set hr hj2 (mkD i)
  have := h.al.updD hs o hw
  rw [fill_step hj] at this
  exact ⟨this, h.off.trans (o.mono fun q hq => Or.inl ⟨s, List.mem_of_getElem? hs, hq⟩)⟩
theorem WrI.sent {i j : Nat} (h : WrI W B hb f X CD (fillC mkS CS i j) w) {s : Sl} {g : Nat} (hs : (X 2)[i]? = some s) (hg : s.1 = some ⟨g, 0, none⟩) (hj : j < (CS i).length) :
    WrI W B hb f X CD (fillC mkS CS i (j + 1)) ((((((((((w.setCell ⟨g, j * 10, none⟩ (.string ⟨#[]⟩)).setCell ⟨g, j * 10 + 1, none⟩ (.slice none 0 0)).setCell ⟨g, j * 10 + 2, none⟩ (.bool false)).setCell ⟨g, j * 10 + 3, none⟩ (.int .i64 0)).setCell ⟨g, j * 10 + 4, none⟩ (.int .i64 0)).setCell ⟨g, j * 10 + 5, none⟩ (.int .i64 (-1 - (i : Int)))).setCell ⟨g, j * 10 + 6, none⟩ (.bool false)).setCell ⟨g, j * 10 + 7, none⟩ (.int .i64 0)).setCell ⟨g, j * 10 + 8, none⟩ (.int .i64 0)).setCell ⟨g, j * 10 + 9, none⟩ (.bool false)) := by
  have hr := h.al.ls.row i s hs
  have e : Sl.v s = .slice (some ⟨g, 0, none⟩) s.2.1 s.2.2 := by show Value.slice s.1 s.2.1 s.2.2 = _; rw [hg]
  have o : Off (fun q => (Sl.v s).ownBlock = some q) w ((((((((((w.setCell ⟨g, j * 10, none⟩ (.string ⟨#[]⟩)).setCell ⟨g, j * 10 + 1, none⟩ (.slice none 0 0)).setCell ⟨g, j * 10 + 2, none⟩ (.bool false)).setCell ⟨g, j * 10 + 3, none⟩ (.int .i64 0)).setCell ⟨g, j * 10 + 4, none⟩ (.int .i64 0)).setCell ⟨g, j * 10 + 5, none⟩ (.int .i64 (-1 - (i : Int)))).setCell ⟨g, j * 10 + 6, none⟩ (.bool false)).setCell ⟨g, j * 10 + 7, none⟩ (.int .i64 0)).setCell ⟨g, j * 10 + 8, none⟩ (.int .i64 0)).setCell ⟨g, j * 10 + 9, none⟩ (.bool false)) := by
    have hp : (Sl.v s).ownBlock = some g := by rw [e]; rfl
    exact (((((((((((Off.refl _ w).setCell (p := ⟨g, j * 10, none⟩) hp _).setCell (p := ⟨g, j * 10 + 1, none⟩) hp _).setCell (p := ⟨g, j * 10 + 2, none⟩) hp _).setCell (p := ⟨g, j * 10 + 3, none⟩) hp _).setCell (p := ⟨g, j * 10 + 4, none⟩) hp _).setCell (p := ⟨g, j * 10 + 5, none⟩) hp _).setCell (p := ⟨g, j * 10 + 6, none⟩) hp _).setCell (p := ⟨g, j * 10 + 7, none⟩) hp _).setCell (p := ⟨g, j * 10 + 8, none⟩) hp _).setCell (p := ⟨g, j * 10 + 9, none⟩) hp _)
  have hj2 : j < (fillC mkS CS i j i).length := by rw [fill_len i (by omega)]; exact hj
  have hw : ERow ((((((((((w.setCell ⟨g, j * 10, none⟩ (.string ⟨#[]⟩)).setCell ⟨g, j * 10 + 1, none⟩ (.slice none 0 0)).setCell ⟨g, j * 10 + 2, none⟩ (.bool false)).setCell ⟨g, j * 10 + 3, none⟩ (.int .i64 0)).setCell ⟨g, j * 10 + 4, none⟩ (.int .i64 0)).setCell ⟨g, j * 10 + 5, none⟩ (.int .i64 (-1 - (i : Int)))).setCell ⟨g, j * 10 + 6, none⟩ (.bool false)).setCell ⟨g, j * 10 + 7, none⟩ (.int .i64 0)).setCell ⟨g, j * 10 + 8, none⟩ (.int .i64 0)).setCell ⟨g, j * 10 + 9, none⟩ (.bool false)) B 74 10 encM (Sl.v s) ((fillC mkS CS i j i).set j (mkS i)) := by
    rw [e] at hr ⊢
    exact sent_set hr hj2 (mkS i)
  have := h.al.updS hs o hw
  rw [fill_step hj] at this
  exact ⟨this, h.off.trans (o.mono fun q hq => Or.inr ⟨s, List.mem_of_getElem? hs, hq⟩)⟩
end
/-- Growing: so many lists of one kind are grown. -/
structure GwI {α : Type} (N : Nat) (B : Nat) (le e : TypeId) (k : Nat) (enc : α → List Value) (mk : Nat → α) (vals : List Sl) (v : Value) (gs : List Sl) (wx : World) : Prop where
  gl : GL wx N B le e k enc mk v gs
  bd : ∀ (i : Nat) (l : Sl), gs[i]? = some l → l.2.1 ≤ 2000000000
  sep : ∀ (i : Nat) (l : Sl) (g : Nat), gs[i]? = some l → (Sl.v l).ownBlock = some g → ∀ (j : Nat) (s : Sl), vals[j]? = some s → j ≠ i → (Sl.v s).ownBlock ≠ some g
section
variable {α : Type} {N B k : Nat} {le e : TypeId} {enc : α → List Value} {mk : Nat → α} {vals gs : List Sl} {v : Value} {w w' X : World} {P : Nat → Prop}
theorem GwI.nil (w : World) (N B : Nat) (le e : TypeId) (k : Nat) (enc : α → List Value) (mk : Nat → α) (vals : List Sl) : GwI N B le e k enc mk vals (.slice none 0 0) [] w :=
  ⟨⟨ERow.nil _ _ _ _ _, fun i s h => by simp at h⟩, fun i l h => (by simp at h), fun i l g h => (by simp at h)⟩
theorem GwI.off (h : GwI N B le e k enc mk vals v gs w) (o : Off P w w') (h1 : ∀ g, v.ownBlock = some g → ¬ P g) (h2 : ∀ g, LVf gs g → ¬ P g) : GwI N B le e k enc mk vals v gs w' := ⟨h.gl.off o h1 h2, h.bd, h.sep⟩
/-- A list of the current place grows: those that are grown already stay. -/
theorem GwI.keep (h : GwI N B le e k enc mk vals v gs w) {i : Nat} {s : Sl} (hs : vals[i]? = some s) (hi : gs.length = i) (o : Off (fun g => (Sl.v s).ownBlock = some g) w w') (hv : ∀ g, v.ownBlock = some g → (Sl.v s).ownBlock ≠ some g) : GwI N B le e k enc mk vals v gs w' :=
  h.off o hv fun g ⟨l, hl, hg⟩ e2 => by
    obtain ⟨j, hj, e3⟩ := List.getElem_of_mem hl
    exact h.sep j l g (by rw [List.getElem?_eq_getElem hj, e3]) hg i s hs (by omega) e2
/-- One more is grown, and told. -/
theorem GwI.snoc {le' : TypeId} (h : GwI N B le e k enc mk vals v gs w) {i : Nat} {s l : Sl} {x0 : World} (hle : le' = le) (hi : gs.length = i) (hg : GrE x0 B e k enc s (mk i) l w) (hne : le ≠ e) (hx0 : ∀ (j : Nat) (t : Sl) (g : Nat), vals[j]? = some t → (Sl.v t).ownBlock = some g → g < x0.heap.size) (hdis : ∀ (j : Nat) (t : Sl) (g : Nat), vals[j]? = some t → j ≠ i → (Sl.v s).ownBlock = some g → (Sl.v t).ownBlock ≠ some g) (hb : l.2.1 ≤ 2000000000) {w' : World} {v' : Value} (hr : ERow w' N le' 1 encSl v' (gs ++ [l])) (o : Off (fun g => v.ownBlock = some g) w w') : GwI N B le e k enc mk vals v' (gs ++ [l]) w' := by
  subst hle
  have ha : ∀ {q : Nat} {y : Sl}, (gs ++ [l])[q]? = some y → (q < gs.length ∧ gs[q]? = some y) ∨ (q = gs.length ∧ y = l) := fun {q y} hy => by
    rcases Nat.lt_or_ge q gs.length with g | g
    · rw [List.getElem?_append_left g] at hy; exact Or.inl ⟨g, hy⟩
    · rw [List.getElem?_append_right g] at hy
      rcases Nat.eq_or_lt_of_le g with e | e
      · subst e; simp at hy; exact Or.inr ⟨rfl, hy.symm⟩
      · rw [List.getElem?_eq_none (by simp; omega)] at hy; cases hy
  refine ⟨⟨hr, fun q y hy => ?_⟩, fun q y hy => ?_, fun q y g hy hg2 j t ht hjq => ?_⟩
  · rcases ha hy with ⟨_, hy'⟩ | ⟨rfl, rfl⟩
    · exact ERow.off (h.gl.el q y hy') o fun g hg e2 => own_ne h.gl.row (h.gl.el q y hy') hne g e2 hg
    · rw [hi]
      exact ERow.off hg.rg o fun g hg2 e2 => own_ne h.gl.row hg.rg hne g e2 hg2
  · rcases ha hy with ⟨_, hy'⟩ | ⟨rfl, rfl⟩
    · exact h.bd q y hy'
    · exact hb
  · rcases ha hy with ⟨_, hy'⟩ | ⟨rfl, rfl⟩
    · exact h.sep q y g hy' hg2 j t ht hjq
    · rcases hg.own hg2 with e2 | e2
      · exact hdis j t g ht (by omega) e2
      · intro e3; have := hx0 j t g ht e3; omega
end
end Go.Proofs.YtoijhecphgdfnaaDoor
