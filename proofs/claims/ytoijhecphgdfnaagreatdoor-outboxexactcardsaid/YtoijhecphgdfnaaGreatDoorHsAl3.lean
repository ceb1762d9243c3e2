import Derived.Test.YtoijhecphgdfnaaGreatDoorHsShow
/-
  Held.alone: what each of its loops keeps.
-/
namespace Go.Proofs.YtoijhecphgdfnaaGreatDoor
open Go.RowKit

section
variable {w w' : World} {B hb n : Nat} {σ : Hs}
/-- Book.Alone over all of Held. -/
theorem bk_alone (h : HS w B hb n σ) (hn : n ≤ 1000000000) :
    Calls Tryz.prog 40 #[.pointer (some ⟨hb, 4, none⟩)] w fun e w' => e = .returned (.bool true) ∧ Hid (AL w' B hb σ.f σ.X (contents σ.D) (contents σ.S) ∧ Off (HsFt σ) w w') := by
  obtain ⟨vb, vw, hk⟩ := h.h0.hr.bk
  refine (Bo.Alone_true hk h.h0.bs (by have := h.nE; omega)).mono fun e w' ⟨e1, q1, q2⟩ => ⟨e1, ⟨⟨⟨_, _, q1⟩, fun q hq => ?_, h.h0.hr.dis, fun q g hq hg => ?_, fun g hg => ?_⟩, ?_, ?_, fun e => ?_, fun e => ?_⟩, (bo_off q2).mono fun k e => Or.inl (Or.inl ?_)⟩
  · exact ERow.off (h.h0.hr.row q hq) (bo_off q2) fun g hg p => by
      have := h.h0.hr.ap q g hq hg
      rcases p with p | ⟨j, p⟩ <;> omega
  · refine rho0_ne fun e => ?_
    have h1 := h.h0.hr.ap q g hq hg
    have h2 := hk.pK
    subst e
    omega
  · rw [rho0_of hg]
    exact h.h0.hr.lo hb (by rw [hk.pK]; decide)
  · show LV w' B 105 3 encD (σ.D.map TD.val) (contents σ.D)
    exact h.h0.dd.lv.off (bo_off q2) fun g hg p => by
      have := h.h0.ap g (Or.inl (LVf.lb hg))
      rcases p with p | ⟨j, p⟩ <;> omega
  · show LV w' B 91 10 encM (σ.S.map TD.val) (contents σ.S)
    exact h.h0.ss.lv.off (bo_off q2) fun g hg p => by
      have := h.h0.ap g (Or.inr (LVf.lb hg))
      rcases p with p | ⟨j, p⟩ <;> omega
  · have h1 := h.h0.ap hb (Or.inl (LVf.lb e)); have h2 := hk.pK; omega
  · have h1 := h.h0.ap hb (Or.inr (LVf.lb e)); have h2 := hk.pK; omega
  · rcases e with p | ⟨j, p⟩ <;> omega
end
/-- The lists' blocks. -/
def LFt (X : Nat → List Sl) (g : Nat) : Prop := LVf (X 0) g ∨ LVf (X 2) g
section
variable {w w' W : World} {B hb : Nat} {f : Nat → Value} {X : Nat → List Sl} {CD : Nat → List Deed} {CS : Nat → List Msg}
theorem deed_set {w : World} {B g n c j : Nat} {xs : List Deed} (h : DRow w B (.slice (some ⟨g, 0, none⟩) n c) xs) (hj : j < xs.length) (d : Deed) :
    DRow (((w.setCell ⟨g, j * 3, none⟩ (.string d.1)).setCell ⟨g, j * 3 + 1, none⟩ (.int .i64 d.2.1)).setCell ⟨g, j * 3 + 2, none⟩ (.string d.2.2)) B (.slice (some ⟨g, 0, none⟩) n c) (xs.set j d) := by
  obtain ⟨x0, hx0⟩ : ∃ x, xs[j]? = some x := ⟨_, List.getElem?_eq_getElem hj⟩
  have h1 := row_cell encD_len h hx0 (q := 0) (u := .string d.1) (x' := (d.1, x0.2)) (by decide) rfl
  have h2 := row_cell encD_len h1 (x := (d.1, x0.2)) (List.getElem?_set_self hj) (q := 1) (u := .int .i64 d.2.1) (x' := (d.1, d.2.1, x0.2.2)) (by decide) rfl
  have h3 := row_cell encD_len h2 (x := (d.1, d.2.1, x0.2.2)) (List.getElem?_set_self (by rw [List.length_set]; exact hj)) (q := 2) (u := .string d.2.2) (x' := d) (by decide) rfl
  rw [List.set_set, List.set_set] at h3
  exact h3
theorem sent_set {w : World} {B g n c j : Nat} {xs : List Msg} (h : ERow w B 91 10 encM (.slice (some ⟨g, 0, none⟩) n c) xs) (hj : j < xs.length) (m : Msg) :
    ERow ((((((((((w.setCell ⟨g, j * 10, none⟩ (.string m.ct)).setCell ⟨g, j * 10 + 1, none⟩ (.slice m.tp m.tn m.tc)).setCell ⟨g, j * 10 + 2, none⟩ (.bool m.e)).setCell ⟨g, j * 10 + 3, none⟩ (.int .i64 m.a)).setCell ⟨g, j * 10 + 4, none⟩ (.int .i64 m.p)).setCell ⟨g, j * 10 + 5, none⟩ (.int .i64 m.nu)).setCell ⟨g, j * 10 + 6, none⟩ (.bool m.nt)).setCell ⟨g, j * 10 + 7, none⟩ (.int .i64 m.st)).setCell ⟨g, j * 10 + 8, none⟩ (.int .i64 m.lf)).setCell ⟨g, j * 10 + 9, none⟩ (.bool m.un)) B 91 10 encM (.slice (some ⟨g, 0, none⟩) n c) (xs.set j m) := by
  obtain ⟨x0, hx0⟩ : ∃ x, xs[j]? = some x := ⟨_, List.getElem?_eq_getElem hj⟩
  have h0 := row_cell encM_len h hx0 (q := 0) (u := (.string m.ct)) (x' := { x0 with ct := m.ct }) (by decide) rfl
  have h1 := row_cell encM_len h0 (x := { x0 with ct := m.ct }) (List.getElem?_set_self (by simpa using hj)) (q := 1) (u := (.slice m.tp m.tn m.tc)) (x' := { x0 with ct := m.ct, tp := m.tp, tn := m.tn, tc := m.tc }) (by decide) rfl
  have h2 := row_cell encM_len h1 (x := { x0 with ct := m.ct, tp := m.tp, tn := m.tn, tc := m.tc }) (List.getElem?_set_self (by simpa using hj)) (q := 2) (u := (.bool m.e)) (x' := { x0 with ct := m.ct, tp := m.tp, tn := m.tn, tc := m.tc, e := m.e }) (by decide) rfl
  have h3 := row_cell encM_len h2 (x := { x0 with ct := m.ct, tp := m.tp, tn := m.tn, tc := m.tc, e := m.e }) (List.getElem?_set_self (by simpa using hj)) (q := 3) (u := (.int .i64 m.a)) (x' := { x0 with ct := m.ct, tp := m.tp, tn := m.tn, tc := m.tc, e := m.e, a := m.a }) (by decide) rfl
  have h4 := row_cell encM_len h3 (x := { x0 with ct := m.ct, tp := m.tp, tn := m.tn, tc := m.tc, e := m.e, a := m.a }) (List.getElem?_set_self (by simpa using hj)) (q := 4) (u := (.int .i64 m.p)) (x' := { x0 with ct := m.ct, tp := m.tp, tn := m.tn, tc := m.tc, e := m.e, a := m.a, p := m.p }) (by decide) rfl
  have h5 := row_cell encM_len h4 (x := { x0 with ct := m.ct, tp := m.tp, tn := m.tn, tc := m.tc, e := m.e, a := m.a, p := m.p }) (List.getElem?_set_self (by simpa using hj)) (q := 5) (u := (.int .i64 m.nu)) (x' := { x0 with ct := m.ct, tp := m.tp, tn := m.tn, tc := m.tc, e := m.e, a := m.a, p := m.p, nu := m.nu }) (by decide) rfl
  have h6 := row_cell encM_len h5 (x := { x0 with ct := m.ct, tp := m.tp, tn := m.tn, tc := m.tc, e := m.e, a := m.a, p := m.p, nu := m.nu }) (List.getElem?_set_self (by simpa using hj)) (q := 6) (u := (.bool m.nt)) (x' := { x0 with ct := m.ct, tp := m.tp, tn := m.tn, tc := m.tc, e := m.e, a := m.a, p := m.p, nu := m.nu, nt := m.nt }) (by decide) rfl
  have h7 := row_cell encM_len h6 (x := { x0 with ct := m.ct, tp := m.tp, tn := m.tn, tc := m.tc, e := m.e, a := m.a, p := m.p, nu := m.nu, nt := m.nt }) (List.getElem?_set_self (by simpa using hj)) (q := 7) (u := (.int .i64 m.st)) (x' := { x0 with ct := m.ct, tp := m.tp, tn := m.tn, tc := m.tc, e := m.e, a := m.a, p := m.p, nu := m.nu, nt := m.nt, st := m.st }) (by decide) rfl
  have h8 := row_cell encM_len h7 (x := { x0 with ct := m.ct, tp := m.tp, tn := m.tn, tc := m.tc, e := m.e, a := m.a, p := m.p, nu := m.nu, nt := m.nt, st := m.st }) (List.getElem?_set_self (by simpa using hj)) (q := 8) (u := (.int .i64 m.lf)) (x' := { x0 with ct := m.ct, tp := m.tp, tn := m.tn, tc := m.tc, e := m.e, a := m.a, p := m.p, nu := m.nu, nt := m.nt, st := m.st, lf := m.lf }) (by decide) rfl
  have h9 := row_cell encM_len h8 (x := { x0 with ct := m.ct, tp := m.tp, tn := m.tn, tc := m.tc, e := m.e, a := m.a, p := m.p, nu := m.nu, nt := m.nt, st := m.st, lf := m.lf }) (List.getElem?_set_self (by simpa using hj)) (q := 9) (u := (.bool m.un)) (x' := m) (by decide) rfl
  rw [List.set_set, List.set_set, List.set_set, List.set_set, List.set_set, List.set_set, List.set_set, List.set_set, List.set_set] at h9
  exact h9
/-- Writing over: lists of deeds up to i, of list i the first j. -/
structure WrI (W : World) (B hb : Nat) (f : Nat → Value) (X : Nat → List Sl) (CD : Nat → List Deed) (CS : Nat → List Msg) (wx : World) : Prop where
  al : AL wx B hb f X CD CS
  off : Off (LFt X) W wx
theorem WrI.deed {i j : Nat} (h : WrI W B hb f X (fillC mkD CD i j) CS w) {s : Sl} {g : Nat} (hs : (X 0)[i]? = some s) (hg : s.1 = some ⟨g, 0, none⟩) (hj : j < (CD i).length) :
    WrI W B hb f X (fillC mkD CD i (j + 1)) CS (((w.setCell ⟨g, j * 3, none⟩ (.string ⟨#[]⟩)).setCell ⟨g, j * 3 + 1, none⟩ (.int .i64 (-1 - (i : Int)))).setCell ⟨g, j * 3 + 2, none⟩ (.string ⟨#[]⟩)) := by
  have hr := h.al.ld.row i s hs
  have e : Sl.v s = .slice (some ⟨g, 0, none⟩) s.2.1 s.2.2 := by show Value.slice s.1 s.2.1 s.2.2 = _; rw [hg]
  have o : Off (fun q => (Sl.v s).ownBlock = some q) w (((w.setCell ⟨g, j * 3, none⟩ (.string ⟨#[]⟩)).setCell ⟨g, j * 3 + 1, none⟩ (.int .i64 (-1 - (i : Int)))).setCell ⟨g, j * 3 + 2, none⟩ (.string ⟨#[]⟩)) := by
    have hp : (Sl.v s).ownBlock = some g := by rw [e]; rfl
    exact (((Off.refl _ w).setCell (p := ⟨g, j * 3, none⟩) hp _).setCell (p := ⟨g, j * 3 + 1, none⟩) hp _).setCell (p := ⟨g, j * 3 + 2, none⟩) hp _
  have hj2 : j < (fillC mkD CD i j i).length := by rw [fill_len i (by omega)]; exact hj
  have hw : DRow (((w.setCell ⟨g, j * 3, none⟩ (.string ⟨#[]⟩)).setCell ⟨g, j * 3 + 1, none⟩ (.int .i64 (-1 - (i : Int)))).setCell ⟨g, j * 3 + 2, none⟩ (.string ⟨#[]⟩)) B (Sl.v s) ((fillC mkD CD i j i).set j (mkD i)) := by
    rw [e] at hr ⊢
    exact deed_set hr hj2 (mkD i)
  have := h.al.updD hs o hw
  rw [fill_step hj] at this
  exact ⟨this, h.off.trans (o.mono fun q hq => Or.inl ⟨s, List.mem_of_getElem? hs, hq⟩)⟩
theorem WrI.sent {i j : Nat} (h : WrI W B hb f X CD (fillC mkS CS i j) w) {s : Sl} {g : Nat} (hs : (X 2)[i]? = some s) (hg : s.1 = some ⟨g, 0, none⟩) (hj : j < (CS i).length) :
    WrI W B hb f X CD (fillC mkS CS i (j + 1)) ((((((((((w.setCell ⟨g, j * 10, none⟩ (.string ⟨#[]⟩)).setCell ⟨g, j * 10 + 1, none⟩ (.slice none 0 0)).setCell ⟨g, j * 10 + 2, none⟩ (.bool false)).setCell ⟨g, j * 10 + 3, none⟩ (.int .i64 0)).setCell ⟨g, j * 10 + 4, none⟩ (.int .i64 0)).setCell ⟨g, j * 10 + 5, none⟩ (.int .i64 (-1 - (i : Int)))).setCell ⟨g, j * 10 + 6, none⟩ (.bool false)).setCell ⟨g, j * 10 + 7, none⟩ (.int .i64 0)).setCell ⟨g, j * 10 + 8, none⟩ (.int .i64 0)).setCell ⟨g, j * 10 + 9, none⟩ (.bool false)) := by
  have hr := h.al.ls.row i s hs
  have e : Sl.v s = .slice (some ⟨g, 0, none⟩) s.2.1 s.2.2 := by show Value.slice s.1 s.2.1 s.2.2 = _; rw [hg]
  have o : Off (fun q => (Sl.v s).ownBlock = some q) w ((((((((((w.setCell ⟨g, j * 10, none⟩ (.string ⟨#[]⟩)).setCell ⟨g, j * 10 + 1, none⟩ (.slice none 0 0)).setCell ⟨g, j * 10 + 2, none⟩ (.bool false)).setCell ⟨g, j * 10 + 3, none⟩ (.int .i64 0)).setCell ⟨g, j * 10 + 4, none⟩ (.int .i64 0)).setCell ⟨g, j * 10 + 5, none⟩ (.int .i64 (-1 - (i : Int)))).setCell ⟨g, j * 10 + 6, none⟩ (.bool false)).setCell ⟨g, j * 10 + 7, none⟩ (.int .i64 0)).setCell ⟨g, j * 10 + 8, none⟩ (.int .i64 0)).setCell ⟨g, j * 10 + 9, none⟩ (.bool false)) := by
    have hp : (Sl.v s).ownBlock = some g := by rw [e]; rfl
    exact (((((((((((Off.refl _ w).setCell (p := ⟨g, j * 10, none⟩) hp _).setCell (p := ⟨g, j * 10 + 1, none⟩) hp _).setCell (p := ⟨g, j * 10 + 2, none⟩) hp _).setCell (p := ⟨g, j * 10 + 3, none⟩) hp _).setCell (p := ⟨g, j * 10 + 4, none⟩) hp _).setCell (p := ⟨g, j * 10 + 5, none⟩) hp _).setCell (p := ⟨g, j * 10 + 6, none⟩) hp _).setCell (p := ⟨g, j * 10 + 7, none⟩) hp _).setCell (p := ⟨g, j * 10 + 8, none⟩) hp _).setCell (p := ⟨g, j * 10 + 9, none⟩) hp _)
  have hj2 : j < (fillC mkS CS i j i).length := by rw [fill_len i (by omega)]; exact hj
  have hw : ERow ((((((((((w.setCell ⟨g, j * 10, none⟩ (.string ⟨#[]⟩)).setCell ⟨g, j * 10 + 1, none⟩ (.slice none 0 0)).setCell ⟨g, j * 10 + 2, none⟩ (.bool false)).setCell ⟨g, j * 10 + 3, none⟩ (.int .i64 0)).setCell ⟨g, j * 10 + 4, none⟩ (.int .i64 0)).setCell ⟨g, j * 10 + 5, none⟩ (.int .i64 (-1 - (i : Int)))).setCell ⟨g, j * 10 + 6, none⟩ (.bool false)).setCell ⟨g, j * 10 + 7, none⟩ (.int .i64 0)).setCell ⟨g, j * 10 + 8, none⟩ (.int .i64 0)).setCell ⟨g, j * 10 + 9, none⟩ (.bool false)) B 91 10 encM (Sl.v s) ((fillC mkS CS i j i).set j (mkS i)) := by
    rw [e] at hr ⊢
    exact sent_set hr hj2 (mkS i)
  have := h.al.updS hs o hw
  rw [fill_step hj] at this
  exact ⟨this, h.off.trans (o.mono fun q hq => Or.inr ⟨s, List.mem_of_getElem? hs, hq⟩)⟩
end
/-- Growing: so many lists of one kind are grown. -/
structure GwI {α : Type} (N : Nat) (B : Nat) (le e : TypeId) (k : Nat) (enc : α → List Value) (mk : Nat → α) (vals : List Sl) (v : Value) (gs : List Sl) (wx : World) : Prop where
  gl : GL wx N B le e k enc mk v gs
  bd : ∀ (i : Nat) (l : Sl), gs[i]? = some l → l.2.1 ≤ 2000000000
  sep : ∀ (i : Nat) (l : Sl) (g : Nat), gs[i]? = some l → (Sl.v l).ownBlock = some g → ∀ (j : Nat) (s : Sl), vals[j]? = some s → j ≠ i → (Sl.v s).ownBlock ≠ some g
section
variable {α : Type} {N B k : Nat} {le e : TypeId} {enc : α → List Value} {mk : Nat → α} {vals gs : List Sl} {v : Value} {w w' X : World} {P : Nat → Prop}
theorem GwI.nil (w : World) (N B : Nat) (le e : TypeId) (k : Nat) (enc : α → List Value) (mk : Nat → α) (vals : List Sl) : GwI N B le e k enc mk vals (.slice none 0 0) [] w :=
  ⟨⟨ERow.nil _ _ _ _ _, fun i s h => by simp at h⟩, fun i l h => (by simp at h), fun i l g h => (by simp at h)⟩
theorem GwI.off (h : GwI N B le e k enc mk vals v gs w) (o : Off P w w') (h1 : ∀ g, v.ownBlock = some g → ¬ P g) (h2 : ∀ g, LVf gs g → ¬ P g) : GwI N B le e k enc mk vals v gs w' := ⟨h.gl.off o h1 h2, h.bd, h.sep⟩
/-- A list of the current place grows: those that are grown already stay. -/
theorem GwI.keep (h : GwI N B le e k enc mk vals v gs w) {i : Nat} {s : Sl} (hs : vals[i]? = some s) (hi : gs.length = i) (o : Off (fun g => (Sl.v s).ownBlock = some g) w w') (hv : ∀ g, v.ownBlock = some g → (Sl.v s).ownBlock ≠ some g) : GwI N B le e k enc mk vals v gs w' :=
  h.off o hv fun g ⟨l, hl, hg⟩ e2 => by
    obtain ⟨j, hj, e3⟩ := List.getElem_of_mem hl
    exact h.sep j l g (by rw [List.getElem?_eq_getElem hj, e3]) hg i s hs (by omega) e2
/-- One more is grown, and told. -/
theorem GwI.snoc {le' : TypeId} (h : GwI N B le e k enc mk vals v gs w) {i : Nat} {s l : Sl} {x0 : World} (hle : le' = le) (hi : gs.length = i) (hg : GrE x0 B e k enc s (mk i) l w) (hne : le ≠ e) (hx0 : ∀ (j : Nat) (t : Sl) (g : Nat), vals[j]? = some t → (Sl.v t).ownBlock = some g → g < x0.heap.size) (hdis : ∀ (j : Nat) (t : Sl) (g : Nat), vals[j]? = some t → j ≠ i → (Sl.v s).ownBlock = some g → (Sl.v t).ownBlock ≠ some g) (hb : l.2.1 ≤ 2000000000) {w' : World} {v' : Value} (hr : ERow w' N le' 1 encSl v' (gs ++ [l])) (o : Off (fun g => v.ownBlock = some g) w w') : GwI N B le e k enc mk vals v' (gs ++ [l]) w' := by
  subst hle
  have ha : ∀ {q : Nat} {y : Sl}, (gs ++ [l])[q]? = some y → (q < gs.length ∧ gs[q]? = some y) ∨ (q = gs.length ∧ y = l) := fun {q y} hy => by
    rcases Nat.lt_or_ge q gs.length with g | g
    · rw [List.getElem?_append_left g] at hy; exact Or.inl ⟨g, hy⟩
    · rw [List.getElem?_append_right g] at hy
      rcases Nat.eq_or_lt_of_le g with e | e
      · subst e; simp at hy; exact Or.inr ⟨rfl, hy.symm⟩
      · rw [List.getElem?_eq_none (by simp; omega)] at hy; cases hy
  refine ⟨⟨hr, fun q y hy => ?_⟩, fun q y hy => ?_, fun q y g hy hg2 j t ht hjq => ?_⟩
  · rcases ha hy with ⟨_, hy'⟩ | ⟨rfl, rfl⟩
    · exact ERow.off (h.gl.el q y hy') o fun g hg e2 => own_ne h.gl.row (h.gl.el q y hy') hne g e2 hg
    · rw [hi]
      exact ERow.off hg.rg o fun g hg2 e2 => own_ne h.gl.row hg.rg hne g e2 hg2
  · rcases ha hy with ⟨_, hy'⟩ | ⟨rfl, rfl⟩
    · exact h.bd q y hy'
    · exact hb
  · rcases ha hy with ⟨_, hy'⟩ | ⟨rfl, rfl⟩
    · exact h.sep q y g hy' hg2 j t ht hjq
    · rcases hg.own hg2 with e2 | e2
      · exact hdis j t g ht (by omega) e2
      · intro e3; have := hx0 j t g ht e3; omega
end
end Go.Proofs.YtoijhecphgdfnaaGreatDoor

/-
  Held.alone: its state.
-/
namespace Go.Proofs.YtoijhecphgdfnaaGreatDoor
open Go.RowKit

/-- How many lists there are, how long they may be. -/
structure AlN (σ : Hs) (n ND NS : Nat) : Prop where
  nD : σ.D.length = ND
  nS : σ.S.length = NS
  hn : n ≤ 300000000
  lD : σ.D.length ≤ n
  lS : σ.S.length ≤ n
  bD : ∀ x ∈ σ.D, x.xs.length ≤ 100000
  bS : ∀ x ∈ σ.S, x.xs.length ≤ 100000
section
variable {σ : Hs} {n ND NS : Nat}
theorem AlN.kD (h : AlN σ n ND NS) : ND ≤ 300000000 := by have := h.nD; have := h.lD; have := h.hn; omega
theorem AlN.kS (h : AlN σ n ND NS) : NS ≤ 300000000 := by have := h.nS; have := h.lS; have := h.hn; omega
theorem AlN.xD (h : AlN σ n ND NS) : (σ.X 0).length = ND := by show (List.map _ _).length = _; rw [List.length_map]; exact h.nD
theorem AlN.xS (h : AlN σ n ND NS) : (σ.X 2).length = NS := by show (List.map _ _).length = _; rw [List.length_map]; exact h.nS
theorem contents_le {α : Type} {ls : List (TD α)} {m : Nat} (h : ∀ x ∈ ls, x.xs.length ≤ m) (i : Nat) : (contents ls i).length ≤ m := by
  unfold contents
  cases hx : ls[i]? with
  | none => exact Nat.zero_le _
  | some x => exact h x (List.mem_of_getElem? hx)
theorem AlN.cD (h : AlN σ n ND NS) (i : Nat) : (contents σ.D i).length ≤ 100000 := contents_le h.bD i
theorem AlN.cS (h : AlN σ n ND NS) (i : Nat) : (contents σ.S i).length ≤ 100000 := contents_le h.bS i
/-- The rows as values. -/
structure AlF (σ : Hs) (ND NS : Nat) (a0 : Option Addr) (c0 : Nat) (a1 : Option Addr) (c1 : Nat) (a2 : Option Addr) (c2 : Nat) (a3 : Option Addr) (c3 : Nat) : Prop where
  f0 : σ.f 0 = .slice a0 ND c0
  f1 : σ.f 1 = .slice a1 ND c1
  f2 : σ.f 2 = .slice a2 NS c2
  f3 : σ.f 3 = .slice a3 NS c3
theorem AlF.of {w : World} {B hb : Nat} (h : HR w B hb σ.f σ.ρ σ.es σ.X) (hN : AlN σ n ND NS) : ∃ a0 c0 a1 c1 a2 c2 a3 c3, AlF σ ND NS a0 c0 a1 c1 a2 c2 a3 c3 := by
  obtain ⟨a0, c0, e0, _⟩ := h.at_ (q := 0) (by decide)
  obtain ⟨a1, c1, e1, _⟩ := h.at_ (q := 1) (by decide)
  obtain ⟨a2, c2, e2, _⟩ := h.at_ (q := 2) (by decide)
  obtain ⟨a3, c3, e3, _⟩ := h.at_ (q := 3) (by decide)
  rw [hN.xD] at e0
  rw [hN.xS] at e2
  rw [show (σ.X 1).length = ND by show (List.map _ _).length = _; rw [List.length_map]; exact hN.nD] at e1
  rw [show (σ.X 3).length = NS by show (List.map _ _).length = _; rw [List.length_map]; exact hN.nS] at e3
  exact ⟨a0, c0, a1, c1, a2, c2, a3, c3, e0, e1, e2, e3⟩
end
theorem HR.atv {w : World} {B hb : Nat} {f : Nat → Value} {ρ : Nat → Nat} {es : List Bo.Ent} {X : Nat → List Sl} (h : HR w B hb f ρ es X) {q : Nat} (hq : q < 4) {a : Option Addr} {n c : Nat} (e : f q = .slice a n c) : n = (X q).length ∧ w.cell? ⟨hb, q, none⟩ = some (.slice a n c) ∧ ∀ i s, (X q)[i]? = some s → ∃ g, a = some ⟨g, 0, none⟩ ∧ w.cell? ⟨g, i, none⟩ = some (.slice s.1 s.2.1 s.2.2) := by
  obtain ⟨a', c', e', h1, h2⟩ := h.at_ hq
  rw [e] at e'
  simp only [Value.slice.injEq] at e'
  obtain ⟨rfl, rfl, rfl⟩ := e'
  exact ⟨rfl, h1, h2⟩
theorem GL.type {α : Type} {w : World} {N B k : Nat} {le e : TypeId} {enc : α → List Value} {mk : Nat → α} {v : Value} {gs : List Sl} (h : GL w N B le e k enc mk v gs) {g : Nat} (hg : LVf gs g) : ∃ cs, w.heap[g]? = some (.cells cs e (0, 0)) := by
  obtain ⟨s, hs, e1⟩ := hg
  obtain ⟨i, hi, e2⟩ := List.getElem_of_mem hs
  exact own_type (h.el i s (by rw [List.getElem?_eq_getElem hi, e2])) e1
theorem GL.base {α : Type} {w : World} {N B k : Nat} {le e : TypeId} {enc : α → List Value} {mk : Nat → α} {v : Value} {gs : List Sl} (h : GL w N B le e k enc mk v gs) : GL w 0 B le e k enc mk v gs := ⟨ERow.base h.row (Nat.zero_le _), h.el⟩
/-- A list at its j-th growth. -/
def GrJ {α : Type} (U : World) (B : Nat) (e : TypeId) (k : Nat) (enc : α → List Value) (s : Sl) (m : α) (j : Nat) (lv : Value) (wx : World) : Prop := ∃ l : Sl, lv = .slice l.1 l.2.1 l.2.2 ∧ l.2.1 = s.2.1 + j ∧ GrE U B e k enc s m l wx
/-- Growing, of D: both kinds' lists, and those that are grown. -/
structure GrD (U : World) (B hb : Nat) (σ : Hs) (ex : World → Prop) (v : Value) (gs : List Sl) (wx : World) : Prop where
  al : AL wx B hb σ.f σ.X (markC mkD (contents σ.D)) (markC mkS (contents σ.S))
  gw : GwI U.heap.size B 77 105 3 encD mkD (σ.X 0) v gs wx
  off : Off (LFt σ.X) U wx
  old : ∀ g, RFt σ.f (rho0 hb) g ∨ LFt σ.X g → g < U.heap.size
  ex : ex wx
theorem GrD.start {U : World} {B hb : Nat} {σ : Hs} {ex : World → Prop} (h : AL U B hb σ.f σ.X (markC mkD (contents σ.D)) (markC mkS (contents σ.S))) (hx : ex U) : GrD U B hb σ ex (.slice none 0 0) [] U :=
  ⟨h, GwI.nil _ _ _ _ _ _ _ _ _, Off.refl _ _, fun g hg => by
    rcases hg with e | e | e
    · exact (h.hr.lt e).2
    · exact (h.ld.lt e).2
    · exact (h.ls.lt e).2, hx⟩
theorem GrD.grown {U W wx : World} {B hb i cv : Nat} {σ : Hs} {av : Option Addr} {gs : List Sl} {s l : Sl} (h : GrD U B hb σ (fun _ => True) (.slice av i cv) gs W) (hs : (σ.X 0)[i]? = some s) (hgl : gs.length = i) (hg : GrE W B 105 3 encD s (mkD i) l wx) (hlb : l.2.1 ≤ 1000000) (hsl : s.2.1 = (contents σ.D i).length) (hi : i + 1 ≤ 1000000000) :
    ∃ a3 c3 w3, (Builtin.append_ #[33, 33] 33 #[.slice av i cv, .slice (some ⟨wx.heap.size, 0, none⟩) 1 1]).run Tryz.prog (wx.alloc (.cells #[.slice l.1 l.2.1 l.2.2] 77)) = .ok (.slice a3 (i + 1) c3) w3 ∧ Hid (GrD U B hb σ (fun _ => True) (.slice a3 (i + 1) c3) (gs ++ [l]) w3) := by
  have hrow := h.al.ld.row i s hs
  have al1 : AL wx B hb σ.f σ.X (markC mkD (contents σ.D)) (markC mkS (contents σ.S)) := (h.al.updD hs hg.o hg.rl).congr (fun q _ => by
    by_cases e : q = i
    · subst e; rw [if_pos rfl, hsl]; rfl
    · rw [if_neg e]) (fun _ _ => rfl)
  have gw1 := h.gw.keep hs hgl hg.o fun g h1 h2 => own_ne h.gw.gl.row hrow (by decide) g h1 h2
  have hUx : U.heap.size ≤ wx.heap.size := Nat.le_trans h.off.size hg.o.size
  obtain ⟨a3, c3, w3, h1, r2, o2, _⟩ := run_epush (P := Tryz.prog) (t := 33) Tryz.underlying33 (celH 0) encSl_len encSl_one gw1.gl.row l #[.slice l.1 l.2.1 l.2.2] rfl (by omega) (by decide) hUx
  rw [hgl] at h1 r2
  have vl : ∀ g, (Value.slice av i cv).ownBlock = some g → U.heap.size ≤ g := fun g hg1 => (ERow.lt gw1.gl.row hg1).1
  refine ⟨a3, c3, w3, h1, al1.off o2 fun g hg1 => ⟨fun e => ?_, fun e => ?_, fun e => ?_⟩, gw1.snoc rfl hgl hg (by decide) (fun j t g ht hg1 => (h.al.ld.lt ⟨t, List.mem_of_getElem? ht, hg1⟩).2) (fun j t g ht hj hg1 => h.al.ld.dis i j s t g hs ht (fun e => hj e.symm) hg1) (by omega) r2 o2, (h.off.trans (hg.o.mono fun q hq => Or.inl ⟨s, List.mem_of_getElem? hs, hq⟩)).join o2 fun q hq hp => ?_, h.old, trivial⟩
  · have := vl g hg1; have := h.old g (Or.inl e); omega
  · have := vl g hg1; have := h.old g (Or.inr (Or.inl e)); omega
  · have := vl g hg1; have := h.old g (Or.inr (Or.inr e)); omega
  · have := vl q hp; omega
/-- Growing, of S: both kinds' lists, and those that are grown. -/
structure GrS (U : World) (B hb : Nat) (σ : Hs) (ex : World → Prop) (v : Value) (gs : List Sl) (wx : World) : Prop where
  al : AL wx B hb σ.f σ.X (markC mkD (contents σ.D)) (markC mkS (contents σ.S))
  gw : GwI U.heap.size B 97 91 10 encM mkS (σ.X 2) v gs wx
  off : Off (LFt σ.X) U wx
  old : ∀ g, RFt σ.f (rho0 hb) g ∨ LFt σ.X g → g < U.heap.size
  ex : ex wx
theorem GrS.start {U : World} {B hb : Nat} {σ : Hs} {ex : World → Prop} (h : AL U B hb σ.f σ.X (markC mkD (contents σ.D)) (markC mkS (contents σ.S))) (hx : ex U) : GrS U B hb σ ex (.slice none 0 0) [] U :=
  ⟨h, GwI.nil _ _ _ _ _ _ _ _ _, Off.refl _ _, fun g hg => by
    rcases hg with e | e | e
    · exact (h.hr.lt e).2
    · exact (h.ld.lt e).2
    · exact (h.ls.lt e).2, hx⟩
theorem GrS.grown {U W wx : World} {B hb i cv : Nat} {σ : Hs} {av : Option Addr} {gs : List Sl} {s l : Sl} {N1 : Nat} {v1 : Value} {g1 : List Sl} (h : GrS U B hb σ (GwI N1 B 77 105 3 encD mkD (σ.X 0) v1 g1) (.slice av i cv) gs W) (hs : (σ.X 2)[i]? = some s) (hgl : gs.length = i) (hg : GrE W B 91 10 encM s (mkS i) l wx) (hlb : l.2.1 ≤ 1000000) (hsl : s.2.1 = (contents σ.S i).length) (hi : i + 1 ≤ 1000000000) :
    ∃ a3 c3 w3, (Builtin.append_ #[34, 34] 34 #[.slice av i cv, .slice (some ⟨wx.heap.size, 0, none⟩) 1 1]).run Tryz.prog (wx.alloc (.cells #[.slice l.1 l.2.1 l.2.2] 97)) = .ok (.slice a3 (i + 1) c3) w3 ∧ Hid (GrS U B hb σ (GwI N1 B 77 105 3 encD mkD (σ.X 0) v1 g1) (.slice a3 (i + 1) c3) (gs ++ [l]) w3) := by
  have hrow := h.al.ls.row i s hs
  have al1 : AL wx B hb σ.f σ.X (markC mkD (contents σ.D)) (markC mkS (contents σ.S)) := (h.al.updS hs hg.o hg.rl).congr (fun _ _ => rfl) (fun q _ => by
    by_cases e : q = i
    · subst e; rw [if_pos rfl, hsl]; rfl
    · rw [if_neg e])
  have gw1 := h.gw.keep hs hgl hg.o fun g h1 h2 => own_ne h.gw.gl.row hrow (by decide) g h1 h2
  have hUx : U.heap.size ≤ wx.heap.size := Nat.le_trans h.off.size hg.o.size
  obtain ⟨a3, c3, w3, h1, r2, o2, _⟩ := run_epush (P := Tryz.prog) (t := 34) Tryz.underlying34 (celH 2) encSl_len encSl_one gw1.gl.row l #[.slice l.1 l.2.1 l.2.2] rfl (by omega) (by decide) hUx
  rw [hgl] at h1 r2
  have vl : ∀ g, (Value.slice av i cv).ownBlock = some g → U.heap.size ≤ g := fun g hg1 => (ERow.lt gw1.gl.row hg1).1
  refine ⟨a3, c3, w3, h1, al1.off o2 fun g hg1 => ⟨fun e => ?_, fun e => ?_, fun e => ?_⟩, gw1.snoc rfl hgl hg (by decide) (fun j t g ht hg1 => (h.al.ls.lt ⟨t, List.mem_of_getElem? ht, hg1⟩).2) (fun j t g ht hj hg1 => h.al.ls.dis i j s t g hs ht (fun e => hj e.symm) hg1) (by omega) r2 o2, (h.off.trans (hg.o.mono fun q hq => Or.inr ⟨s, List.mem_of_getElem? hs, hq⟩)).join o2 fun q hq hp => ?_, h.old, ?_⟩
  · have := vl g hg1; have := h.old g (Or.inl e); omega
  · have := vl g hg1; have := h.old g (Or.inr (Or.inl e)); omega
  · have := vl g hg1; have := h.old g (Or.inr (Or.inr e)); omega
  · have := vl q hp; omega
  · refine (h.ex.off hg.o (fun g h3 h4 => own_ne h.ex.gl.row hrow (by decide) g h3 h4) fun g h3 h4 => ?_).off o2 (fun g h3 h4 => ?_) fun g h3 h4 => ?_
    · obtain ⟨cs, hc⟩ := h.ex.gl.type h3
      obtain ⟨cs', hc'⟩ := own_type hrow h4
      rw [hc] at hc'
      simp at hc'
    · have hx1 := h.ex.off hg.o (fun g h3 h4 => own_ne h.ex.gl.row hrow (by decide) g h3 h4) fun g h3 h4 => by
        obtain ⟨cs, hc⟩ := h.ex.gl.type h3
        obtain ⟨cs', hc'⟩ := own_type hrow h4
        rw [hc] at hc'
        simp at hc'
      exact own_ne hx1.gl.row gw1.gl.row (by decide) g h3 h4
    · have hx1 := h.ex.off hg.o (fun g h3 h4 => own_ne h.ex.gl.row hrow (by decide) g h3 h4) fun g h3 h4 => by
        obtain ⟨cs, hc⟩ := h.ex.gl.type h3
        obtain ⟨cs', hc'⟩ := own_type hrow h4
        rw [hc] at hc'
        simp at hc'
      obtain ⟨cs, hc⟩ := hx1.gl.type h3
      obtain ⟨cs', hc'⟩ := own_type gw1.gl.row h4
      rw [hc] at hc'
      simp at hc'
section
variable {w W0 W1 UD US wr w9 : World} {B hb n ND NS N1 : Nat} {σ : Hs} {v5 v6 : Value} {gD gS : List Sl}
/-- What shows asks stands. -/
theorem AlF.shows (h : GrS US B hb σ (GwI N1 B 77 105 3 encD mkD (σ.X 0) v5 gD) v6 gS wr) (hD : gD.length = ND) (hS : gS.length = NS) (hN : AlN σ n ND NS) : ShI wr B hb 0 σ.f σ.X v5 v6 gD gS ND NS := by
  refine ⟨h.al.hr, h.ex.gl.base, h.gw.gl.base, fun i s hs => ?_, fun i s hs => ?_, hN.xD, hN.xS, hD.trans hN.xD.symm, hS.trans hN.xS.symm, h.ex.bd, h.gw.bd⟩
  · have h1 := h.al.ld.row i s hs
    have h2 := ERow.len h1
    rw [show (markC mkD (contents σ.D) i).length = (contents σ.D i).length from List.length_replicate] at h2
    rw [h2]
    exact h1
  · have h1 := h.al.ls.row i s hs
    have h2 := ERow.len h1
    rw [show (markC mkS (contents σ.S) i).length = (contents σ.S i).length from List.length_replicate] at h2
    rw [h2]
    exact h1
theorem LFt.hs {g : Nat} (h : LFt σ.X g) : HsFt σ g := by
  rcases h with e | e
  · exact Or.inr (Or.inl (LVf.lb e))
  · exact Or.inr (Or.inr (LVf.lb e))
theorem AlF.off (h1 : Below w.heap.size w W0) (h2 : Off (HsFt σ) W0 W1) (h3 : Off (LFt σ.X) W1 UD) (h4 : Off (LFt σ.X) UD US) (h5 : Off (LFt σ.X) US wr) : Off (HsFt σ) w wr :=
  (Off.of_below h1).trans (h2.trans ((h3.mono fun _ e => LFt.hs e).trans ((h4.mono fun _ e => LFt.hs e).trans (h5.mono fun _ e => LFt.hs e))))
theorem AlF.done (h : HS w B hb n σ) (hE : Off (HsFt σ) w wr) (h9 : (∃ f', HR w9 B hb f' (rho0 hb) [] (fun _ => []) ∧ ∀ q, q < 4 → f' q = .slice none 0 0) ∧ Off (fun g => g = hb) wr w9) : ∃ σ', HS w9 B hb 0 σ' ∧ (∀ g, HsFt σ' g → g = hb) ∧ Off (HsFt σ) w w9 := by
  obtain ⟨⟨f', h1, h2⟩, o⟩ := h9
  refine ⟨⟨f', rho0 hb, [], [], []⟩, ⟨⟨h1.congr fun q hq => ?_, LB.nil _ _ _ _ _, LB.nil _ _ _ _ _, fun g hg => ?_, fun i e he => (by simp at he)⟩, fun x hx => (by cases hx), Nat.le_refl _, Nat.le_refl _, Nat.le_refl _, fun x hx => (by cases hx), fun x hx => (by cases hx)⟩, fun g hg => ?_, hE.trans (o.mono fun g e => ?_)⟩
  · rcases q with _ | _ | _ | _ | q
    · rfl
    · rfl
    · rfl
    · rfl
    · omega
  · rcases hg with ⟨x, hx, _⟩ | ⟨x, hx, _⟩ <;> cases hx
  · rcases hg with (e | ⟨q, hq, e⟩) | ⟨x, hx, _⟩ | ⟨x, hx, _⟩
    · exact rho0_of e
    · have e' : (f' q).ownBlock = some g := e
      rw [h2 q hq] at e'
      cases e'
    · cases hx
    · cases hx
  · subst e; exact Or.inl h.h0.hr.hbl.2
end
end Go.Proofs.YtoijhecphgdfnaaGreatDoor
