/-
  Held.alone: its state.
-/
import Derived.Test.YtoijhecphgdfnaaDoorHsAl2
namespace Go.Proofs.YtoijhecphgdfnaaDoor
open Go.RowKit

/-- How many lists there are, how long they may be. -/
structure AlN (σ : Hs) (n ND NS : Nat) : Prop where
  nD : σ.D.length = ND
  nS : σ.S.length = NS
  hn : n ≤ 300000000
  lD : σ.D.length ≤ n
  lS : σ.S.length ≤ n
  bD : ∀ x ∈ σ.D, x.xs.length ≤ 100000
  bS : ∀ x ∈ σ.S, x.xs.length ≤ 100000
section
variable {σ : Hs} {n ND NS : Nat}
theorem AlN.kD (h : AlN σ n ND NS) : ND ≤ 300000000 := by have := h.nD; have := h.lD; have := h.hn; omega
theorem AlN.kS (h : AlN σ n ND NS) : NS ≤ 300000000 := by have := h.nS; have := h.lS; have := h.hn; omega
theorem AlN.xD (h : AlN σ n ND NS) : (σ.X 0).length = ND := by show (List.map _ _).length = _; rw [List.length_map]; exact h.nD
theorem AlN.xS (h : AlN σ n ND NS) : (σ.X 2).length = NS := by show (List.map _ _).length = _; rw [List.length_map]; exact h.nS
theorem contents_le {α : Type} {ls : List (TD α)} {m : Nat} (h : ∀ x ∈ ls, x.xs.length ≤ m) (i : Nat) : (contents ls i).length ≤ m := by
  unfold contents
  cases hx : ls[i]? with
  | none => exact Nat.zero_le _
  | some x => exact h x (List.mem_of_getElem? hx)
theorem AlN.cD (h : AlN σ n ND NS) (i : Nat) : (contents σ.D i).length ≤ 100000 := contents_le h.bD i
theorem AlN.cS (h : AlN σ n ND NS) (i : Nat) : (contents σ.S i).length ≤ 100000 := contents_le h.bS i
/-- The rows as values. -/
structure AlF (σ : Hs) (ND NS : Nat) (a0 : Option Addr) (c0 : Nat) (a1 : Option Addr) (c1 : Nat) (a2 : Option Addr) (c2 : Nat) (a3 : Option Addr) (c3 : Nat) : Prop where
  f0 : σ.f 0 = .slice a0 ND c0
  f1 : σ.f 1 = .slice a1 ND c1
  f2 : σ.f 2 = .slice a2 NS c2
  f3 : σ.f 3 = .slice a3 NS c3
theorem AlF.of {w : World} {B hb : Nat} (h : HR w B hb σ.f σ.ρ σ.es σ.X) (hN : AlN σ n ND NS) : ∃ a0 c0 a1 c1 a2 c2 a3 c3, AlF σ ND NS a0 c0 a1 c1 a2 c2 a3 c3 := by
  obtain ⟨a0, c0, e0, _⟩ := h.at_ (q := 0) (by decide)
  obtain ⟨a1, c1, e1, _⟩ := h.at_ (q := 1) (by decide)
  obtain ⟨a2, c2, e2, _⟩ := h.at_ (q := 2) (by decide)
  obtain ⟨a3, c3, e3, _⟩ := h.at_ (q := 3) (by decide)
  rw [hN.xD] at e0
  rw [hN.xS] at e2
  rw [show (σ.X 1).length = ND by show (List.map _ _).length = _; rw [List.length_map]; exact hN.nD] at e1
  rw [show (σ.X 3).length = NS by show (List.map _ _).length = _; rw [List.length_map]; exact hN.nS] at e3
  exact ⟨a0, c0, a1, c1, a2, c2, a3, c3, e0, e1, e2, e3⟩
end
theorem HR.atv {w : World} {B hb : Nat} {f : Nat → Value} {ρ : Nat → Nat} {es : List Bo.Ent} {X : Nat → List Sl} (h : HR w B hb f ρ es X) {q : Nat} (hq : q < 4) {a : Option Addr} {n c : Nat} (e : f q = .slice a n c) : n = (X q).length ∧ w.cell? ⟨hb, q, none⟩ = some (.slice a n c) ∧ ∀ i s, (X q)[i]? = some s → ∃ g, a = some ⟨g, 0, none⟩ ∧ w.cell? ⟨g, i, none⟩ = some (.slice s.1 s.2.1 s.2.2) := by
  obtain ⟨a', c', e', h1, h2⟩ := h.at_ hq
  rw [e] at e'
  simp only [Value.slice.injEq] at e'
  obtain ⟨rfl, rfl, rfl⟩ := e'
  exact ⟨rfl, h1, h2⟩
theorem GL.type {α : Type} {w : World} {N B k : Nat} {le e : TypeId} {enc : α → List Value} {mk : Nat → α} {v : Value} {gs : List Sl} (h : GL w N B le e k enc mk v gs) {g : Nat} (hg : LVf gs g) : ∃ cs, w.heap[g]? = some (.cells cs e (0, 0)) := by
  obtain ⟨s, hs, e1⟩ := hg
  obtain ⟨i, hi, e2⟩ := List.getElem_of_mem hs
  exact own_type (h.el i s (by rw [List.getElem?_eq_getElem hi, e2])) e1
theorem GL.base {α : Type} {w : World} {N B k : Nat} {le e : TypeId} {enc : α → List Value} {mk : Nat → α} {v : Value} {gs : List Sl} (h : GL w N B le e k enc mk v gs) : GL w 0 B le e k enc mk v gs := ⟨ERow.base h.row (Nat.zero_le _), h.el⟩
/-- A list at its j-th growth. -/
def GrJ {α : Type} (U : World) (B : Nat) (e : TypeId) (k : Nat) (enc : α → List Value) (s : Sl) (m : α) (j : Nat) (lv : Value) (wx : World) : Prop := ∃ l : Sl, lv = .slice l.1 l.2.1 l.2.2 ∧ l.2.1 = s.2.1 + j ∧ GrE U B e k enc s m l wx
/-- Growing, of D: both kinds' lists, and those that are grown. -/
structure GrD (U : World) (B hb : Nat) (σ : Hs) (ex : World → Prop) (v : Value) (gs : List Sl) (wx : World) : Prop where
  al : AL wx B hb σ.f σ.X (markC mkD (contents σ.D)) (markC mkS (contents σ.S))
  gw : GwI U.heap.size B 66 70 3 encD mkD (σ.X 0) v gs wx
  off : Off (LFt σ.X) U wx
  old : ∀ g, RFt σ.f (rho0 hb) g ∨ LFt σ.X g → g < U.heap.size
  ex : ex wx
theorem GrD.start {U : World} {B hb : Nat} {σ : Hs} {ex : World → Prop} (h : AL U B hb σ.f σ.X (markC mkD (contents σ.D)) (markC mkS (contents σ.S))) (hx : ex U) : GrD U B hb σ ex (.slice none 0 0) [] U :=
  ⟨h, GwI.nil _ _ _ _ _ _ _ _ _, Off.refl _ _, fun g hg => by
    rcases hg with e | e | e
    · exact (h.hr.lt e).2
    · exact (h.ld.lt e).2
    · exact (h.ls.lt e).2, hx⟩
theorem GrD.grown {U W wx : World} {B hb i cv : Nat} {σ : Hs} {av : Option Addr} {gs : List Sl} {s l : Sl} (h : GrD U B hb σ (fun _ => True) (.slice av i cv) gs W) (hs : (σ.X 0)[i]? = some s) (hgl : gs.length = i) (hg : GrE W B 70 3 encD s (mkD i) l wx) (hlb : l.2.1 ≤ 1000000) (hsl : s.2.1 = (contents σ.D i).length) (hi : i + 1 ≤ 1000000000) :
    ∃ a3 c3 w3, (Builtin.append_ #[32, 32] 32 #[.slice av i cv, .slice (some ⟨wx.heap.size, 0, none⟩) 1 1]).run Tryd.prog (wx.alloc (.cells #[.slice l.1 l.2.1 l.2.2] 66)) = .ok (.slice a3 (i + 1) c3) w3 ∧ Hid (GrD U B hb σ (fun _ => True) (.slice a3 (i + 1) c3) (gs ++ [l]) w3) := by
  have hrow := h.al.ld.row i s hs
  have al1 : AL wx B hb σ.f σ.X (markC mkD (contents σ.D)) (markC mkS (contents σ.S)) := (h.al.updD hs hg.o hg.rl).congr (fun q _ => by
    by_cases e : q = i
    · subst e; rw [if_pos rfl, hsl]; rfl
    · rw [if_neg e]) (fun _ _ => rfl)
  have gw1 := h.gw.keep hs hgl hg.o fun g h1 h2 => own_ne h.gw.gl.row hrow (by decide) g h1 h2
  have hUx : U.heap.size ≤ wx.heap.size := Nat.le_trans h.off.size hg.o.size
  obtain ⟨a3, c3, w3, h1, r2, o2, _⟩ := run_epush (P := Tryd.prog) (t := 32) Tryd.underlying32 (celH 0) encSl_len encSl_one gw1.gl.row l #[.slice l.1 l.2.1 l.2.2] rfl (by omega) (by decide) hUx
  rw [hgl] at h1 r2
  have vl : ∀ g, (Value.slice av i cv).ownBlock = some g → U.heap.size ≤ g := fun g hg1 => (ERow.lt gw1.gl.row hg1).1
  refine ⟨a3, c3, w3, h1, al1.off o2 fun g hg1 => ⟨fun e => ?_, fun e => ?_, fun e => ?_⟩, gw1.snoc rfl hgl hg (by decide) (fun j t g ht hg1 => (h.al.ld.lt ⟨t, List.mem_of_getElem? ht, hg1⟩).2) (fun j t g ht hj hg1 => h.al.ld.dis i j s t g hs ht (fun e => hj e.symm) hg1) (by omega) r2 o2, (h.off.trans (hg.o.mono fun q hq => Or.inl ⟨s, List.mem_of_getElem? hs, hq⟩)).join o2 fun q hq hp => ?_, h.old, trivial⟩
  · have := vl g hg1; have := h.old g (Or.inl e); omega
  · have := vl g hg1; have := h.old g (Or.inr (Or.inl e)); omega
  · have := vl g hg1; have := h.old g (Or.inr (Or.inr e)); omega
  · have := vl q hp; omega
/-- Growing, of S: both kinds' lists, and those that are grown. -/
structure GrS (U : World) (B hb : Nat) (σ : Hs) (ex : World → Prop) (v : Value) (gs : List Sl) (wx : World) : Prop where
  al : AL wx B hb σ.f σ.X (markC mkD (contents σ.D)) (markC mkS (contents σ.S))
  gw : GwI U.heap.size B 60 74 10 encM mkS (σ.X 2) v gs wx
  off : Off (LFt σ.X) U wx
  old : ∀ g, RFt σ.f (rho0 hb) g ∨ LFt σ.X g → g < U.heap.size
  ex : ex wx
theorem GrS.start {U : World} {B hb : Nat} {σ : Hs} {ex : World → Prop} (h : AL U B hb σ.f σ.X (markC mkD (contents σ.D)) (markC mkS (contents σ.S))) (hx : ex U) : GrS U B hb σ ex (.slice none 0 0) [] U :=
  ⟨h, GwI.nil _ _ _ _ _ _ _ _ _, Off.refl _ _, fun g hg => by
    rcases hg with e | e | e
    · exact (h.hr.lt e).2
    · exact (h.ld.lt e).2
    · exact (h.ls.lt e).2, hx⟩
theorem GrS.grown {U W wx : World} {B hb i cv : Nat} {σ : Hs} {av : Option Addr} {gs : List Sl} {s l : Sl} {N1 : Nat} {v1 : Value} {g1 : List Sl} (h : GrS U B hb σ (GwI N1 B 66 70 3 encD mkD (σ.X 0) v1 g1) (.slice av i cv) gs W) (hs : (σ.X 2)[i]? = some s) (hgl : gs.length = i) (hg : GrE W B 74 10 encM s (mkS i) l wx) (hlb : l.2.1 ≤ 1000000) (hsl : s.2.1 = (contents σ.S i).length) (hi : i + 1 ≤ 1000000000) :
    ∃ a3 c3 w3, (Builtin.append_ #[33, 33] 33 #[.slice av i cv, .slice (some ⟨wx.heap.size, 0, none⟩) 1 1]).run Tryd.prog (wx.alloc (.cells #[.slice l.1 l.2.1 l.2.2] 60)) = .ok (.slice a3 (i + 1) c3) w3 ∧ Hid (GrS U B hb σ (GwI N1 B 66 70 3 encD mkD (σ.X 0) v1 g1) (.slice a3 (i + 1) c3) (gs ++ [l]) w3) := by
  have hrow := h.al.ls.row i s hs
  have al1 : AL wx B hb σ.f σ.X (markC mkD (contents σ.D)) (markC mkS (contents σ.S)) := (h.al.updS hs hg.o hg.rl).congr (fun _ _ => rfl) (fun q _ => by
    by_cases e : q = i
    · subst e; rw [if_pos rfl, hsl]; rfl
    · rw [if_neg e])
  have gw1 := h.gw.keep hs hgl hg.o fun g h1 h2 => own_ne h.gw.gl.row hrow (by decide) g h1 h2
  have hUx : U.heap.size ≤ wx.heap.size := Nat.le_trans h.off.size hg.o.size
  obtain ⟨a3, c3, w3, h1, r2, o2, _⟩ := run_epush (P := Tryd.prog) (t := 33) Tryd.underlying33 (celH 2) encSl_len encSl_one gw1.gl.row l #[.slice l.1 l.2.1 l.2.2] rfl (by omega) (by decide) hUx
  rw [hgl] at h1 r2
  have vl : ∀ g, (Value.slice av i cv).ownBlock = some g → U.heap.size ≤ g := fun g hg1 => (ERow.lt gw1.gl.row hg1).1
  refine ⟨a3, c3, w3, h1, al1.off o2 fun g hg1 => ⟨fun e => ?_, fun e => ?_, fun e => ?_⟩, gw1.snoc rfl hgl hg (by decide) (fun j t g ht hg1 => (h.al.ls.lt ⟨t, List.mem_of_getElem? ht, hg1⟩).2) (fun j t g ht hj hg1 => h.al.ls.dis i j s t g hs ht (fun e => hj e.symm) hg1) (by omega) r2 o2, (h.off.trans (hg.o.mono fun q hq => Or.inr ⟨s, List.mem_of_getElem? hs, hq⟩)).join o2 fun q hq hp => ?_, h.old, ?_⟩
  · have := vl g hg1; have := h.old g (Or.inl e); omega
  · have := vl g hg1; have := h.old g (Or.inr (Or.inl e)); omega
  · have := vl g hg1; have := h.old g (Or.inr (Or.inr e)); omega
  · have := vl q hp; omega
  · refine (h.ex.off hg.o (fun g h3 h4 => own_ne h.ex.gl.row hrow (by decide) g h3 h4) fun g h3 h4 => ?_).off o2 (fun g h3 h4 => ?_) fun g h3 h4 => ?_
    · obtain ⟨cs, hc⟩ := h.ex.gl.type h3
      obtain ⟨cs', hc'⟩ := own_type hrow h4
      rw [hc] at hc'
      simp at hc'
    · have hx1 := h.ex.off hg.o (fun g h3 h4 => own_ne h.ex.gl.row hrow (by decide) g h3 h4) fun g h3 h4 => by
        obtain ⟨cs, hc⟩ := h.ex.gl.type h3
        obtain ⟨cs', hc'⟩ := own_type hrow h4
        rw [hc] at hc'
        simp at hc'
      exact own_ne hx1.gl.row gw1.gl.row (by decide) g h3 h4
    · have hx1 := h.ex.off hg.o (fun g h3 h4 => own_ne h.ex.gl.row hrow (by decide) g h3 h4) fun g h3 h4 => by
        obtain ⟨cs, hc⟩ := h.ex.gl.type h3
        obtain ⟨cs', hc'⟩ := own_type hrow h4
        rw [hc] at hc'
        simp at hc'
      obtain ⟨cs, hc⟩ := hx1.gl.type h3
      obtain ⟨cs', hc'⟩ := own_type gw1.gl.row h4
      rw [hc] at hc'
      simp at hc'
section
variable {w W0 W1 UD US wr w9 : World} {B hb n ND NS N1 : Nat} {σ : Hs} {v5 v6 : Value} {gD gS : List Sl}
/-- What shows asks stands. -/
theorem AlF.shows (h : GrS US B hb σ (GwI N1 B 66 70 3 encD mkD (σ.X 0) v5 gD) v6 gS wr) (hD : gD.length = ND) (hS : gS.length = NS) (hN : AlN σ n ND NS) : ShI wr B hb 0 σ.f σ.X v5 v6 gD gS ND NS := by
  refine ⟨h.al.hr, h.ex.gl.base, h.gw.gl.base, fun i s hs => ?_, fun i s hs => ?_, hN.xD, hN.xS, hD.trans hN.xD.symm, hS.trans hN.xS.symm, h.ex.bd, h.gw.bd⟩
  · have h1 := h.al.ld.row i s hs
    have h2 := ERow.len h1
    rw [show (markC mkD (contents σ.D) i).length = (contents σ.D i).length from List.length_replicate] at h2
    rw [h2]
    exact h1
  · have h1 := h.al.ls.row i s hs
    have h2 := ERow.len h1
    rw [show (markC mkS (contents σ.S) i).length = (contents σ.S i).length from List.length_replicate] at h2
    rw [h2]
    exact h1
theorem LFt.hs {g : Nat} (h : LFt σ.X g) : HsFt σ g := by
  rcases h with e | e
  · exact Or.inr (Or.inl (LVf.lb e))
  · exact Or.inr (Or.inr (LVf.lb e))
theorem AlF.off (h1 : Below w.heap.size w W0) (h2 : Off (HsFt σ) W0 W1) (h3 : Off (LFt σ.X) W1 UD) (h4 : Off (LFt σ.X) UD US) (h5 : Off (LFt σ.X) US wr) : Off (HsFt σ) w wr :=
  (Off.of_below h1).trans (h2.trans ((h3.mono fun _ e => LFt.hs e).trans ((h4.mono fun _ e => LFt.hs e).trans (h5.mono fun _ e => LFt.hs e))))
theorem AlF.done (h : HS w B hb n σ) (hE : Off (HsFt σ) w wr) (h9 : (∃ f', HR w9 B hb f' (rho0 hb) [] (fun _ => []) ∧ ∀ q, q < 4 → f' q = .slice none 0 0) ∧ Off (fun g => g = hb) wr w9) : ∃ σ', HS w9 B hb 0 σ' ∧ (∀ g, HsFt σ' g → g = hb) ∧ Off (HsFt σ) w w9 := by
  obtain ⟨⟨f', h1, h2⟩, o⟩ := h9
  refine ⟨⟨f', rho0 hb, [], [], []⟩, ⟨⟨h1.congr fun q hq => ?_, LB.nil _ _ _ _ _, LB.nil _ _ _ _ _, fun g hg => ?_, fun i e he => (by simp at he)⟩, fun x hx => (by cases hx), Nat.le_refl _, Nat.le_refl _, Nat.le_refl _, fun x hx => (by cases hx), fun x hx => (by cases hx)⟩, fun g hg => ?_, hE.trans (o.mono fun g e => ?_)⟩
  · rcases q with _ | _ | _ | _ | q
    · rfl
    · rfl
    · rfl
    · rfl
    · omega
  · rcases hg with ⟨x, hx, _⟩ | ⟨x, hx, _⟩ <;> cases hx
  · rcases hg with (e | ⟨q, hq, e⟩) | ⟨x, hx, _⟩ | ⟨x, hx, _⟩
    · exact rho0_of e
    · have e' : (f' q).ownBlock = some g := e
      rw [h2 q hq] at e'
      cases e'
    · cases hx
    · cases hx
  · subst e; exact Or.inl h.h0.hr.hbl.2
end
end Go.Proofs.YtoijhecphgdfnaaDoor
