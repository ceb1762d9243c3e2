import Derived.Test.YtoijhecphgdfnaaGreatDoorHkAlone
import Derived.Test.YtoijhecphgdfnaaGreatDoorOrAl
/-
  Held strongly: its rows and its book (HR), the lists that were told (LB), all of it (HS).
-/
namespace Go.Proofs.YtoijhecphgdfnaaGreatDoor
open Go.RowKit

theorem off_bo {P : Nat → Prop} {w w' : World} (h : Off P w w') : Bo.Off P w w' := ⟨h.os, h.tape, h.output, h.size, h.block⟩
theorem bo_off {P : Nat → Prop} {w w' : World} (h : Bo.Off P w w') : Off P w w' := ⟨h.os, h.tape, h.output, h.size, h.block⟩
theorem flatBm (ys : List Int) : ys.flatMap encB = ys.map (Value.int .u8) := by
  induction ys with
  | nil => rfl
  | cons y r ih => rw [List.flatMap_cons, ih]; rfl
theorem row_bo {w : World} {B : Nat} {v : Value} {xs : List Int} (h : BRow w B v xs) : Bo.Row w B v xs := by
  unfold Bo.Row Bo.u8s
  rw [← flatBm]
  exact h
theorem row_of_bo {w : World} {B : Nat} {v : Value} {xs : List Int} (h : Bo.Row w B v xs) : BRow w B v xs := by
  unfold Bo.Row Bo.u8s at h
  rw [← flatBm] at h
  exact h
/-- All that the book keeps is as it came. -/
def BkS (es : List Bo.Ent) : Prop := ∀ (i : Nat) (e : Bo.Ent), es[i]? = some e → e.old = e.bs ∧ e.bs.length ≤ 70368744177664
theorem BkS.snoc {es : List Bo.Ent} (h : BkS es) {v w : Value} {bs : List Int} (hl : bs.length ≤ 70368744177664) : BkS (es ++ [⟨v, w, bs, bs⟩]) := fun i e he => by
  rcases Nat.lt_or_ge i es.length with g | g
  · rw [List.getElem?_append_left g] at he; exact h i e he
  · rw [List.getElem?_append_right g] at he
    rcases Nat.eq_zero_or_pos (i - es.length) with g1 | g1
    · rw [g1] at he
      simp only [List.getElem?_cons_zero, Option.some.injEq] at he
      subst he; exact ⟨rfl, hl⟩
    · rw [List.getElem?_eq_none (by simp; omega)] at he; cases he
/-- One of the cells ahead of the book is written. -/
theorem bk_cell {w : World} {B hb : Nat} {f : Nat → Value} {ρ : Nat → Nat} {vb vw : Value} {es : List Bo.Ent} (h : Bo.Bk w B hb f ρ vb vw es) {q : Nat} (hq : q < 4) (u : Value) : Bo.Bk (w.setCell ⟨hb, q, none⟩ u) B hb (fun k => if k = q then u else f k) ρ vb vw es := by
  have o : Bo.Off (fun k => k = hb) w (w.setCell ⟨hb, q, none⟩ u) := Bo.Off.setCell (P := fun k => k = hb) (Bo.Off.refl _ _) (p := ⟨hb, q, none⟩) rfl _
  have hne : ∀ j : Nat, j ≠ q → (⟨hb, q, none⟩ : Addr) ≠ ⟨hb, j, none⟩ := fun j hj e => by injection e; omega
  have hc : ∀ j : Nat, j ≠ q → (w.setCell ⟨hb, q, none⟩ u).cell? ⟨hb, j, none⟩ = w.cell? ⟨hb, j, none⟩ := fun j hj => World.cell?_setCell_other _ _ _ _ (hne j hj)
  have hn : ∀ {g r : Nat}, ρ g = r → r ≠ 1 → ¬ g = hb := fun {g r} e h1 p => by subst p; have := h.pK; omega
  refine ⟨by rw [hc 4 (by omega)]; exact h.c0, by rw [hc 5 (by omega)]; exact h.c1, by rw [hc 6 (by omega)]; exact h.c2, by rw [hc 7 (by omega)]; exact h.c3, by rw [hc 8 (by omega)]; exact h.c4, by rw [hc 9 (by omega)]; exact h.c5, fun j hj => ?_, fun j => by rw [World.frozen?_setCell]; exact h.fz j, Nat.le_trans h.hB o.size,
    h.rb.off o fun g e => hn (h.pb g e) (by decide), h.rws.off o fun g e => hn (h.pw g e) (by decide), fun i e he => (h.val i e he).off o fun g eg => hn (h.pval i e he g eg) (by omega), fun i e he => (h.was i e he).off o fun g eg => hn (h.pwas i e he g eg) (by decide),
    h.pK, h.pb, h.pw, h.pwas, h.pval, fun g hg => h.new g (Nat.le_trans o.size hg)⟩
  by_cases e : j = q
  · subst e
    rw [if_pos rfl]
    exact World.cell?_setCell_same _ _ _ (h.cu j hj)
  · rw [if_neg e, hc j e]
    exact h.cu j hj
/-- Held's rows, its book. -/
structure HR (w : World) (B hb : Nat) (f : Nat → Value) (ρ : Nat → Nat) (es : List Bo.Ent) (X : Nat → List Sl) : Prop where
  bk : ∃ vb vw, Bo.Bk w B hb f ρ vb vw es
  row : ∀ q, q < 4 → ERow w B (hty q) 1 encSl (f q) (X q)
  dis : ∀ i j g, i < 4 → j < 4 → i ≠ j → (f i).ownBlock = some g → (f j).ownBlock ≠ some g
  ap : ∀ q g, q < 4 → (f q).ownBlock = some g → ρ g = 0
  lo : ∀ g, ρ g ≠ 0 → B ≤ g
def RFt (f : Nat → Value) (ρ : Nat → Nat) (g : Nat) : Prop := ρ g ≠ 0 ∨ ∃ q, q < 4 ∧ (f q).ownBlock = some g
section
variable {w w' : World} {B hb : Nat} {f : Nat → Value} {ρ : Nat → Nat} {es : List Bo.Ent} {X X' : Nat → List Sl} {P : Nat → Prop}
theorem HR.off (h : HR w B hb f ρ es X) (o : Off P w w') (hP : ∀ g, RFt f ρ g → ¬ P g) : HR w' B hb f ρ es X := by
  obtain ⟨vb, vw, hk⟩ := h.bk
  refine ⟨⟨vb, vw, hk.off (off_bo o) fun k p => ?_⟩, fun q hq => ERow.off (h.row q hq) o fun g hg => hP g (Or.inr ⟨q, hq, hg⟩), h.dis, h.ap, h.lo⟩
  by_cases e : ρ k = 0
  · exact e
  · exact absurd p (hP k (Or.inl e))
theorem HR.below (h : HR w B hb f ρ es X) (h9 : Below w.heap.size w w') : HR w' B hb f ρ es X := h.off (P := fun _ => False) (Off.of_below h9) fun _ _ => id
theorem HR.congr (h : HR w B hb f ρ es X) (he : ∀ q, q < 4 → X q = X' q) : HR w B hb f ρ es X' := ⟨h.bk, fun q hq => by rw [← he q hq]; exact h.row q hq, h.dis, h.ap, h.lo⟩
theorem HR.lt (h : HR w B hb f ρ es X) {g : Nat} (hg : RFt f ρ g) : B ≤ g ∧ g < w.heap.size := by
  obtain ⟨vb, vw, hk⟩ := h.bk
  rcases hg with e | ⟨q, hq, e⟩
  · refine ⟨h.lo g e, ?_⟩
    rcases Nat.lt_or_ge g w.heap.size with g1 | g1
    · exact g1
    · exact absurd (hk.new g g1) e
  · exact ERow.lt (h.row q hq) e
theorem HR.hB (h : HR w B hb f ρ es X) : B ≤ w.heap.size := by
  obtain ⟨vb, vw, hk⟩ := h.bk
  exact hk.hB
theorem HR.new (h : HR w B hb f ρ es X) {g : Nat} (hg : w.heap.size ≤ g) : ρ g = 0 := by
  obtain ⟨vb, vw, hk⟩ := h.bk
  exact hk.new g hg
theorem HR.cell (h : HR w B hb f ρ es X) {q : Nat} (hq : q < 4) : w.cell? ⟨hb, q, none⟩ = some (f q) := by
  obtain ⟨vb, vw, hk⟩ := h.bk
  exact hk.cu q hq
theorem HR.free (h : HR w B hb f ρ es X) (q : Nat) : w.frozen? ⟨hb, q, none⟩ = false := by
  obtain ⟨vb, vw, hk⟩ := h.bk
  exact hk.fz q
theorem HR.hbl (h : HR w B hb f ρ es X) : hb < w.heap.size ∧ RFt f ρ hb := by
  obtain ⟨vb, vw, hk⟩ := h.bk
  exact ⟨hk.lt, Or.inl (by rw [hk.pK]; decide)⟩
theorem HR.hb1 (h : HR w B hb f ρ es X) : ρ hb = 1 := by
  obtain ⟨vb, vw, hk⟩ := h.bk
  exact hk.pK
/-- append of one list to a row, and the store of what it answers. -/
theorem HR.push (h : HR w B hb f ρ es X) {q : Nat} (hq : q < 4) (s : Sl) (hl : (X q).length + 1 ≤ 1000000000) :
    ∃ a' n' c' w2, (Builtin.append_ #[htl q, htl q] (htl q) #[f q, .slice (some ⟨w.heap.size, 0, none⟩) 1 1]).run Tryz.prog (w.alloc (.cells #[.slice s.1 s.2.1 s.2.2] (hty q))) = .ok (.slice a' n' c') w2 ∧ w2.cell? ⟨hb, q, none⟩ = some (f q) ∧ w2.frozen? ⟨hb, q, none⟩ = false ∧ Hid (HR (w2.setCell ⟨hb, q, none⟩ (.slice a' n' c')) B hb (fun k => if k = q then .slice a' n' c' else f k) ρ es (fun k => if k = q then X q ++ [s] else X k) ∧ Off (fun k => k = hb ∨ (f q).ownBlock = some k) w (w2.setCell ⟨hb, q, none⟩ (.slice a' n' c')) ∧ ∀ k, (Value.slice a' n' c').ownBlock = some k → (f q).ownBlock = some k ∨ w.heap.size ≤ k) := by
  have hr := h.row q hq
  obtain ⟨a', c', w2, h1, r2, o2, s2⟩ := run_epush (P := Tryz.prog) (t := htl q) (undH q) (celH q) encSl_len encSl_one hr s #[.slice s.1 s.2.1 s.2.2] rfl hl (by decide) h.hB
  have hhb := h.hbl
  have hbne : ∀ j, j < 4 → (f j).ownBlock ≠ some hb := fun j hj e => by
    obtain ⟨vb, vw, hk⟩ := h.bk
    have h1 := h.ap j hb hj e
    have h2 := hk.pK
    omega
  have fr : ∀ k, (Value.slice a' ((X q).length + 1) c').ownBlock = some k → (f q).ownBlock = some k ∨ w.heap.size ≤ k := fun k hk => by
    rcases s2 with e | e
    · exact Or.inl (by rw [← e]; exact hk)
    · rw [hk] at e
      simp only [Option.some.injEq] at e
      right; omega
  have fr0 : ∀ k, (Value.slice a' ((X q).length + 1) c').ownBlock = some k → ρ k = 0 := fun k hk => by
    rcases fr k hk with e | e
    · exact h.ap q k hq e
    · exact h.new e
  have oo : Off (fun k => k = hb) w2 (w2.setCell ⟨hb, q, none⟩ (.slice a' ((X q).length + 1) c')) := Off.setCell (P := fun k => k = hb) (Off.refl _ _) (p := ⟨hb, q, none⟩) rfl _
  obtain ⟨vb, vw, hk⟩ := h.bk
  have hk2 : Bo.Bk w2 B hb f ρ vb vw es := hk.off (off_bo o2) fun k p => h.ap q k hq p
  have old : ∀ m k, m < 4 → (f m).ownBlock = some k → k < w.heap.size := fun m k hm hk => (ERow.lt (h.row m hm) hk).2
  refine ⟨a', _, c', w2, h1, hk2.cu q hq, hk2.fz q, ⟨⟨vb, vw, bk_cell hk2 hq _⟩, fun j hj => ?_, fun i j g hi hj hij hg => ?_, fun j g hj hg => ?_, h.lo⟩, (o2.mono fun k hk => Or.inr hk).trans (oo.mono fun k hk => Or.inl hk), fr⟩
  · by_cases e : j = q
    · subst e
      rw [if_pos rfl, if_pos rfl]
      exact ERow.off r2 oo fun k hk e => by
        have h1 := fr0 k hk
        have h2 := hk2.pK
        subst e
        omega
    · rw [if_neg e, if_neg e]
      exact ERow.off (ERow.off (h.row j hj) o2 fun k hk hq2 => h.dis j q k hj hq e hk hq2) oo fun k hk e2 => hbne j hj (by rw [← e2]; exact hk)
  · by_cases e1 : i = q
    · rw [if_pos e1] at hg
      rw [if_neg (fun e2 => hij (e1.trans e2.symm))]
      intro hg2
      rcases fr g hg with e | e
      · exact h.dis q j g hq hj (by omega) e hg2
      · have := old j g hj hg2; omega
    · rw [if_neg e1] at hg
      by_cases e2 : j = q
      · rw [if_pos e2]
        intro hg2
        rcases fr g hg2 with e | e
        · exact h.dis i q g hi hq e1 hg e
        · have := old i g hi hg; omega
      · rw [if_neg e2]
        exact h.dis i j g hi hj hij hg
  · by_cases e : j = q
    · rw [if_pos e] at hg
      exact fr0 g hg
    · rw [if_neg e] at hg
      exact h.ap j g hj hg
/-- Book.Take, strongly. -/
theorem HR.take (h : HR w B hb f ρ es X) {m c : Nat} {a : Option Addr} {bs : List Int} (ht : BRow w B (.slice a m c) bs) (hz : ∀ g, (Value.slice a m c).ownBlock = some g → ρ g = 0) (hm : m ≤ 8192) (hl : es.length + 1 ≤ 1099511627776) :
    Calls Tryz.prog 20 #[.pointer (some ⟨hb, 4, none⟩), .slice a m c] w fun e w' => e = .returned (.tuple #[]) ∧ Hid (∃ ρ' was, HR w' B hb f ρ' (es ++ [⟨.slice a m c, was, bs, bs⟩]) X ∧ Off (fun k => ρ k = 1 ∨ ρ k = 2 ∨ ρ k = 3) w w' ∧ (∀ k, k < w.heap.size → (Value.slice a m c).ownBlock ≠ some k → ρ' k = ρ k) ∧ ∀ k, (Value.slice a m c).ownBlock = some k → 6 ≤ ρ' k) := by
  obtain ⟨vb, vw, hk⟩ := h.bk
  refine (Bo.Take_any hk (row_bo ht) hz (by omega) hl).mono fun e w' ⟨e1, ρ', vb', vw', was, q1, q2, q3⟩ => ⟨e1, ρ', was, ⟨⟨vb', vw', q1⟩, fun q hq => ?_, h.dis, fun q g hq hg => ?_, fun g hg => ?_⟩, bo_off q2, q3, fun k hk => by
    have := q1.pval es.length ⟨.slice a m c, was, bs, bs⟩ (by simp) k hk
    omega⟩
  · exact ERow.off (h.row q hq) (bo_off q2) fun g hg p => by have := h.ap q g hq hg; omega
  · have hg2 := (ERow.lt (h.row q hq) hg).2
    rw [q3 g hg2 fun e => own_ne ht (h.row q hq) (by
      show 5 ≠ hty q
      unfold hty
      split <;> first | decide | (split <;> decide)) g e hg]
    exact h.ap q g hq hg
  · rcases Nat.lt_or_ge g w.heap.size with g1 | g1
    · by_cases e : (Value.slice a m c).ownBlock = some g
      · exact (ERow.lt ht e).1
      · rw [q3 g g1 e] at hg
        exact h.lo g hg
    · exact Nat.le_trans hk.hB g1
end
/-! ### lists that were told -/
/-- A list, its copy, what stood in it. -/
structure TD (α : Type) where
  val : Sl
  was : Sl
  xs : List α
abbrev Sl.v (s : Sl) : Value := .slice s.1 s.2.1 s.2.2
structure LB {α : Type} (w : World) (B : Nat) (e : TypeId) (k : Nat) (enc : α → List Value) (ls : List (TD α)) : Prop where
  val : ∀ x ∈ ls, ERow w B e k enc (Sl.v x.val) x.xs
  was : ∀ x ∈ ls, ERow w B e k enc (Sl.v x.was) x.xs
  dis : ∀ (i j : Nat) (x y : TD α) (g : Nat), ls[i]? = some x → ls[j]? = some y → i ≠ j → (Sl.v x.val).ownBlock = some g → (Sl.v y.val).ownBlock ≠ some g
def LBf {α : Type} (ls : List (TD α)) (g : Nat) : Prop := ∃ x ∈ ls, (Sl.v x.val).ownBlock = some g ∨ (Sl.v x.was).ownBlock = some g
section
variable {α : Type} {w w' : World} {B k : Nat} {e : TypeId} {enc : α → List Value} {ls : List (TD α)} {P : Nat → Prop}
theorem LB.nil (w : World) (B : Nat) (e : TypeId) (k : Nat) (enc : α → List Value) : LB w B e k enc [] := ⟨fun x h => (by cases h), fun x h => (by cases h), fun i j x y g h => (by simp at h)⟩
theorem LB.off (h : LB w B e k enc ls) (o : Off P w w') (hP : ∀ g, LBf ls g → ¬ P g) : LB w' B e k enc ls :=
  ⟨fun x hx => ERow.off (h.val x hx) o fun g hg => hP g ⟨x, hx, Or.inl hg⟩, fun x hx => ERow.off (h.was x hx) o fun g hg => hP g ⟨x, hx, Or.inr hg⟩, h.dis⟩
theorem LB.lt (h : LB w B e k enc ls) {g : Nat} (hg : LBf ls g) : B ≤ g ∧ g < w.heap.size := by
  obtain ⟨x, hx, e | e⟩ := hg
  · exact ERow.lt (h.val x hx) e
  · exact ERow.lt (h.was x hx) e
theorem own_type {w : World} {B k n : Nat} {e : TypeId} {v : Value} {xs : List Value} (h : w.ownsRow B e k v n xs) {g : Nat} (hg : v.ownBlock = some g) : ∃ cs, w.heap[g]? = some (.cells cs e (0, 0)) := by
  rcases h.2 with ⟨e1, _⟩ | ⟨g', cap, cur, e1, _, hb, _⟩
  · rw [e1] at hg; cases hg
  · rw [e1] at hg
    simp only [Value.ownBlock, Option.some.injEq] at hg
    subst hg
    exact ⟨_, hb⟩
theorem LB.type (h : LB w B e k enc ls) {g : Nat} (hg : LBf ls g) : ∃ cs, w.heap[g]? = some (.cells cs e (0, 0)) := by
  obtain ⟨x, hx, e | e⟩ := hg
  · exact own_type (h.val x hx) e
  · exact own_type (h.was x hx) e
theorem LB.snoc (h : LB w B e k enc ls) {x : TD α} (h1 : ERow w B e k enc (Sl.v x.val) x.xs) (h2 : ERow w B e k enc (Sl.v x.was) x.xs) (hf : ∀ g, (Sl.v x.val).ownBlock = some g → ¬ LBf ls g) : LB w B e k enc (ls ++ [x]) := by
  have hm : ∀ y, y ∈ ls ++ [x] → y ∈ ls ∨ y = x := fun y hy => by simpa using hy
  have ha : ∀ {i : Nat} {y : TD α}, (ls ++ [x])[i]? = some y → (i < ls.length ∧ ls[i]? = some y) ∨ (i = ls.length ∧ y = x) := fun {i y} hy => by
    rcases Nat.lt_or_ge i ls.length with g | g
    · rw [List.getElem?_append_left g] at hy; exact Or.inl ⟨g, hy⟩
    · rw [List.getElem?_append_right g] at hy
      rcases Nat.eq_or_lt_of_le g with e | e
      · subst e; simp at hy; exact Or.inr ⟨rfl, hy.symm⟩
      · rw [List.getElem?_eq_none (by simp; omega)] at hy; cases hy
  refine ⟨fun y hy => ?_, fun y hy => ?_, fun i j y z g hy hz hij hg => ?_⟩
  · rcases hm y hy with e | rfl
    · exact h.val y e
    · exact h1
  · rcases hm y hy with e | rfl
    · exact h.was y e
    · exact h2
  · rcases ha hy with ⟨a1, a2⟩ | ⟨a1, rfl⟩ <;> rcases ha hz with ⟨b1, b2⟩ | ⟨b1, rfl⟩
    · exact h.dis i j y z g a2 b2 hij hg
    · exact fun e => hf g e ⟨y, List.mem_of_getElem? a2, Or.inl hg⟩
    · exact fun e => hf g hg ⟨z, List.mem_of_getElem? b2, Or.inl e⟩
    · omega
theorem LBf.snoc {x : TD α} {g : Nat} (h : LBf (ls ++ [x]) g) : LBf ls g ∨ (Sl.v x.val).ownBlock = some g ∨ (Sl.v x.was).ownBlock = some g := by
  obtain ⟨y, hy, e⟩ := h
  rcases (by simpa using hy : y ∈ ls ∨ y = x) with g1 | rfl
  · exact Or.inl ⟨y, g1, e⟩
  · exact Or.inr e
end
/-! ### all of Held -/
structure Hs where
  f : Nat → Value
  ρ : Nat → Nat
  D : List (TD Deed)
  S : List (TD Msg)
  es : List Bo.Ent
def Hs.X (σ : Hs) (q : Nat) : List Sl := if q = 0 then σ.D.map TD.val else if q = 1 then σ.D.map TD.was else if q = 2 then σ.S.map TD.val else σ.S.map TD.was
structure HS0 (w : World) (B hb : Nat) (σ : Hs) : Prop where
  hr : HR w B hb σ.f σ.ρ σ.es σ.X
  dd : LB w B 105 3 encD σ.D
  ss : LB w B 91 10 encM σ.S
  ap : ∀ g, LBf σ.D g ∨ LBf σ.S g → σ.ρ g = 0
  bs : BkS σ.es
/-- Held's blocks. -/
def HsFt (σ : Hs) (g : Nat) : Prop := RFt σ.f σ.ρ g ∨ LBf σ.D g ∨ LBf σ.S g
/-- Each text of a list is in the book, as it came. -/
def TX (S : List (TD Msg)) (es : List Bo.Ent) : Prop := ∀ x ∈ S, ∀ m ∈ x.xs, m.tn ≤ 8192 ∧ ∃ e ∈ es, e.val = .slice m.tp m.tn m.tc ∧ e.bs = m.tx
theorem TX.more {S : List (TD Msg)} {es : List Bo.Ent} (h : TX S es) (l : List Bo.Ent) : TX S (es ++ l) := fun x hx m hm => by
  obtain ⟨h1, e, he, h2⟩ := h x hx m hm
  exact ⟨h1, e, List.mem_append_left _ he, h2⟩
structure HS (w : World) (B hb n : Nat) (σ : Hs) : Prop where
  h0 : HS0 w B hb σ
  tx : TX σ.S σ.es
  nD : σ.D.length ≤ n
  nS : σ.S.length ≤ n
  nE : σ.es.length ≤ n
  bD : ∀ x ∈ σ.D, x.xs.length ≤ 100000
  bS : ∀ x ∈ σ.S, x.xs.length ≤ 100000
section
variable {w w' : World} {B hb n : Nat} {σ : Hs} {P : Nat → Prop}
theorem HS0.off (h : HS0 w B hb σ) (o : Off P w w') (hP : ∀ g, HsFt σ g → ¬ P g) : HS0 w' B hb σ :=
  ⟨h.hr.off o fun g hg => hP g (Or.inl hg), h.dd.off o fun g hg => hP g (Or.inr (Or.inl hg)), h.ss.off o fun g hg => hP g (Or.inr (Or.inr hg)), h.ap, h.bs⟩
theorem HS.off (h : HS w B hb n σ) (o : Off P w w') (hP : ∀ g, HsFt σ g → ¬ P g) : HS w' B hb n σ := ⟨h.h0.off o hP, h.tx, h.nD, h.nS, h.nE, h.bD, h.bS⟩
theorem HS0.below (h : HS0 w B hb σ) (h9 : Below w.heap.size w w') : HS0 w' B hb σ := h.off (P := fun _ => False) (Off.of_below h9) fun _ _ => id
theorem HS.below (h : HS w B hb n σ) (h9 : Below w.heap.size w w') : HS w' B hb n σ := h.off (P := fun _ => False) (Off.of_below h9) fun _ _ => id
theorem HS0.lt (h : HS0 w B hb σ) {g : Nat} (hg : HsFt σ g) : B ≤ g ∧ g < w.heap.size := by
  rcases hg with e | e | e
  · exact h.hr.lt e
  · exact h.dd.lt e
  · exact h.ss.lt e
theorem HS.lt (h : HS w B hb n σ) {g : Nat} (hg : HsFt σ g) : B ≤ g ∧ g < w.heap.size := h.h0.lt hg
theorem HS.more {m : Nat} (h : HS w B hb n σ) (hm : n ≤ m) : HS w B hb m σ := ⟨h.h0, h.tx, Nat.le_trans h.nD hm, Nat.le_trans h.nS hm, Nat.le_trans h.nE hm, h.bD, h.bS⟩
end
/-- What Held's calls write: its rows, its own block, the book's rows. -/
def HsW (σ : Hs) (g : Nat) : Prop := (∃ q, q < 4 ∧ (σ.f q).ownBlock = some g) ∨ σ.ρ g = 1 ∨ σ.ρ g = 2 ∨ σ.ρ g = 3
theorem HsW.rft {σ : Hs} {g : Nat} (h : HsW σ g) : RFt σ.f σ.ρ g := by
  rcases h with ⟨q, hq, e⟩ | e
  · exact Or.inr ⟨q, hq, e⟩
  · exact Or.inl (by omega)
theorem HsW.ft {σ : Hs} {g : Nat} (h : HsW σ g) : HsFt σ g := Or.inl h.rft
/-- What Held is behind a call: T, the blocks of what was told. -/
def HSQ (w : World) (B hb n : Nat) (σ : Hs) (T : Nat → Prop) (w' : World) : Prop := ∃ σ', HS w' B hb n σ' ∧ (∀ g, HsFt σ' g → HsFt σ g ∨ T g ∨ w.heap.size ≤ g) ∧ Off (HsW σ) w w' ∧ ∀ g, HsW σ' g → HsW σ g ∨ w.heap.size ≤ g
end Go.Proofs.YtoijhecphgdfnaaGreatDoor

/-
  Held: a list is told; Take.
-/
namespace Go.Proofs.YtoijhecphgdfnaaGreatDoor
open Go.RowKit

section
variable {w w' : World} {B hb n : Nat} {σ : Hs}
theorem HS0.apart (h : HS0 w B hb σ) (g : Nat) (hg : LBf σ.D g ∨ LBf σ.S g) : ¬ RFt σ.f σ.ρ g := fun e => by
  rcases e with e | ⟨q, hq, e⟩
  · exact e (h.ap g hg)
  · obtain ⟨cs, hc⟩ := own_type (h.hr.row q hq) e
    have key : ∃ cs' t, w.heap[g]? = some (.cells cs' t (0, 0)) ∧ t ≠ hty q := by
      rcases hg with g1 | g1
      · obtain ⟨cs', h'⟩ := h.dd.type g1
        refine ⟨cs', _, h', ?_⟩
        unfold hty
        split <;> first | decide | (split <;> decide)
      · obtain ⟨cs', h'⟩ := h.ss.type g1
        refine ⟨cs', _, h', ?_⟩
        unfold hty
        split <;> first | decide | (split <;> decide)
    obtain ⟨cs', t, h', ht⟩ := key
    rw [hc] at h'
    simp only [Option.some.injEq, Obj.cells.injEq] at h'
    exact ht h'.2.1.symm
theorem HS0.pushD (h : HS0 w B hb σ) {W : World} {f' : Nat → Value} {X' : Nat → List Sl} {x : TD Deed} (hr : HR W B hb f' σ.ρ σ.es X') (hX : ∀ q, q < 4 → X' q = Hs.X ⟨f', σ.ρ, σ.D ++ [x], σ.S, σ.es⟩ q) (oT : Off (RFt σ.f σ.ρ) w W) (hv : ERow w B 105 3 encD (Sl.v x.val) x.xs) (hf : ∀ g, (Sl.v x.val).ownBlock = some g → ¬ HsFt σ g) (hw : ERow W w.heap.size 105 3 encD (Sl.v x.was) x.xs) (hrow : ∀ q g, q < 4 → (f' q).ownBlock = some g → (∃ q', q' < 4 ∧ (σ.f q').ownBlock = some g) ∨ w.heap.size ≤ g) :
    HS0 W B hb ⟨f', σ.ρ, σ.D ++ [x], σ.S, σ.es⟩ ∧ ∀ g, HsFt ⟨f', σ.ρ, σ.D ++ [x], σ.S, σ.es⟩ g → HsFt σ g ∨ (Sl.v x.val).ownBlock = some g ∨ w.heap.size ≤ g := by
  have hap := h.apart
  have hB := h.hr.hB
  refine ⟨⟨hr.congr hX, ?_, ?_, fun g hg => ?_, h.bs⟩, fun g hg => ?_⟩
  · exact (h.dd.off oT fun g hg => hap g (Or.inl hg)).snoc (ERow.off hv oT fun g hg e => hf g hg (Or.inl e)) (ERow.base hw hB) fun g hg e => hf g hg (Or.inr (Or.inl e))
  · exact h.ss.off oT fun g hg => hap g (Or.inr hg)
  · have key : (LBf σ.D g ∨ LBf σ.S g) ∨ (Sl.v x.val).ownBlock = some g ∨ (Sl.v x.was).ownBlock = some g := by
      rcases hg with e | e
      · exact (LBf.snoc e).imp Or.inl id
      · exact Or.inl (Or.inr e)
    rcases key with e | e | e
    · exact h.ap g e
    · exact Classical.byContradiction fun e0 => hf g e (Or.inl (Or.inl e0))
    · exact h.hr.new (ERow.lt hw e).1
  · rcases hg with (e | ⟨q, hq, e⟩) | e | e
    · exact Or.inl (Or.inl (Or.inl e))
    · rcases hrow q g hq e with ⟨q', hq', e'⟩ | e'
      · exact Or.inl (Or.inl (Or.inr ⟨q', hq', e'⟩))
      · exact Or.inr (Or.inr e')
    · rcases LBf.snoc e with e | e | e
      · exact Or.inl (Or.inr (Or.inl e))
      · exact Or.inr (Or.inl e)
      · exact Or.inr (Or.inr (ERow.lt hw e).1)
    · exact Or.inl (Or.inr (Or.inr e))
theorem HS0.pushS (h : HS0 w B hb σ) {W : World} {f' : Nat → Value} {X' : Nat → List Sl} {x : TD Msg} (hr : HR W B hb f' σ.ρ σ.es X') (hX : ∀ q, q < 4 → X' q = Hs.X ⟨f', σ.ρ, σ.D, σ.S ++ [x], σ.es⟩ q) (oT : Off (RFt σ.f σ.ρ) w W) (hv : ERow w B 91 10 encM (Sl.v x.val) x.xs) (hf : ∀ g, (Sl.v x.val).ownBlock = some g → ¬ HsFt σ g) (hw : ERow W w.heap.size 91 10 encM (Sl.v x.was) x.xs) (hrow : ∀ q g, q < 4 → (f' q).ownBlock = some g → (∃ q', q' < 4 ∧ (σ.f q').ownBlock = some g) ∨ w.heap.size ≤ g) :
    HS0 W B hb ⟨f', σ.ρ, σ.D, σ.S ++ [x], σ.es⟩ ∧ ∀ g, HsFt ⟨f', σ.ρ, σ.D, σ.S ++ [x], σ.es⟩ g → HsFt σ g ∨ (Sl.v x.val).ownBlock = some g ∨ w.heap.size ≤ g := by
  have hap := h.apart
  have hB := h.hr.hB
  refine ⟨⟨hr.congr hX, ?_, ?_, fun g hg => ?_, h.bs⟩, fun g hg => ?_⟩
  · exact h.dd.off oT fun g hg => hap g (Or.inl hg)
  · exact (h.ss.off oT fun g hg => hap g (Or.inr hg)).snoc (ERow.off hv oT fun g hg e => hf g hg (Or.inl e)) (ERow.base hw hB) fun g hg e => hf g hg (Or.inr (Or.inr e))
  · have key : (LBf σ.D g ∨ LBf σ.S g) ∨ (Sl.v x.val).ownBlock = some g ∨ (Sl.v x.was).ownBlock = some g := by
      rcases hg with e | e
      · exact Or.inl (Or.inl e)
      · exact (LBf.snoc e).imp Or.inr id
    rcases key with e | e | e
    · exact h.ap g e
    · exact Classical.byContradiction fun e0 => hf g e (Or.inl (Or.inl e0))
    · exact h.hr.new (ERow.lt hw e).1
  · rcases hg with (e | ⟨q, hq, e⟩) | e | e
    · exact Or.inl (Or.inl (Or.inl e))
    · rcases hrow q g hq e with ⟨q', hq', e'⟩ | e'
      · exact Or.inl (Or.inl (Or.inr ⟨q', hq', e'⟩))
      · exact Or.inr (Or.inr e')
    · exact Or.inl (Or.inr (Or.inl e))
    · rcases LBf.snoc e with e | e | e
      · exact Or.inl (Or.inr (Or.inr e))
      · exact Or.inr (Or.inl e)
      · exact Or.inr (Or.inr (ERow.lt hw e).1)
/-- Book.Take over all of Held. -/
theorem HS0.take (h : HS0 w B hb σ) {m c : Nat} {a : Option Addr} {bs : List Int} (ht : BRow w B (.slice a m c) bs) (hz : ∀ g, (Value.slice a m c).ownBlock = some g → ¬ HsFt σ g) (hm : m ≤ 8192) (hl : σ.es.length + 1 ≤ 1099511627776) :
    Calls Tryz.prog 20 #[.pointer (some ⟨hb, 4, none⟩), .slice a m c] w fun e w' => e = .returned (.tuple #[]) ∧ Hid (∃ ρ' was, HS0 w' B hb ⟨σ.f, ρ', σ.D, σ.S, σ.es ++ [⟨.slice a m c, was, bs, bs⟩]⟩ ∧ (∀ g, HsFt ⟨σ.f, ρ', σ.D, σ.S, σ.es ++ [⟨.slice a m c, was, bs, bs⟩]⟩ g → HsFt σ g ∨ (Value.slice a m c).ownBlock = some g ∨ w.heap.size ≤ g) ∧ Off (fun k => σ.ρ k = 1 ∨ σ.ρ k = 2 ∨ σ.ρ k = 3) w w' ∧ (∀ k, k < w.heap.size → (Value.slice a m c).ownBlock ≠ some k → ρ' k = σ.ρ k) ∧ ∀ k, (Value.slice a m c).ownBlock = some k → 6 ≤ ρ' k) :=
  (h.hr.take ht (fun g hg => Classical.byContradiction fun e0 => hz g hg (Or.inl (Or.inl e0))) hm hl).mono fun e w' ⟨e1, h1⟩ => ⟨e1, by
    obtain ⟨ρ', was, q1, q2, q3, q4⟩ := h1.out
    have hlen := ERow.len ht
    refine ⟨ρ', was, ⟨q1, h.dd.off q2 fun g hg e => by have := h.ap g (Or.inl hg); omega, h.ss.off q2 fun g hg e => by have := h.ap g (Or.inr hg); omega, fun g hg => ?_, h.bs.snoc (by omega)⟩, fun g hg => ?_, q2, q3, q4⟩
    · have hlt := h.lt (Or.inr hg)
      show ρ' g = 0
      rw [q3 g hlt.2 fun e => hz g e (Or.inr hg)]
      exact h.ap g hg
    · rcases hg with (e | e) | e
      · rcases Nat.lt_or_ge g w.heap.size with g1 | g1
        · by_cases e2 : (Value.slice a m c).ownBlock = some g
          · exact Or.inr (Or.inl e2)
          · have e3 := q3 g g1 e2
            refine Or.inl (Or.inl (Or.inl ?_))
            intro e4
            exact e (e3.trans e4)
        · exact Or.inr (Or.inr g1)
      · exact Or.inl (Or.inl (Or.inr e))
      · exact Or.inl (Or.inr e)⟩
/-- Take, as a call of its own. -/
theorem take_s (h : HS w B hb n σ) {m c : Nat} {a : Option Addr} {bs : List Int} (ht : BRow w B (.slice a m c) bs) (hz : ∀ g, (Value.slice a m c).ownBlock = some g → ¬ HsFt σ g) (hm : m ≤ 8192) (hn : n + 1 ≤ 1000000000) :
    Calls Tryz.prog 20 #[.pointer (some ⟨hb, 4, none⟩), .slice a m c] w fun e w' => e = .returned (.tuple #[]) ∧ Hid (HSQ w B hb (n + 1) σ (fun g => (Value.slice a m c).ownBlock = some g) w') :=
  (h.h0.take ht hz hm (by have := h.nE; omega)).mono fun e w' ⟨e1, h1⟩ => ⟨e1, by
    obtain ⟨ρ', was, q1, q2, q3, q4, q5⟩ := h1.out
    refine ⟨_, ⟨q1, h.tx.more _, Nat.le_trans h.nD (by omega), Nat.le_trans h.nS (by omega), by have := h.nE; simp; omega, h.bD, h.bS⟩, q2, q3.mono fun g e => Or.inr e, fun g hg => ?_⟩
    rcases Nat.lt_or_ge g w.heap.size with g1 | g1
    · rcases hg with e | e
      · exact Or.inl (Or.inl e)
      · by_cases e2 : (Value.slice a m c).ownBlock = some g
        · have := q5 g e2
          have e3 : ρ' g = 1 ∨ ρ' g = 2 ∨ ρ' g = 3 := e
          omega
        · have e3 : ρ' g = 1 ∨ ρ' g = 2 ∨ ρ' g = 3 := e
          rw [q4 g g1 e2] at e3
          exact Or.inl (Or.inr e3)
    · exact Or.inr g1⟩
end
end Go.Proofs.YtoijhecphgdfnaaGreatDoor
