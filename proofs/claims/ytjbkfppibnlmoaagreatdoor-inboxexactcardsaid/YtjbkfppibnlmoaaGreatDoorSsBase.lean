/-
  The pair strongly: its book and all that it keeps, the lists of entries. The blocks' parts τ: 0 free, 1 the book's own, 5 the pair's, 2 lists of bytes and of texts that the book keeps, 3 lists of entries and copies, 4 the boxes.
-/
import Derived.Test.YtjbkfppibnlmoaaGreatDoorIlSep
import Derived.Test.YtjbkfppibnlmoaaGreatDoorBtAlone
namespace Go.Proofs.YtjbkfppibnlmoaaGreatDoor
open Go.RowKit

theorem to_bt {P : Nat → Prop} {w w' : World} (o : Off P w w') : Bt.Off P w w' := ⟨o.os, o.tape, o.output, o.size, o.block⟩
theorem of_bt {P : Nat → Prop} {w w' : World} (o : Bt.Off P w w') : Off P w w' := ⟨o.os, o.tape, o.output, o.size, o.block⟩
theorem flatBm (ys : List Int) : ys.flatMap encB = ys.map (Value.int .u8) := by
  induction ys with
  | nil => rfl
  | cons y r ih => rw [List.flatMap_cons, ih]; rfl
theorem row_bo {w : World} {B : Nat} {v : Value} {xs : List Int} (h : BRow w B v xs) : Bo.Row w B v xs := by
  unfold Bo.Row Bo.u8s
  rw [← flatBm]
  exact h
theorem flatSm (ys : List ByteArray) : ys.flatMap encS = ys.map Value.string := by
  induction ys with
  | nil => rfl
  | cons y r ih => rw [List.flatMap_cons, ih]; rfl
theorem row_bt {w : World} {B : Nat} {v : Value} {xs : List ByteArray} (h : TRow w B v xs) : Bt.TRow w B v (xs.map Value.string) := by
  have h1 := h
  unfold TRow ERow at h1
  rw [flatSm] at h1
  show w.ownsRow B 9 1 v (xs.map Value.string).length (xs.map Value.string)
  rw [List.length_map]
  exact h1
/-- All that the book keeps is as it came, and short. -/
def BkB (es : List Bo.Ent) : Prop := ∀ (i : Nat) (e : Bo.Ent), es[i]? = some e → e.old = e.bs ∧ e.bs.length ≤ 70368744177664
def BkT (ts : List Bt.Ent) : Prop := ∀ (i : Nat) (e : Bt.Ent), ts[i]? = some e → e.old = e.bs ∧ e.bs.length ≤ 1000 ∧ ∀ u ∈ e.bs, ∃ s, u = Value.string s
theorem snoc_get {α : Type} {l : List α} {x y : α} {i : Nat} (h : (l ++ [x])[i]? = some y) : l[i]? = some y ∨ (i = l.length ∧ y = x) := by
  rcases Nat.lt_or_ge i l.length with g | g
  · rw [List.getElem?_append_left g] at h; exact Or.inl h
  · have hi := (List.getElem?_eq_some_iff.1 h).1
    simp only [List.length_append, List.length_singleton] at hi
    obtain rfl : i = l.length := by omega
    rw [List.getElem?_append_right (Nat.le_refl _), Nat.sub_self] at h
    simp only [List.getElem?_cons_zero, Option.some.injEq] at h
    exact Or.inr ⟨rfl, h.symm⟩
theorem BkB.snoc {es : List Bo.Ent} (h : BkB es) {v w : Value} {bs : List Int} (hl : bs.length ≤ 70368744177664) : BkB (es ++ [⟨v, w, bs, bs⟩]) := fun i e he => by
  rcases snoc_get he with g | ⟨_, rfl⟩
  · exact h i e g
  · exact ⟨rfl, hl⟩
theorem BkT.snoc {es : List Bt.Ent} (h : BkT es) {v w : Value} {bs : List Value} (hl : bs.length ≤ 1000) (hs : ∀ u ∈ bs, ∃ s, u = Value.string s) : BkT (es ++ [⟨v, w, bs, bs⟩]) := fun i e he => by
  rcases snoc_get he with g | ⟨_, rfl⟩
  · exact h i e g
  · exact ⟨rfl, hl, hs⟩
/-- A slice's own block. -/
abbrev ob (s : Sl) : Option Nat := (Value.slice s.1 s.2.1 s.2.2).ownBlock
abbrev slv (s : Sl) : Value := .slice s.1 s.2.1 s.2.2
/-- How a role map of the book and the parts go together. -/
def RoB (ρ τ : Nat → Nat) : Prop := ∀ q, (ρ q = 1 ∨ ρ q = 2 ∨ ρ q = 3 → τ q = 1) ∧ (ρ q ≠ 0 → τ q = 1 ∨ τ q = 2)
/-- A list of entries that was told, and what it was. -/
def GOne (w : World) (B : Nat) (τ : Nat → Nat) (g : Sl × Sl) : Prop := ∃ ls ls', g.1.2.2 = g.1.2.1 ∧ NRow w B (slv g.1) ls ∧ (∀ l ∈ ls, Own w B l) ∧ NRow w B (slv g.2) ls' ∧ (∀ l ∈ ls', Own w B l) ∧ Tws ls ls' ∧ (∀ l ∈ ls, l.tn ≤ 8192 ∧ l.cn ≤ 2048 ∧ l.an ≤ 2048) ∧ ls.length ≤ 1000 ∧
  (∀ q, ob g.1 = some q → τ q = 3) ∧ (∀ q, ob g.2 = some q → τ q = 3) ∧ (∀ l ∈ ls, ∀ q, Blk l q → τ q = 2 ∨ τ q = 3) ∧ ∀ l ∈ ls', ∀ q, Blk l q → τ q = 3
def GsOk (w : World) (B : Nat) (τ : Nat → Nat) (gs : List (Sl × Sl)) : Prop := ∀ (i : Nat) (g : Sl × Sl), gs[i]? = some g → GOne w B τ g ∧ ∀ (j : Nat) (h : Sl × Sl), j < i → gs[j]? = some h → ∀ q, ob g.1 = some q → ob h.1 ≠ some q
section
variable {w w' : World} {B : Nat} {τ τ' : Nat → Nat} {g : Sl × Sl} {gs : List (Sl × Sl)} {P : Nat → Prop}
theorem GOne.off (h : GOne w B τ g) (o : Off P w w') (hP : ∀ q, q < w.heap.size → P q → τ q ≠ 2 ∧ τ q ≠ 3) (ht : ∀ q, q < w.heap.size → τ q = 2 ∨ τ q = 3 → τ' q = τ q) : GOne w' B τ' g := by
  obtain ⟨ls, ls', h1, h2, h3, h4, h5, h6, h7, h8, h9, h10, h11, h12⟩ := h
  have k9 : ∀ q, ob g.1 = some q → q < w.heap.size := fun q hq => (ERow.lt h2 hq).2
  have k10 : ∀ q, ob g.2 = some q → q < w.heap.size := fun q hq => (ERow.lt h4 hq).2
  refine ⟨ls, ls', h1, ERow.off h2 o fun q hq p => (hP q (k9 q hq) p).2 (h9 q hq), fun l hl => (h3 l hl).offB o fun q hq p => by have := hP q ((h3 l hl).blk hq).2 p; have := h11 l hl q hq; omega, ERow.off h4 o fun q hq p => (hP q (k10 q hq) p).2 (h10 q hq), fun l hl => (h5 l hl).offB o fun q hq p => (hP q ((h5 l hl).blk hq).2 p).2 (h12 l hl q hq), h6, h7, h8,
    fun q hq => by rw [ht q (k9 q hq) (Or.inr (h9 q hq))]; exact h9 q hq, fun q hq => by rw [ht q (k10 q hq) (Or.inr (h10 q hq))]; exact h10 q hq, fun l hl q hq => by rw [ht q ((h3 l hl).blk hq).2 (h11 l hl q hq)]; exact h11 l hl q hq, fun l hl q hq => by rw [ht q ((h5 l hl).blk hq).2 (Or.inr (h12 l hl q hq))]; exact h12 l hl q hq⟩
theorem GsOk.off (h : GsOk w B τ gs) (o : Off P w w') (hP : ∀ q, q < w.heap.size → P q → τ q ≠ 2 ∧ τ q ≠ 3) (ht : ∀ q, q < w.heap.size → τ q = 2 ∨ τ q = 3 → τ' q = τ q) : GsOk w' B τ' gs := fun i g hg => ⟨(h i g hg).1.off o hP ht, (h i g hg).2⟩
theorem GOne.lt (h : GOne w B τ g) {q : Nat} (hq : ob g.1 = some q) : q < w.heap.size := by
  obtain ⟨ls, ls', h1, h2, _⟩ := h
  exact (ERow.lt h2 hq).2
theorem GsOk.snoc (h : GsOk w B τ gs) (hg : GOne w B τ g) (hn : ∀ x ∈ gs, ∀ q, ob g.1 = some q → ob x.1 ≠ some q) : GsOk w B τ (gs ++ [g]) := fun i x hx => by
  rcases snoc_get hx with hy | ⟨rfl, rfl⟩
  · refine ⟨(h i x hy).1, fun j y hj hyj => ?_⟩
    have := (List.getElem?_eq_some_iff.1 hy).1
    rw [List.getElem?_append_left (by omega)] at hyj
    exact (h i x hy).2 j y hj hyj
  · refine ⟨hg, fun j y hj hyj => ?_⟩
    rw [List.getElem?_append_left hj] at hyj
    exact hn y (List.mem_of_getElem? hyj)
end
/-- Both boxes, their blocks of part 4. -/
def S4 (w : World) (B X : Nat) (bv mk ke rm L : Value) (A A' : List Ent) (τ : Nat → Nat) : Option (Int × Int) → Prop
  | none => bv = .pointer none ∧ mk = .bool false ∧ ke = .int .i64 0 ∧ rm = .int .i64 0 ∧ L = .slice none 0 0 ∧ A = [] ∧ A' = []
  | some (K, R) => mk = .bool true ∧ ke = .int .i64 K ∧ rm = .int .i64 R ∧ ∃ b sb M v es es', bv = .pointer (some ⟨b, 0, none⟩) ∧ Sm w B 0 0 0 X b sb M v L K R es A es' A' ∧ ∀ q, (q = b ∨ Ft sb M v q ∨ (∃ e ∈ es, Blk e q) ∨ L.ownBlock = some q ∨ ∃ e ∈ es', Blk e q) → τ q = 4
section
variable {w w' : World} {B X : Nat} {bv mk ke rm L : Value} {A A' : List Ent} {o : Option (Int × Int)} {τ τ' : Nat → Nat} {P : Nat → Prop}
theorem S4.sd (h : S4 w B X bv mk ke rm L A A' τ o) : Sd w B 0 0 0 X bv mk ke rm L A A' o := by
  rcases o with _ | ⟨K, R⟩
  · exact h
  · obtain ⟨e1, e2, e3, b, sb, M, v, es, es', e4, hs, _⟩ := h
    exact ⟨e1, e2, e3, b, sb, M, v, es, es', e4, hs⟩
theorem S4.off (h : S4 w B X bv mk ke rm L A A' τ o) (ho : Off P w w') (hP : ∀ q, q < w.heap.size → P q → τ q ≠ 4) (ht : ∀ q, q < w.heap.size → τ q = 4 → τ' q = 4) : S4 w' B X bv mk ke rm L A A' τ' o := by
  rcases o with _ | ⟨K, R⟩
  · exact h
  · obtain ⟨e1, e2, e3, b, sb, M, v, es, es', e4, hs, hf⟩ := h
    have hlt : ∀ q, (q = b ∨ Ft sb M v q ∨ (∃ e ∈ es, Blk e q) ∨ L.ownBlock = some q ∨ ∃ e ∈ es', Blk e q) → q < w.heap.size := fun q hq => by
      rcases hq with g | g | g | g | ⟨e, he, g⟩
      · exact hs.plt (Or.inl g)
      · exact hs.plt (Or.inr (Or.inl g))
      · exact hs.plt (Or.inr (Or.inr g))
      · exact (ERow.lt hs.row g).2
      · exact ((hs.own e he).blk g).2
    have np : ∀ q, (q = b ∨ Ft sb M v q ∨ (∃ e ∈ es, Blk e q) ∨ L.ownBlock = some q ∨ ∃ e ∈ es', Blk e q) → ¬ P q := fun q hq hp => hP q (hlt q hq) hp (hf q hq)
    exact ⟨e1, e2, e3, b, sb, M, v, es, es', e4, ⟨⟨(ho.block b hs.bx.lt (np b (Or.inl rfl))).trans hs.bx.blk, hs.bx.sh.off ho fun q hq => np q (Or.inr (Or.inl hq)), fun e he => (hs.bx.own e he).offB ho fun q hq => np q (Or.inr (Or.inr (Or.inl ⟨e, he, hq⟩))), hs.bx.lb, hs.bx.ls, hs.bx.lm, hs.bx.inv⟩, hs.t, ERow.off hs.row ho fun g hg => np g (Or.inr (Or.inr (Or.inr (Or.inl hg)))), fun e he => (hs.own e he).offB ho fun q hq => np q (Or.inr (Or.inr (Or.inr (Or.inr ⟨e, he, hq⟩)))), hs.t', hs.inv, hs.ap, hs.hp, hs.hd⟩, fun q hq => ht q (hlt q hq) (hf q hq)⟩
/-- What the boxes are of is of no type of the pair's and the book's. -/
theorem S4.start (h : Sd w B 0 0 0 X bv mk ke rm L A A' o) : ∃ F : Nat → Prop, (∀ q, F q → B ≤ q ∧ q < w.heap.size ∧ ∀ cs t, w.heap[q]? = some (.cells cs t (0, 0)) → ¬ LTy t) ∧ ∀ τ : Nat → Nat, (∀ q, F q → τ q = 4) → S4 w B X bv mk ke rm L A A' τ o := by
  rcases o with _ | ⟨K, R⟩
  · exact ⟨fun _ => False, fun _ h => h.elim, fun _ _ => h⟩
  · obtain ⟨e1, e2, e3, b, sb, M, v, es, es', e4, hs⟩ := h
    have nT : ∀ {q : Nat} {cs : Array Value} {s : TypeId}, (∀ t, LTy t → s ≠ t) → w.heap[q]? = some (.cells cs s (0, 0)) → ∀ cs' t, w.heap[q]? = some (.cells cs' t (0, 0)) → ¬ LTy t := fun {q cs s} hn hc cs' t hc' ht => by
      rw [hc] at hc'
      simp only [Option.some.injEq, Obj.cells.injEq] at hc'
      exact hn t ht hc'.2.1
    have hE : ∀ e : Ent, Own w B e → ∀ q, Blk e q → B ≤ q ∧ q < w.heap.size ∧ ∀ cs t, w.heap[q]? = some (.cells cs t (0, 0)) → ¬ LTy t := fun e he q hq => by
      refine ⟨(he.blk hq).1, (he.blk hq).2, ?_⟩
      have : ∃ cs, w.heap[q]? = some (.cells cs 5 (0, 0)) := by
        rcases hq with g | g | g
        · exact erow_type he.t g
        · exact erow_type he.c g
        · exact erow_type he.a g
      obtain ⟨cs, hc⟩ := this
      exact nT (fun t ht => ht.no (by decide) (by decide) (by decide) (by decide) (by decide)) hc
    refine ⟨fun q => q = b ∨ Ft sb M v q ∨ (∃ e ∈ es, Blk e q) ∨ L.ownBlock = some q ∨ ∃ e ∈ es', Blk e q, fun q hq => ?_, fun τ hτ => ⟨e1, e2, e3, b, sb, M, v, es, es', e4, hs, hτ⟩⟩
    rcases hq with rfl | g | ⟨e, he, g⟩ | g | ⟨e, he, g⟩
    · exact ⟨hs.bx.lb, hs.bx.lt, nT (fun t ht => ht.no (by decide) (by decide) (by decide) (by decide) (by decide)) hs.bx.blk⟩
    · refine ⟨hs.bx.ft g, hs.bx.ftlt g, fun cs t hc ht => ?_⟩
      exact hs.bx.sh.notType (ht.no (by decide) (by decide) (by decide) (by decide) (by decide)) (ht.no (by decide) (by decide) (by decide) (by decide) (by decide)) hc g
    · exact hE e (hs.bx.own e he) q g
    · obtain ⟨cs, hc⟩ := row_type hs.row g
      exact ⟨(ERow.lt hs.row g).1, (ERow.lt hs.row g).2, nT (fun t ht => ht.no (by decide) (by decide) (by decide) (by decide) (by decide)) hc⟩
    · exact hE e (hs.own e he) q g
end
/-- The pair at X, its book at K. -/
structure SS (W : World) (X K : Nat) (bv mk ke rm L : Value) (o : Option (Int × Int)) (A A' : List Ent) (τ : Nat → Nat) (n m : Nat) (w : World) : Prop where
  ex : ∃ v6 v7 gs ρ σ es ts, w.heap[X]? = some (.cells #[bv, mk, ke, rm, L, .pointer (some ⟨K, 0, none⟩), v6, v7] 55 (0, 0)) ∧ Bt.Bks w W.heap.size K ρ σ es ts ∧ (BkB es ∧ es.length ≤ n) ∧ (BkT ts ∧ ts.length ≤ m) ∧ RoB ρ τ ∧ RoB σ τ ∧
    (ERow w W.heap.size 22 1 encSl v6 (gs.map Prod.fst) ∧ ERow w W.heap.size 22 1 encSl v7 (gs.map Prod.snd) ∧ (∀ q, v6.ownBlock = some q → v7.ownBlock ≠ some q) ∧ (∀ q, v6.ownBlock = some q ∨ v7.ownBlock = some q → τ q = 5) ∧ gs.length ≤ m) ∧ GsOk w W.heap.size τ gs
  tX : τ X = 5
  new : ∀ q, w.heap.size ≤ q → τ q = 0
  old : ∀ q, τ q ≠ 0 → W.heap.size ≤ q
  s4 : S4 w W.heap.size X bv mk ke rm L A A' τ o
  bel : Below W.heap.size W w
  lX : W.heap.size ≤ X
section
variable {W w w' : World} {X K n m : Nat} {bv mk ke rm L : Value} {o : Option (Int × Int)} {A A' : List Ent} {τ τ' : Nat → Nat} {P : Nat → Prop}
theorem SS.cells (h : SS W X K bv mk ke rm L o A A' τ n m w) : w.cell? ⟨X, 0, none⟩ = some bv ∧ w.cell? ⟨X, 1, none⟩ = some mk ∧ w.cell? ⟨X, 4, none⟩ = some L ∧ w.cell? ⟨X, 5, none⟩ = some (.pointer (some ⟨K, 0, none⟩)) ∧ X < w.heap.size := by
  obtain ⟨v6, v7, gs, ρ, σ, es, ts, hX, _⟩ := h.ex
  exact ⟨hcell hX 0, hcell hX 1, hcell hX 4, hcell hX 5, blk_lt hX⟩
/-- What touches none of its parts keeps it. -/
theorem SS.off (h : SS W X K bv mk ke rm L o A A' τ n m w) (ho : Off P w w') (hP : ∀ q, q < w.heap.size → P q → τ q = 0) (hB : ∀ q, P q → W.heap.size ≤ q) : SS W X K bv mk ke rm L o A A' τ n m w' := by
  obtain ⟨v6, v7, gs, ρ, σ, es, ts, hX, hb, h1, h2, h3, h4, ⟨g1, g2, g3, g4, g5⟩, h5⟩ := h.ex
  have nP : ∀ {q}, q < w.heap.size → τ q ≠ 0 → ¬ P q := fun {q} hl ht hp => ht (hP q hl hp)
  have hz : ∀ q, τ q = 0 → ρ q = 0 ∧ σ q = 0 := fun q hq => ⟨by rcases Nat.eq_zero_or_pos (ρ q) with g | g; exact g; have := (h3 q).2 (by omega); omega, by rcases Nat.eq_zero_or_pos (σ q) with g | g; exact g; have := (h4 q).2 (by omega); omega⟩
  obtain ⟨vb, vw, vt, vu, b1, b2⟩ := hb.ex
  refine ⟨⟨v6, v7, gs, ρ, σ, es, ts, (ho.block X (blk_lt hX) (nP (blk_lt hX) (by rw [h.tX]; decide))).trans hX, ?_, h1, h2, h3, h4, ⟨ERow.off g1 ho fun q hq => nP (ERow.lt g1 hq).2 (by rw [g4 q (Or.inl hq)]; decide), ERow.off g2 ho fun q hq => nP (ERow.lt g2 hq).2 (by rw [g4 q (Or.inr hq)]; decide), g3, g4, g5⟩, h5.off ho (fun q hl hp => by rw [hP q hl hp]; decide) fun _ _ _ => rfl⟩, h.tX, fun q hq => h.new q (Nat.le_trans ho.size hq), h.old, h.s4.off ho (fun q hl hp => by rw [hP q hl hp]; decide) fun _ _ e => e, h.bel.trans (ho.below h.bel.size hB), h.lX⟩
  have o2 : Off (fun q => P q ∧ q < w.heap.size) w w' := ⟨ho.os, ho.tape, ho.output, ho.size, fun q hq hp => ho.block q hq fun p => hp ⟨p, hq⟩⟩
  exact hb.off (to_bt o2) fun q hq => hz q (hP q hq.2 hq.1)
theorem SS.below (h : SS W X K bv mk ke rm L o A A' τ n m w) (hb : Below w.heap.size w w') : SS W X K bv mk ke rm L o A A' τ n m w' := h.off (Off.of_below (P := fun _ => False) hb) (fun _ _ p => p.elim) fun _ p => p.elim
theorem SS.mono {n' m' : Nat} (h : SS W X K bv mk ke rm L o A A' τ n m w) (hn : n ≤ n') (hm : m ≤ m') : SS W X K bv mk ke rm L o A A' τ n' m' w := by
  obtain ⟨v6, v7, gs, ρ, σ, es, ts, hX, hb, h1, h2, h3, h4, ⟨g1, g2, g3, g4, g5⟩, h5⟩ := h.ex
  exact ⟨⟨v6, v7, gs, ρ, σ, es, ts, hX, hb, ⟨h1.1, by omega⟩, ⟨h2.1, by omega⟩, h3, h4, ⟨g1, g2, g3, g4, by omega⟩, h5⟩, h.tX, h.new, h.old, h.s4, h.bel, h.lX⟩
/-- What a taking leaves: only parts 1 and 5 are touched; what was taken is of part 2 or 3. -/
structure TkQ (τ τ' : Nat → Nat) (w w' : World) (P : Nat → Prop) : Prop where
  off : Off (fun q => τ q = 1 ∨ τ q = 5) w w'
  keep : ∀ q, q < w.heap.size → ¬ P q → τ' q = τ q
  got : ∀ q, q < w.heap.size → P q → τ' q = 2 ∨ τ' q = 3
theorem TkQ.refl (τ : Nat → Nat) (w : World) : TkQ τ τ w w (fun _ => False) := ⟨Off.refl _ _, fun _ _ _ => rfl, fun _ _ p => p.elim⟩
theorem TkQ.below {w'' : World} (h : TkQ τ τ' w w' P) (hb : Below w'.heap.size w' w'') : TkQ τ τ' w w'' P := ⟨h.off.trans (Off.of_below hb), h.keep, h.got⟩
theorem TkQ.trans {τ'' : Nat → Nat} {w'' : World} {Q R : Nat → Prop} (h : TkQ τ τ' w w' P) (k : TkQ τ' τ'' w' w'' Q) (h1 : ∀ q, R q → P q ∨ Q q) (h2 : ∀ q, P q ∨ Q q → R q) : TkQ τ τ'' w w'' R := by
  have hs := h.off.size
  refine ⟨h.off.join k.off fun q hq e => ?_, fun q hq hR => ?_, fun q hq hR => ?_⟩
  · rcases Classical.em (P q) with p | p
    · have := h.got q hq p; omega
    · rw [← h.keep q hq p]; exact e
  · rw [k.keep q (by omega) fun p => hR (h2 q (Or.inr p)), h.keep q hq fun p => hR (h2 q (Or.inl p))]
  · rcases Classical.em (Q q) with p | p
    · exact k.got q (by omega) p
    · rw [k.keep q (by omega) p]
      rcases h1 q hR with r | r
      · exact h.got q hq r
      · exact absurd r p
end
end Go.Proofs.YtjbkfppibnlmoaaGreatDoor
