import Derived.Test.YtjbkfppibnlmoaaDoorLgMap
import Derived.Test.YtjbkfppibnlmoaaDoorIbDcd
import Derived.Test.YtjbkfppibnlmoaaDoorIbOff
import Derived.Deep.DeepCutAuto
import Derived.Test.YtjbkfppibnlmoaaDoorIbRe
/-
  The document's box: Accept, walked.
-/
namespace Go.Proofs.YtjbkfppibnlmoaaDoor
open Go.RowKit

theorem accC_may {R : Int} {es : List Ent} {e : Ent} (h : mayB e = false) : accC R es e = 300 := by
  unfold accC
  split
  · rfl
  · unfold refS; rw [h]; rfl
theorem accC_dc {R : Int} {es : List Ent} {e : Ent} (h : e.cd.toList.isEmpty = false) : accC R es e = 300 := by
  unfold accC
  rw [if_pos (by unfold dcB; rw [h]; rfl)]
theorem accC_bf {R : Int} {es : List Ent} {e : Ent} (hb : decide (e.tk < lastT es) = true) : accC R es e = 300 := by
  unfold accC
  split
  · rfl
  · unfold refS; rw [hb, Bool.or_true]; rfl
theorem accC_op {R : Int} {es : List Ent} {e : Ent} (hm : mayB e = true) (hd : e.cd.toList.isEmpty = true) (hb : decide (e.tk < lastT es) = false) : accC R es e = if (fi e.ct es).isSome = true then 6 else if (nOp es : Int) = R then 7 else 0 := by
  unfold accC
  rw [if_neg (by unfold dcB; rw [hd]; decide)]
  unfold refS opB
  rw [hm, hb, hd]
  by_cases h : (nOp es : Int) = R <;> simp [h]
section
variable {w w' : World} {B X : Nat} {v : Value} {K R : Int} {es : List Ent}
end
end Go.Proofs.YtjbkfppibnlmoaaDoor

/-
  The document's box: Find.
-/
namespace Go.Proofs.YtjbkfppibnlmoaaDoor
open Go.RowKit

section
variable {w w' : World} {B X : Nat} {v : Value} {K R : Int} {es : List Ent}
end
end Go.Proofs.YtjbkfppibnlmoaaDoor

/-
  The document's box: Decide, refused.
-/
namespace Go.Proofs.YtjbkfppibnlmoaaDoor
open Go.RowKit

section
variable {w w' : World} {B X : Nat} {v : Value} {K R : Int} {es : List Ent}
end
end Go.Proofs.YtjbkfppibnlmoaaDoor

/-
  The document's box: an entry's verdict written down in its place.
-/
namespace Go.Proofs.YtjbkfppibnlmoaaDoor
open Go.RowKit

theorem flat_cd (cd : ByteArray) : ∀ (es : List Ent) (i : Nat) (x : Ent), es[i]? = some x → setAll (es.flatMap encE) (i * 7 + 5) [.string cd] = (es.set i { x with cd := cd }).flatMap encE
  | [], i, x, h => by simp at h
  | y :: r, 0, x, h => by
    simp only [List.getElem?_cons_zero, Option.some.injEq] at h
    subst h
    rw [List.flatMap_cons, List.set_cons_zero, List.flatMap_cons]
    simp [encE, setAll]
  | y :: r, i + 1, x, h => by
    rw [List.getElem?_cons_succ] at h
    rw [List.flatMap_cons, List.set_cons_succ, List.flatMap_cons, show (i + 1) * 7 + 5 = (encE y).length + (i * 7 + 5) by rw [encE_len]; omega, setAll_app, flat_cd cd r i x h]
theorem flat_an (p : Option Addr) (n c : Nat) (bs : List Int) : ∀ (es : List Ent) (i : Nat) (x : Ent), es[i]? = some x → setAll (es.flatMap encE) (i * 7 + 6) [.slice p n c] = (es.set i { x with ap := p, an := n, ac := c, ax := bs }).flatMap encE
  | [], i, x, h => by simp at h
  | y :: r, 0, x, h => by
    simp only [List.getElem?_cons_zero, Option.some.injEq] at h
    subst h
    rw [List.flatMap_cons, List.set_cons_zero, List.flatMap_cons]
    simp [encE, setAll]
  | y :: r, i + 1, x, h => by
    rw [List.getElem?_cons_succ] at h
    rw [List.flatMap_cons, List.set_cons_succ, List.flatMap_cons, show (i + 1) * 7 + 6 = (encE y).length + (i * 7 + 6) by rw [encE_len]; omega, setAll_app, flat_an p n c bs r i x h]
section
variable {w : World} {B g k c i : Nat} {es : List Ent} {x : Ent}
theorem row_cd (h : NRow w B (.slice (some ⟨g, 0, none⟩) k c) es) (hx : es[i]? = some x) (cd : ByteArray) : NRow (w.setCell ⟨g, i * 7 + 5, none⟩ (.string cd)) B (.slice (some ⟨g, 0, none⟩) k c) (es.set i { x with cd := cd }) := by
  have hk : k = es.length := ERow.len h
  subst hk
  have := own_setCells [.string cd] (i * 7 + 5) w _ h
  unfold NRow ERow
  rw [← flat_cd cd es i x hx, List.length_set]
  exact this
theorem row_an (h : NRow w B (.slice (some ⟨g, 0, none⟩) k c) es) (hx : es[i]? = some x) (p : Option Addr) (n c2 : Nat) (bs : List Int) : NRow (w.setCell ⟨g, i * 7 + 6, none⟩ (.slice p n c2)) B (.slice (some ⟨g, 0, none⟩) k c) (es.set i { x with ap := p, an := n, ac := c2, ax := bs }) := by
  have hk : k = es.length := ERow.len h
  subst hk
  have := own_setCells [.slice p n c2] (i * 7 + 6) w _ h
  unfold NRow ERow
  rw [← flat_an p n c2 bs es i x hx, List.length_set]
  exact this
end
end Go.Proofs.YtjbkfppibnlmoaaDoor

/-
  The document's box: Decide, none goes.
-/
namespace Go.Proofs.YtjbkfppibnlmoaaDoor
open Go.RowKit

section
variable {w w' : World} {B X : Nat} {v : Value} {K R : Int} {es : List Ent}
end
end Go.Proofs.YtjbkfppibnlmoaaDoor

/-
  The document's box: Decide, one goes.
-/
namespace Go.Proofs.YtjbkfppibnlmoaaDoor
open Go.RowKit

theorem take_lt {es : List Ent} {k f : Nat} {e : Ent} (he : es[k]? = some e) (h : f < k) : (es.take (k + 1)).eraseIdx f = (es.take k).eraseIdx f ++ [e] := by
  have hk := (List.getElem?_eq_some_iff.1 he).1
  rw [take_one he, List.eraseIdx_append_of_lt_length (by rw [List.length_take]; omega)]
theorem take_at {es : List Ent} {f : Nat} {e : Ent} (he : es[f]? = some e) : (es.take (f + 1)).eraseIdx f = es.take f := by
  have hk := (List.getElem?_eq_some_iff.1 he).1
  rw [take_one he]
  have : (es.take f).length = f := by rw [List.length_take]; omega
  rw [List.eraseIdx_append_of_length_le (by omega), this, Nat.sub_self]
  simp
/-- What is kept and who has gone, so far. -/
def rsK (es : List Ent) (f k : Nat) : List Ent := if k ≤ f then es.take k else (es.take k).eraseIdx f
def gnK (ct : ByteArray) (f k : Nat) : List ByteArray := if k ≤ f then [] else [ct]
theorem rsK_len (es : List Ent) (f k : Nat) : (rsK es f k).length ≤ es.length := by
  unfold rsK
  split
  · rw [List.length_take]; omega
  · exact Nat.le_trans (List.length_eraseIdx_le _ _) (by rw [List.length_take]; omega)
/-- The document's box in memory, whatever it holds. -/
structure RB0 (w : World) (B X : Nat) (v : Value) (K R : Int) (es : List Ent) : Prop where
  lt : X < w.heap.size
  c1 : w.cell? ⟨X, 1, none⟩ = some (.bool true)
  c2 : w.cell? ⟨X, 2, none⟩ = some (.int .i64 K)
  c3 : w.cell? ⟨X, 3, none⟩ = some (.int .i64 R)
  c4 : w.cell? ⟨X, 4, none⟩ = some v
  fz : w.frozen? ⟨X, 4, none⟩ = false
  row : NRow w B v es
  own : ∀ e ∈ es, Own w B e
theorem RB0.below {w w' : World} {B X : Nat} {v : Value} {K R : Int} {es : List Ent} (h : RB0 w B X v K R es) (hb : Below w.heap.size w w') : RB0 w' B X v K R es := by
  have e : ∀ o, w'.cell? ⟨X, o, none⟩ = w.cell? ⟨X, o, none⟩ := fun o => hb.cell (p := ⟨X, o, none⟩) h.lt
  exact ⟨Nat.lt_of_lt_of_le h.lt hb.size, by rw [e]; exact h.c1, by rw [e]; exact h.c2, by rw [e]; exact h.c3, by rw [e]; exact h.c4, by rw [hb.frozen (p := ⟨X, 4, none⟩) h.lt]; exact h.fz, ERow.below h.row hb, fun x hx => (h.own x hx).below hb⟩
def RB0Q (w : World) (B X : Nat) (v : Value) (K R : Int) (es' : List Ent) (w' : World) : Prop :=
  RB0 w' B X v K R es' ∧ Off (fun q => v.ownBlock = some q) w w'
section
variable {w w' : World} {B X : Nat} {v : Value} {K R : Int} {es : List Ent}
end
end Go.Proofs.YtjbkfppibnlmoaaDoor

/-
  Both boxes side by side: the program's at A, the document's at A'.
-/
namespace Go.Proofs.YtjbkfppibnlmoaaDoor
open Go.RowKit

/-! ### what a call leaves, whatever it answers -/
def accS (R : Int) (A : List Ent) (e : Ent) : List Ent := if accC R A e = 0 then A ++ [e] else A
def dcS (K : Int) (A : List Ent) (s cd : ByteArray) (n : Nat) (bs : List Int) : List Ent := if decC A s cd n = 0 then (match fi s A with | some i => shedS K (A.set i ((A.getD i zE).vd cd none n 0 bs)) | none => A) else A
def gnS (K : Int) (A : List Ent) (s cd : ByteArray) (n : Nat) (bs : List Int) : List ByteArray := if decC A s cd n = 0 then (match fi s A with | some i => goneS K (A.set i ((A.getD i zE).vd cd none n 0 bs)) | none => []) else []
theorem Tws.at_ {es A : List Ent} (h : Tws es A) {i : Nat} {x : Ent} (hx : es[i]? = some x) : ∃ y, A[i]? = some y ∧ Tw x y := by
  have hi := (List.getElem?_eq_some_iff.1 hx).1
  have hj : i < A.length := by rw [← h.1]; exact hi
  exact ⟨A[i], List.getElem?_eq_getElem hj, h.2 i x _ hx (List.getElem?_eq_getElem hj)⟩
theorem Tw.vd {x y : Ent} (h : Tw x y) (cd : ByteArray) (p : Option Addr) (n c : Nat) (bs : List Int) (p' : Option Addr) (c' : Nat) : Tw (x.vd cd p n c bs) (y.vd cd p' n c' bs) := by
  obtain ⟨a, d, a', d', a'', d'', rfl⟩ := h
  exact ⟨a, d, a', d', p', c', rfl⟩
/-- The blocks of an entry's lists. -/
def Blk (e : Ent) (q : Nat) : Prop := (Value.slice e.tp e.tn e.tc).ownBlock = some q ∨ (Value.slice e.cp e.cn e.cc).ownBlock = some q ∨ (Value.slice e.ap e.an e.ac).ownBlock = some q
section
variable {w w' : World} {B : Nat} {e : Ent} {P : Nat → Prop}
theorem Own.blk (h : Own w B e) {q : Nat} (hq : Blk e q) : B ≤ q ∧ q < w.heap.size := by
  rcases hq with g | g | g
  · exact ERow.lt h.t g
  · exact ERow.lt h.c g
  · exact ERow.lt h.a g
theorem Own.offB (h : Own w B e) (o : Off P w w') (hP : ∀ q, Blk e q → ¬ P q) : Own w' B e :=
  ⟨ERow.off h.t o fun g hg => hP g (Or.inl hg), ERow.off h.c o fun g hg => hP g (Or.inr (Or.inl hg)), ERow.off h.a o fun g hg => hP g (Or.inr (Or.inr hg))⟩
end
/-- Both boxes; what they are of lies out of C to D (the program's), C to E (the document's, X with it). -/
structure Sm (w : World) (B C D E X b sb M : Nat) (v L : Value) (K R : Int) (es A es' A' : List Ent) : Prop where
  bx : Bx w B b sb M v K R es
  t : Tws es A
  row : NRow w B L es'
  own : ∀ e ∈ es', Own w B e
  t' : Tws es' A'
  inv : Inv K R es'
  ap : ∀ q, v.ownBlock = some q → L.ownBlock ≠ some q
  hp : ∀ q, (q = b ∨ Ft sb M v q ∨ ∃ e ∈ es, Blk e q) → q < C ∨ D ≤ q
  hd : ∀ q, (q = X ∨ L.ownBlock = some q ∨ ∃ e ∈ es', Blk e q) → q < C ∨ E ≤ q
theorem Bx.ftlt {w : World} {B b sb M : Nat} {v : Value} {K R : Int} {es : List Ent} (h : Bx w B b sb M v K R es) {q : Nat} (hq : Ft sb M v q) : q < w.heap.size := by
  rcases hq with rfl | rfl | hg
  · exact h.sh.lt
  · obtain ⟨es', clock, hm⟩ := h.sh.map.isMap
    exact blk_lt hm
  · exact (h.sh.row.lt hg).2
section
variable {w w' : World} {B C D E X b sb M : Nat} {v L : Value} {K R : Int} {es A es' A' es1 A1 : List Ent}
theorem Sm.below (h : Sm w B C D E X b sb M v L K R es A es' A') (hb : Below w.heap.size w w') : Sm w' B C D E X b sb M v L K R es A es' A' :=
  ⟨h.bx.below hb, h.t, ERow.below h.row hb, fun e he => (h.own e he).below hb, h.t', h.inv, h.ap, h.hp, h.hd⟩
theorem Sm.free (h : Sm w B C D E X b sb M v L K R es A es' A') : Sm w B 0 0 0 X b sb M v L K R es A es' A' :=
  ⟨h.bx, h.t, h.row, h.own, h.t', h.inv, h.ap, fun _ _ => Or.inr (Nat.zero_le _), fun _ _ => Or.inr (Nat.zero_le _)⟩
theorem Sm.plt (h : Sm w B C D E X b sb M v L K R es A es' A') {q : Nat} (hq : q = b ∨ Ft sb M v q ∨ ∃ e ∈ es, Blk e q) : q < w.heap.size := by
  rcases hq with rfl | g | ⟨e, he, g⟩
  · exact h.bx.lt
  · exact h.bx.ftlt g
  · exact ((h.bx.own e he).blk g).2
theorem Sm.dlt (h : Sm w B C D E X b sb M v L K R es A es' A') (hX : X < w.heap.size) {q : Nat} (hq : q = X ∨ L.ownBlock = some q ∨ ∃ e ∈ es', Blk e q) : q < w.heap.size := by
  rcases hq with rfl | g | ⟨e, he, g⟩
  · exact hX
  · exact (ERow.lt h.row g).2
  · exact ((h.own e he).blk g).2
/-- Nothing of them lies in what is new. -/
theorem Sm.hole (h : Sm w B C D E X b sb M v L K R es A es' A') (hX : X < w.heap.size) (hb : Below w.heap.size w w') (d e : Nat) : Sm w' B w.heap.size d e X b sb M v L K R es A es' A' :=
  ⟨h.bx.below hb, h.t, ERow.below h.row hb, fun e he => (h.own e he).below hb, h.t', h.inv, h.ap, fun _ hq => Or.inl (h.plt hq), fun _ hq => Or.inl (h.dlt hX hq)⟩
theorem Sm.notF (h : Sm w B C D E X b sb M v L K R es A es' A') {g : Nat} (hg : L.ownBlock = some g) : ¬ Ft sb M v g := by
  rintro (rfl | rfl | hf)
  · obtain ⟨cs, hc⟩ := row_type h.row hg
    rw [h.bx.sh.blk] at hc
    simp only [Option.some.injEq, Obj.cells.injEq] at hc
    exact absurd hc.2.1 (by decide)
  · obtain ⟨cs, hc⟩ := row_type h.row hg
    obtain ⟨es', clock, hm⟩ := h.bx.sh.map.isMap
    rw [hm] at hc
    simp at hc
  · exact h.ap g hf hg
/-- The program's call. -/
theorem Sm.up (h : Sm w B C D E X b sb M v L K R es A es' A') (hX : X < w.heap.size) (hD : D ≤ w.heap.size) (hE : E = w.heap.size) (hq : BxQ w B b sb M v K R es1 w') (ht : Tws es1 A1) (hn : ∀ e ∈ es1, ∀ q, Blk e q → (∃ e0 ∈ es, Blk e0 q) ∨ w.heap.size ≤ q) : ∃ v', Sm w' B C D w'.heap.size X b sb M v' L K R es1 A1 es' A' ∧ Off (Ft sb M v) w w' := by
  obtain ⟨v', h1, h2, h3⟩ := hq
  refine ⟨v', ⟨h1, ht, ERow.off h.row h2 fun g hg => h.notF hg, fun e he => (h.own e he).byType h2 h.bx.sh.notBytes, h.t', h.inv, fun q hq hq' => ?_, fun q hq => ?_, fun q hq => ?_⟩, h2⟩
  · rcases h3 q hq with g | g
    · exact h.ap q g hq'
    · have := (ERow.lt h.row hq').2; omega
  · rcases hq with g | g | ⟨e, he, g⟩
    · exact h.hp q (Or.inl g)
    · rcases g with g | g | g
      · exact h.hp q (Or.inr (Or.inl (Or.inl g)))
      · exact h.hp q (Or.inr (Or.inl (Or.inr (Or.inl g))))
      · rcases h3 q g with g2 | g2
        · exact h.hp q (Or.inr (Or.inl (Or.inr (Or.inr g2))))
        · exact Or.inr (by omega)
    · rcases hn e he q g with g2 | g2
      · exact h.hp q (Or.inr (Or.inr g2))
      · exact Or.inr (by omega)
  · have := h.dlt hX hq
    rcases h.hd q hq with g | g
    · exact Or.inl g
    · omega
theorem Sm.rbx (h : Sm w B C D E X b sb M v L K R es A es' A') {v0 v5 v6 v7 : Value} (hX : w.heap[X]? = some (.cells #[v0, .bool true, .int .i64 K, .int .i64 R, L, v5, v6, v7] 52 (0, 0))) : RBx w B X L K R es' :=
  ⟨blk_lt hX, hcell hX 1, hcell hX 2, hcell hX 3, hcell hX 4, hfroz hX 4, h.row, h.own, h.inv⟩
/-- The document's call. -/
theorem Sm.dn (h : Sm w B C D E X b sb M v L K R es A es' A') {v0 v5 v6 v7 : Value} (hX : w.heap[X]? = some (.cells #[v0, .bool true, .int .i64 K, .int .i64 R, L, v5, v6, v7] 52 (0, 0))) (hE : E ≤ w.heap.size) (hq : RBQ w B X L K R es1 w') (ht : Tws es1 A1) (hn : ∀ e ∈ es1, ∀ q, Blk e q → (∃ e0 ∈ es', Blk e0 q) ∨ w.heap.size ≤ q) : ∃ L', Sm w' B C D E X b sb M v L' K R es A es1 A1 ∧ w'.heap[X]? = some (.cells #[v0, .bool true, .int .i64 K, .int .i64 R, L', v5, v6, v7] 52 (0, 0)) ∧ Off (fun q => q = X ∨ L.ownBlock = some q) w w' := by
  obtain ⟨L', h1, h2, h3, h4⟩ := hq
  have nb : ¬ (b = X ∨ L.ownBlock = some b) := by
    rintro (g | g)
    · have := h.bx.blk
      rw [g, hX] at this
      simp at this
    · obtain ⟨cs, hc⟩ := row_type h.row g
      rw [h.bx.blk] at hc
      simp at hc
  have nF : ∀ q, Ft sb M v q → ¬ (q = X ∨ L.ownBlock = some q) := fun q hq => by
    rintro (g | g)
    · exact h.bx.sh.notType (by decide) (by decide) hX (g ▸ hq)
    · exact h.notF g hq
  have nB : ∀ q cs, w.heap[q]? = some (.cells cs 5 (0, 0)) → ¬ (q = X ∨ L.ownBlock = some q) := fun q cs hc => by
    rintro (g | g)
    · rw [g, hX] at hc
      simp at hc
    · obtain ⟨cs', hc'⟩ := row_type h.row g
      rw [hc] at hc'
      simp at hc'
  refine ⟨L', ⟨h.bx.off h2 nb nF nB, h.t, h1.row, h1.own, ht, h1.inv, fun q hq hq' => ?_, h.hp, fun q hq => ?_⟩, ?_, h2⟩
  · rcases h3 q hq' with g | g
    · exact h.ap q hq g
    · have := h.bx.ftlt (Or.inr (Or.inr hq)); omega
  · rcases hq with g | g | ⟨e, he, g⟩
    · exact h.hd q (Or.inl g)
    · rcases h3 q g with g2 | g2
      · exact h.hd q (Or.inr (Or.inl g2))
      · exact Or.inr (by omega)
    · rcases hn e he q g with g2 | g2
      · exact h.hd q (Or.inr (Or.inr g2))
      · exact Or.inr (by omega)
  · obtain ⟨u, hu⟩ := h4 _ _ hX
    have hc := hcell hu 4
    rw [h1.c4] at hc
    have e1 : u = L' := by simpa using hc.symm
    rw [hu, e1]
    simp
end
end Go.Proofs.YtjbkfppibnlmoaaDoor
