import Derived.Test.YtigmgbnfiiobeaaDoorOxTake
import Derived.Test.YtigmgbnfiiobeaaDoorDcApp
/-
  do: acts done to a message of the box.
-/
namespace Go.Proofs.YtigmgbnfiiobeaaDoor
open Go.RowKit

theorem encD_len (d : Deed) : (encD d).length = 3 := rfl
theorem celD : Cel Tryd.prog 59 3 40 := cel_of (by kernel_rfl)
theorem made_flat {α : Type} {enc : α → List Value} {k : Nat} (hk : ∀ x, (enc x).length = k) (h0 : 0 < k) (x : α) (n : Nat) : (madeCells (enc x).toArray (n * k)).toList = (List.replicate n x).flatMap enc := by
  apply List.ext_getElem?
  intro j
  by_cases hj : j < n * k
  · have hm : j % k < k := Nat.mod_lt _ h0
    have hd : j / k < n := Nat.div_lt_of_lt_mul (by rw [Nat.mul_comm]; exact hj)
    have := flat_get hk (List.replicate n x) (j / k) x (j % k) (by rw [List.getElem?_replicate, if_pos hd]) hm
    rw [show j / k * k + j % k = j by rw [Nat.mul_comm]; exact Nat.div_add_mod j k] at this
    rw [this]
    have hl : j % k < (enc x).length := by rw [hk]; exact hm
    unfold madeCells
    rw [Array.getElem?_toList, Array.getElem?_map, Array.getElem?_range, if_pos hj, Option.map_some, List.size_toArray, hk, List.getElem?_eq_getElem hl]
    congr 1
    simp [hl]
  · rw [List.getElem?_eq_none (by simp [size_madeCells]; omega), List.getElem?_eq_none (by rw [flat_len hk]; simp; omega)]
abbrev zD : Deed := (⟨#[]⟩, 0, ⟨#[]⟩)
/-- A list of deeds of one's own. -/
def DRow (w : World) (B : Nat) (v : Value) (ds : List Deed) : Prop := ERow w B 59 3 encD v ds
theorem run_make_deeds {w : World} (n : Nat) (hn : n ≤ 1000) : ∃ w', (Instr.makeSlice 32 (.int .i64 (n : Int)) (.int .i64 (n : Int))).run Tryd.prog w = .ok (.slice (some ⟨w.heap.size, 0, none⟩) n n) w' ∧ DRow w' w.heap.size (.slice (some ⟨w.heap.size, 0, none⟩) n n) (List.replicate n zD) ∧ Below w.heap.size w w' := by
  have h : (Tryd.prog.info? 59).map (fun i => (i.zero, i.size, i.bytes)) = some (some (.agg #[.string ⟨#[]⟩, .int .i64 0, .string ⟨#[]⟩]), 3, 40) := by kernel_rfl
  obtain ⟨i, hi, e⟩ := Option.map_eq_some_iff.1 h
  simp only [Prod.mk.injEq] at e
  obtain ⟨hz, hs, hby⟩ := e
  obtain ⟨w', h1, h2, h3⟩ := run_make_full (P := Tryd.prog) w w.heap.size 32 59 i _ 3 Tryd.underlying32 hi hz hs .i64 .i64 n (by rw [hby]; omega) (by unfold maxLen; omega) (Nat.le_refl _)
  refine ⟨w', h1, ?_, (Off.of_grown h3).below (Nat.le_refl _) (fun k e => by cases e)⟩
  unfold DRow ERow
  rw [List.length_replicate]
  have e : (madeCells (Value.agg #[.string ⟨#[]⟩, .int .i64 0, .string ⟨#[]⟩]).cells (n * 3)).toList = (List.replicate n zD).flatMap encD := made_flat encD_len (by decide) zD n
  rw [← e]
  exact h2
end Go.Proofs.YtigmgbnfiiobeaaDoor

/-
  do: the acts gone through.
-/
namespace Go.Proofs.YtigmgbnfiiobeaaDoor
open Go.RowKit

theorem flat_setG {α : Type} {enc : α → List Value} {k : Nat} (hk : ∀ x, (enc x).length = k) : ∀ (xs : List α) (i : Nat) (x : α), i < xs.length → setAll (xs.flatMap enc) (i * k) (enc x) = (xs.set i x).flatMap enc
  | [], i, x, h => by simp at h
  | y :: r, 0, x, _ => by
    rw [List.flatMap_cons, List.set_cons_zero, List.flatMap_cons, Nat.zero_mul]
    have := setAll_pre (enc x) (enc y) (r.flatMap enc) [] (by rw [hk, hk])
    simpa using this
  | y :: r, i + 1, x, h => by
    rw [List.flatMap_cons, List.set_cons_succ, List.flatMap_cons, show (i + 1) * k = (enc y).length + i * k by rw [hk, Nat.succ_mul]; omega, setAll_app, flat_setG hk r i x (by simpa using h)]
theorem erow_setG {α : Type} {enc : α → List Value} {k : Nat} (hk : ∀ x, (enc x).length = k) {w : World} {B n cap g i : Nat} {e : TypeId} {xs : List α} (h : ERow w B e k enc (.slice (some ⟨g, 0, none⟩) n cap) xs) (x : α) (hi : i < xs.length) : ERow (w.setCells g (i * k) (enc x)) B e k enc (.slice (some ⟨g, 0, none⟩) n cap) (xs.set i x) := by
  have hn : n = xs.length := h.len
  subst hn
  have := own_setCells (enc x) (i * k) w _ h
  unfold ERow
  rw [← flat_setG hk xs i x hi, List.length_set]
  exact this
/-- The deeds as far as they are laid down. -/
def dPart (c : ByteArray) (l : ActL) (i : Nat) : List Deed := deedsS c (l.take i) ++ List.replicate (l.length - i) zD
theorem dPart_len (c : ByteArray) (l : ActL) (i : Nat) (h : i ≤ l.length) : (dPart c l i).length = l.length := by
  unfold dPart deedsS; simp; omega
theorem dPart_set {c : ByteArray} {l : ActL} {i : Nat} {y : Int × ByteArray} (h : l[i]? = some y) : (dPart c l i).set i (c, y.1, y.2) = dPart c l (i + 1) := by
  obtain ⟨hi, hy⟩ := List.getElem?_eq_some_iff.1 h
  unfold dPart deedsS
  rw [List.take_succ_eq_append_getElem hi, List.map_append, hy]
  obtain ⟨k, hk⟩ : ∃ k, l.length - i = k + 1 := ⟨l.length - i - 1, by omega⟩
  have hl : ((l.take i).map fun y => (c, y.1, y.2)).length = i := by simp; omega
  rw [hk, List.replicate_succ, List.set_append_right _ _ (by omega), hl, Nat.sub_self, List.set_cons_zero, show l.length - (i + 1) = k by omega]
  simp
theorem dPart_all (c : ByteArray) (l : ActL) : dPart c l l.length = deedsS c l := by unfold dPart; simp
theorem tks_next {x : Int} {t : Msg × Bool} {l : ActL} {i : Nat} {y : Int × ByteArray} (h : l[i]? = some y) : tksS x t (l.take (i + 1)) = tkS x (tksS x t (l.take i)) y.1 := by
  obtain ⟨hi, hy⟩ := List.getElem?_eq_some_iff.1 h
  unfold tksS
  rw [List.take_succ_eq_append_getElem hi, List.foldl_append, hy]
  rfl
/-- In the midst of do: the turn at tb, the deeds at dg. -/
structure DoI (w : World) (tb dg : Nat) (m : Msg) (x : Int) (l : ActL) (i : Nat) (wx : World) : Prop where
  tn : Tn wx tb (tksS x (m, false) (l.take i)) x
  row : DRow wx w.heap.size (.slice (some ⟨dg, 0, none⟩) l.length l.length) (dPart m.ct l i)
  bel : Below w.heap.size w wx
/-- How do leaves the box. -/
def BxQ (w : World) (b kb : Nat) (v : Value) (sq : Bool) (tr : Int) (ms' : List Msg) (w' : World) : Prop :=
  ∃ v', Bx w' b kb v' sq tr ms' ∧ Off (fun q => q = kb ∨ v.ownBlock = some q) w w' ∧ ∀ q, v'.ownBlock = some q → v.ownBlock = some q ∨ w.heap.size ≤ q
theorem Tx.row_ne {w : World} {kb : Nat} {v : Value} {ms : List Msg} {m : Msg} (h : Tx w m) (hk : Kd w kb v ms) : ∀ g, (Value.slice m.tp m.tn m.tc).ownBlock = some g → ¬ (g = kb ∨ v.ownBlock = some g) := fun g hg hor => by
  rcases hor with rfl | hv
  · rcases h.1.2 with ⟨e, _⟩ | ⟨g', cap, cur, e, _, hb, _⟩
    · rw [e] at hg; cases hg
    · rw [e] at hg
      simp only [Value.ownBlock, Option.some.injEq] at hg
      subst hg
      rw [hk.1] at hb
      simp at hb
  · exact own_ne h.1 hk.2.1 (by decide) g hg hv
theorem Tx.off {w w' : World} {P : Nat → Prop} {m : Msg} (h : Tx w m) (o : Off P w w') (hP : ∀ g, (Value.slice m.tp m.tn m.tc).ownBlock = some g → ¬ P g) : Tx w' m := ⟨ERow.off h.1 o hP, h.2⟩
theorem Tx.same {w : World} {m m' : Msg} (h : Tx w m) (e1 : m'.tp = m.tp) (e2 : m'.tn = m.tn) (e3 : m'.tc = m.tc) (e4 : m'.tx = m.tx) : Tx w m' := by
  unfold Tx; rw [e1, e2, e3, e4]; exact h
/-- put and remove, told of the box. -/
theorem bxq_of {w w1 w' : World} {b kb : Nat} {v : Value} {sq : Bool} {tr : Int} {ms ms' : List Msg} (h : Bx w1 b kb v sq tr ms) (hb : Below w.heap.size w w1) (hk : KdQ w1 kb v ms' w') (hm : ∀ m ∈ ms', Tx w1 m) : BxQ w b kb v sq tr ms' w' := by
  obtain ⟨v', h1, h2, h3⟩ := hk
  have hbk : ¬ (b = kb ∨ v.ownBlock = some b) := fun e => by
    rcases e with rfl | e
    · have := h.1; rw [h.2.1.1] at this; simp at this
    · rcases h.2.1.2.1.2 with ⟨rfl, _⟩ | ⟨g', cap, cur, rfl, _, hg, _⟩
      · cases e
      · simp only [Value.ownBlock, Option.some.injEq] at e
        subst e
        rw [h.1] at hg
        simp at hg
  exact ⟨v', ⟨(h2.block b h.lt hbk).trans h.1, h1, fun m hmm => (hm m hmm).off h2 ((hm m hmm).row_ne h.2.1)⟩, (Off.of_below hb).trans h2, fun q e => (h3 q e).imp id fun g => Nat.le_trans hb.size g⟩
end Go.Proofs.YtigmgbnfiiobeaaDoor
