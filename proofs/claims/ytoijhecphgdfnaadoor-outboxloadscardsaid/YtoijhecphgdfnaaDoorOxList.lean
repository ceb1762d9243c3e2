import Derived.Test.YtoijhecphgdfnaaDoorOxRef
import Derived.Deep.WholeRow
import Derived.Laws.Tables
import Derived.Laws.EntriesVeiled
import Derived.Shelf.Abstract
import Derived.Test.YtoijhecphgdfnaaDoorDcPj
/-
  next, find, underWay, put of a box.
-/
namespace Go.Proofs.YtoijhecphgdfnaaDoor
open Go.RowKit

theorem nextS_some {sq : Bool} {m : Msg} : ∀ {ms : List Msg}, nextS sq ms = some m → ∃ J, ms[J]? = some m ∧ m.un = false ∧ (∀ j m', j < J → ms[j]? = some m' → m'.un = true) ∧ (0 < J → sq = false)
  | [], h => by cases h
  | x :: r, h => by
    unfold nextS at h
    by_cases hu : x.un = true
    · rw [if_pos hu] at h
      cases sq with
      | true => cases h
      | false =>
        obtain ⟨J, h1, h2, h3, h4⟩ := nextS_some (ms := r) h
        refine ⟨J + 1, by simpa using h1, h2, fun j m' hj hm => ?_, fun _ => rfl⟩
        cases j with
        | zero => simp only [List.getElem?_cons_zero, Option.some.injEq] at hm; rw [← hm]; exact hu
        | succ j => exact h3 j m' (by omega) (by simpa using hm)
    · rw [if_neg hu] at h
      simp only [Option.some.injEq] at h
      subst h
      exact ⟨0, rfl, by simpa using hu, fun j _ hj => by omega, fun h => by omega⟩
theorem nextS_none {sq : Bool} : ∀ {ms : List Msg}, nextS sq ms = none → ∀ j m', ms[j]? = some m' → (j = 0 ∨ sq = false) → m'.un = true
  | [], _, j, m', hm, _ => by simp at hm
  | x :: r, h, j, m', hm, hj => by
    unfold nextS at h
    by_cases hu : x.un = true
    · rw [if_pos hu] at h
      cases j with
      | zero => simp only [List.getElem?_cons_zero, Option.some.injEq] at hm; rw [← hm]; exact hu
      | succ j =>
        rcases hj with hj | hj
        · omega
        · subst hj
          exact nextS_none (ms := r) h j m' (by simpa using hm) (Or.inr rfl)
    · rw [if_neg hu] at h; cases h
section
variable {w w' : World} {b kb : Nat} {v : Value} {sq : Bool} {tr : Int} {ms : List Msg}
end
end Go.Proofs.YtoijhecphgdfnaaDoor

/-
  next of a box that tells none.
-/
namespace Go.Proofs.YtoijhecphgdfnaaDoor
open Go.RowKit

section
variable {w w' : World} {b kb : Nat} {v : Value} {sq : Bool} {tr : Int} {ms : List Msg}
end
end Go.Proofs.YtoijhecphgdfnaaDoor

/-
  find and underWay of a box; a message put in.
-/
namespace Go.Proofs.YtoijhecphgdfnaaDoor
open Go.RowKit

section
variable {w w' : World} {b kb : Nat} {v : Value} {sq : Bool} {tr : Int} {ms : List Msg}
/-- A fault told with a zero message. -/
def ZFl (w : World) (code : Int) (e : Ending) (w' : World) : Prop := ∃ z, e = .returned (.tuple #[.agg #[.string ⟨#[]⟩, .slice none 0 0, .bool false, .int .i64 0, .int .i64 0, .int .i64 0, .bool false, .int .i64 0, .int .i64 0, .bool false], .iface 91 (.pointer (some ⟨z, 0, none⟩))]) ∧ w.heap.size ≤ z ∧ OFault w' z 0 code ∧ Below w.heap.size w w'
end
end Go.Proofs.YtoijhecphgdfnaaDoor

/-
  A turn: what an act does to its message.
-/
namespace Go.Proofs.YtoijhecphgdfnaaDoor
open Go.RowKit

section
variable {w w' : World} {tb : Nat}
end
/-- A turn in memory. -/
def Tn (w : World) (tb : Nat) (t : Msg × Bool) (x : Int) : Prop := Box w tb #[.string t.1.ct, .slice t.1.tp t.1.tn t.1.tc, .bool t.1.e, .int .i64 t.1.a, .int .i64 t.1.p, .int .i64 t.1.nu, .bool t.1.nt, .int .i64 t.1.st, .int .i64 t.1.lf, .bool t.1.un, .int .i64 x, .bool t.2]
theorem Tn.note {w : World} {tb : Nat} {t : Msg × Bool} {x : Int} (h : Tn w tb t x) : Tn (w.setCell ⟨tb, 6, none⟩ (.bool true)) tb ({ t.1 with nt := true }, t.2) x := by
  have := Box.pPut h (j := 6) (by simp) (.bool true)
  simpa [Tn] using this
theorem Tn.numb {w : World} {tb : Nat} {t : Msg × Bool} {x : Int} (h : Tn w tb t x) : Tn (w.setCell ⟨tb, 5, none⟩ (.int .i64 x)) tb ({ t.1 with nu := x }, t.2) x := by
  have := Box.pPut h (j := 5) (by simp) (.int .i64 x)
  simpa [Tn] using this
theorem Tn.over {w : World} {tb : Nat} {t : Msg × Bool} {x : Int} (h : Tn w tb t x) : Tn (w.setCell ⟨tb, 11, none⟩ (.bool true)) tb (t.1, true) x := by
  have := Box.pPut h (j := 11) (by simp) (.bool true)
  simpa [Tn] using this
theorem Tn.off {P : Nat → Prop} {w w' : World} {tb : Nat} {t : Msg × Bool} {x : Int} (h : Tn w tb t x) (o : Off P w w') (hP : ¬ P tb) : Tn w' tb t x := Box.off h o hP
/-- What the first i of the effects have done. -/
def efS (x : Int) (t : Msg × Bool) (k : Int) (i : Nat) : Msg × Bool :=
  if k = 3 then (if 0 < i then ({ t.1 with nt := true }, t.2) else t) else if k = 5 then (if 1 < i then ({ t.1 with nu := x }, t.2) else t) else if k = 4 then (if 2 < i then (t.1, true) else t) else t
theorem efS_0 (x : Int) (t : Msg × Bool) (k : Int) : efS x t k 0 = t := by
  unfold efS
  repeat' split
  all_goals first | rfl | omega
theorem efS_3 (x : Int) (t : Msg × Bool) (k : Int) : efS x t k 3 = tkS x t k := by
  unfold efS tkS
  repeat' split
  all_goals first | rfl | omega
theorem efS_step (x : Int) (t : Msg × Bool) (k : Int) (i : Nat) (h : ¬ (i = 0 ∧ k = 3)) (h1 : ¬ (i = 1 ∧ k = 5)) (h2 : ¬ (i = 2 ∧ k = 4)) : efS x t k (i + 1) = efS x t k i := by
  unfold efS
  repeat' split
  all_goals first | rfl | omega
end Go.Proofs.YtoijhecphgdfnaaDoor

/-
  do: acts done to a message of the box.
-/
namespace Go.Proofs.YtoijhecphgdfnaaDoor
open Go.RowKit

theorem encD_len (d : Deed) : (encD d).length = 3 := rfl
theorem celD : Cel Tryd.prog 70 3 40 := cel_of (by kernel_rfl)
theorem made_flat {α : Type} {enc : α → List Value} {k : Nat} (hk : ∀ x, (enc x).length = k) (h0 : 0 < k) (x : α) (n : Nat) : (madeCells (enc x).toArray (n * k)).toList = (List.replicate n x).flatMap enc := by
  apply List.ext_getElem?
  intro j
  by_cases hj : j < n * k
  · have hm : j % k < k := Nat.mod_lt _ h0
    have hd : j / k < n := Nat.div_lt_of_lt_mul (by rw [Nat.mul_comm]; exact hj)
    have := flat_get hk (List.replicate n x) (j / k) x (j % k) (by rw [List.getElem?_replicate, if_pos hd]) hm
    rw [show j / k * k + j % k = j by rw [Nat.mul_comm]; exact Nat.div_add_mod j k] at this
    rw [this]
    have hl : j % k < (enc x).length := by rw [hk]; exact hm
    unfold madeCells
    rw [Array.getElem?_toList, Array.getElem?_map, Array.getElem?_range, if_pos hj, Option.map_some, List.size_toArray, hk, List.getElem?_eq_getElem hl]
    congr 1
    simp [hl]
  · rw [List.getElem?_eq_none (by simp [size_madeCells]; omega), List.getElem?_eq_none (by rw [flat_len hk]; simp; omega)]
abbrev zD : Deed := (⟨#[]⟩, 0, ⟨#[]⟩)
/-- A list of deeds of one's own. -/
def DRow (w : World) (B : Nat) (v : Value) (ds : List Deed) : Prop := ERow w B 70 3 encD v ds
theorem run_make_deeds {w : World} (n : Nat) (hn : n ≤ 1000) : ∃ w', (Instr.makeSlice 66 (.int .i64 (n : Int)) (.int .i64 (n : Int))).run Tryd.prog w = .ok (.slice (some ⟨w.heap.size, 0, none⟩) n n) w' ∧ DRow w' w.heap.size (.slice (some ⟨w.heap.size, 0, none⟩) n n) (List.replicate n zD) ∧ Below w.heap.size w w' := by
  have h : (Tryd.prog.info? 70).map (fun i => (i.zero, i.size, i.bytes)) = some (some (.agg #[.string ⟨#[]⟩, .int .i64 0, .string ⟨#[]⟩]), 3, 40) := by kernel_rfl
  obtain ⟨i, hi, e⟩ := Option.map_eq_some_iff.1 h
  simp only [Prod.mk.injEq] at e
  obtain ⟨hz, hs, hby⟩ := e
  obtain ⟨w', h1, h2, h3⟩ := run_make_full (P := Tryd.prog) w w.heap.size 66 70 i _ 3 Tryd.underlying66 hi hz hs .i64 .i64 n (by rw [hby]; omega) (by unfold maxLen; omega) (Nat.le_refl _)
  refine ⟨w', h1, ?_, (Off.of_grown h3).below (Nat.le_refl _) (fun k e => by cases e)⟩
  unfold DRow ERow
  rw [List.length_replicate]
  have e : (madeCells (Value.agg #[.string ⟨#[]⟩, .int .i64 0, .string ⟨#[]⟩]).cells (n * 3)).toList = (List.replicate n zD).flatMap encD := made_flat encD_len (by decide) zD n
  rw [← e]
  exact h2
end Go.Proofs.YtoijhecphgdfnaaDoor

/-
  do: the acts gone through.
-/
namespace Go.Proofs.YtoijhecphgdfnaaDoor
open Go.RowKit

theorem flat_setG {α : Type} {enc : α → List Value} {k : Nat} (hk : ∀ x, (enc x).length = k) : ∀ (xs : List α) (i : Nat) (x : α), i < xs.length → setAll (xs.flatMap enc) (i * k) (enc x) = (xs.set i x).flatMap enc
  | [], i, x, h => by simp at h
  | y :: r, 0, x, _ => by
    rw [List.flatMap_cons, List.set_cons_zero, List.flatMap_cons, Nat.zero_mul]
    have := setAll_pre (enc x) (enc y) (r.flatMap enc) [] (by rw [hk, hk])
    simpa using this
  | y :: r, i + 1, x, h => by
    rw [List.flatMap_cons, List.set_cons_succ, List.flatMap_cons, show (i + 1) * k = (enc y).length + i * k by rw [hk, Nat.succ_mul]; omega, setAll_app, flat_setG hk r i x (by simpa using h)]
theorem erow_setG {α : Type} {enc : α → List Value} {k : Nat} (hk : ∀ x, (enc x).length = k) {w : World} {B n cap g i : Nat} {e : TypeId} {xs : List α} (h : ERow w B e k enc (.slice (some ⟨g, 0, none⟩) n cap) xs) (x : α) (hi : i < xs.length) : ERow (w.setCells g (i * k) (enc x)) B e k enc (.slice (some ⟨g, 0, none⟩) n cap) (xs.set i x) := by
  have hn : n = xs.length := h.len
  subst hn
  have := own_setCells (enc x) (i * k) w _ h
  unfold ERow
  rw [← flat_setG hk xs i x hi, List.length_set]
  exact this
/-- The deeds as far as they are laid down. -/
def dPart (c : ByteArray) (l : ActL) (i : Nat) : List Deed := deedsS c (l.take i) ++ List.replicate (l.length - i) zD
theorem dPart_len (c : ByteArray) (l : ActL) (i : Nat) (h : i ≤ l.length) : (dPart c l i).length = l.length := by
  unfold dPart deedsS; simp; omega
theorem dPart_set {c : ByteArray} {l : ActL} {i : Nat} {y : Int × ByteArray} (h : l[i]? = some y) : (dPart c l i).set i (c, y.1, y.2) = dPart c l (i + 1) := by
  obtain ⟨hi, hy⟩ := List.getElem?_eq_some_iff.1 h
  unfold dPart deedsS
  rw [List.take_succ_eq_append_getElem hi, List.map_append, hy]
  obtain ⟨k, hk⟩ : ∃ k, l.length - i = k + 1 := ⟨l.length - i - 1, by omega⟩
  have hl : ((l.take i).map fun y => (c, y.1, y.2)).length = i := by simp; omega
  rw [hk, List.replicate_succ, List.set_append_right _ _ (by omega), hl, Nat.sub_self, List.set_cons_zero, show l.length - (i + 1) = k by omega]
  simp
theorem dPart_all (c : ByteArray) (l : ActL) : dPart c l l.length = deedsS c l := by unfold dPart; simp
theorem tks_next {x : Int} {t : Msg × Bool} {l : ActL} {i : Nat} {y : Int × ByteArray} (h : l[i]? = some y) : tksS x t (l.take (i + 1)) = tkS x (tksS x t (l.take i)) y.1 := by
  obtain ⟨hi, hy⟩ := List.getElem?_eq_some_iff.1 h
  unfold tksS
  rw [List.take_succ_eq_append_getElem hi, List.foldl_append, hy]
  rfl
/-- In the midst of do: the turn at tb, the deeds at dg. -/
structure DoI (w : World) (tb dg : Nat) (m : Msg) (x : Int) (l : ActL) (i : Nat) (wx : World) : Prop where
  tn : Tn wx tb (tksS x (m, false) (l.take i)) x
  row : DRow wx w.heap.size (.slice (some ⟨dg, 0, none⟩) l.length l.length) (dPart m.ct l i)
  bel : Below w.heap.size w wx
/-- How do leaves the box. -/
def BxQ (w : World) (b kb : Nat) (v : Value) (sq : Bool) (tr : Int) (ms' : List Msg) (w' : World) : Prop :=
  ∃ v', Bx w' b kb v' sq tr ms' ∧ Off (fun q => q = kb ∨ v.ownBlock = some q) w w' ∧ ∀ q, v'.ownBlock = some q → v.ownBlock = some q ∨ w.heap.size ≤ q
theorem Tx.row_ne {w : World} {kb : Nat} {v : Value} {ms : List Msg} {m : Msg} (h : Tx w m) (hk : Kd w kb v ms) : ∀ g, (Value.slice m.tp m.tn m.tc).ownBlock = some g → ¬ (g = kb ∨ v.ownBlock = some g) := fun g hg hor => by
  rcases hor with rfl | hv
  · rcases h.1.2 with ⟨e, _⟩ | ⟨g', cap, cur, e, _, hb, _⟩
    · rw [e] at hg; cases hg
    · rw [e] at hg
      simp only [Value.ownBlock, Option.some.injEq] at hg
      subst hg
      rw [hk.1] at hb
      simp at hb
  · exact own_ne h.1 hk.2.1 (by decide) g hg hv
theorem Tx.off {w w' : World} {P : Nat → Prop} {m : Msg} (h : Tx w m) (o : Off P w w') (hP : ∀ g, (Value.slice m.tp m.tn m.tc).ownBlock = some g → ¬ P g) : Tx w' m := ⟨ERow.off h.1 o hP, h.2⟩
theorem Tx.same {w : World} {m m' : Msg} (h : Tx w m) (e1 : m'.tp = m.tp) (e2 : m'.tn = m.tn) (e3 : m'.tc = m.tc) (e4 : m'.tx = m.tx) : Tx w m' := by
  unfold Tx; rw [e1, e2, e3, e4]; exact h
/-- put and remove, told of the box. -/
theorem bxq_of {w w1 w' : World} {b kb : Nat} {v : Value} {sq : Bool} {tr : Int} {ms ms' : List Msg} (h : Bx w1 b kb v sq tr ms) (hb : Below w.heap.size w w1) (hk : KdQ w1 kb v ms' w') (hm : ∀ m ∈ ms', Tx w1 m) : BxQ w b kb v sq tr ms' w' := by
  obtain ⟨v', h1, h2, h3⟩ := hk
  have hbk : ¬ (b = kb ∨ v.ownBlock = some b) := fun e => by
    rcases e with rfl | e
    · have := h.1; rw [h.2.1.1] at this; simp at this
    · rcases h.2.1.2.1.2 with ⟨rfl, _⟩ | ⟨g', cap, cur, rfl, _, hg, _⟩
      · cases e
      · simp only [Value.ownBlock, Option.some.injEq] at e
        subst e
        rw [h.1] at hg
        simp at hg
  exact ⟨v', ⟨(h2.block b h.lt hbk).trans h.1, h1, fun m hmm => (hm m hmm).off h2 ((hm m hmm).row_ne h.2.1)⟩, (Off.of_below hb).trans h2, fun q e => (h3 q e).imp id fun g => Nat.le_trans hb.size g⟩
end Go.Proofs.YtoijhecphgdfnaaDoor

/-
  List, Len.
-/
namespace Go.Proofs.YtoijhecphgdfnaaDoor
open Go.RowKit

/-- A text that lies by itself. -/
def Tb (w : World) (m : Msg) : Prop := BRow w 0 (.slice m.tp m.tn m.tc) m.tx
/-- Copies of messages: their texts elsewhere. -/
def Cps (w : World) (ls ms : List Msg) : Prop := ls.length = ms.length ∧ ∀ (i : Nat) (l m : Msg), ls[i]? = some l → ms[i]? = some m → (∃ a c, l = m.wi a c) ∧ Tb w l
theorem Cps.nil (w : World) : Cps w [] [] := ⟨rfl, fun i l m h => by simp at h⟩
theorem Cps.snoc {w : World} {ls ms : List Msg} {l m : Msg} (h : Cps w ls ms) (h1 : ∃ a c, l = m.wi a c) (h2 : Tb w l) : Cps w (ls ++ [l]) (ms ++ [m]) := by
  refine ⟨by simp [h.1], fun i x y hx hy => ?_⟩
  by_cases hi : i < ls.length
  · rw [List.getElem?_append_left hi] at hx
    rw [List.getElem?_append_left (by rw [← h.1]; exact hi)] at hy
    exact h.2 i x y hx hy
  · have hxi := (List.getElem?_eq_some_iff.1 hx).1
    simp only [List.length_append, List.length_singleton] at hxi
    obtain rfl : i = ls.length := by omega
    rw [List.getElem?_append_right (Nat.le_refl _), Nat.sub_self] at hx
    rw [List.getElem?_append_right (by rw [h.1]; exact Nat.le_refl _), h.1, Nat.sub_self] at hy
    simp only [List.getElem?_cons_zero, Option.some.injEq] at hx hy
    subst hx; subst hy
    exact ⟨h1, h2⟩
theorem Cps.keep {w w' : World} {ls ms : List Msg} (h : Cps w ls ms) (hk : ∀ l ∈ ls, Tb w l → Tb w' l) : Cps w' ls ms := ⟨h.1, fun i l m hl hm => ⟨(h.2 i l m hl hm).1, hk l (List.mem_of_getElem? hl) (h.2 i l m hl hm).2⟩⟩
theorem Cps.below {w w' : World} {ls ms : List Msg} (h : Cps w ls ms) (hb : Below w.heap.size w w') : Cps w' ls ms := h.keep fun _ _ ht => ERow.below ht hb
theorem run_make_sents {w : World} (n : Nat) (hn : n ≤ 1000) : ∃ w', (Instr.makeSlice 60 (.int .i64 (n : Int)) (.int .i64 (n : Int))).run Tryd.prog w = .ok (.slice (some ⟨w.heap.size, 0, none⟩) n n) w' ∧ ERow w' w.heap.size 74 10 encM (.slice (some ⟨w.heap.size, 0, none⟩) n n) (List.replicate n zM) ∧ Below w.heap.size w w' := by
  have h : (Tryd.prog.info? 74).map (fun i => (i.zero, i.size, i.bytes)) = some (some (.agg #[.string ⟨#[]⟩, .slice none 0 0, .bool false, .int .i64 0, .int .i64 0, .int .i64 0, .bool false, .int .i64 0, .int .i64 0, .bool false]), 10, 104) := by kernel_rfl
  obtain ⟨i, hi, e⟩ := Option.map_eq_some_iff.1 h
  simp only [Prod.mk.injEq] at e
  obtain ⟨hz, hs, hby⟩ := e
  obtain ⟨w', h1, h2, h3⟩ := run_make_full (P := Tryd.prog) w w.heap.size 60 74 i _ 10 Tryd.underlying60 hi hz hs .i64 .i64 n (by rw [hby]; omega) (by unfold maxLen; omega) (Nat.le_refl _)
  refine ⟨w', h1, ?_, (Off.of_grown h3).below (Nat.le_refl _) (fun k e => by cases e)⟩
  unfold ERow
  rw [List.length_replicate]
  have e : (madeCells (Value.agg #[.string ⟨#[]⟩, .slice none 0 0, .bool false, .int .i64 0, .int .i64 0, .int .i64 0, .bool false, .int .i64 0, .int .i64 0, .bool false]).cells (n * 10)).toList = (List.replicate n zM).flatMap encM := made_flat encM_len (by decide) zM n
  rw [← e]
  exact h2
/-- In the midst of List. -/
structure LsI (w : World) (g n : Nat) (ms : List Msg) (i : Nat) (wx : World) : Prop where
  ex : ∃ ls, ls.length = i ∧ ERow wx w.heap.size 74 10 encM (.slice (some ⟨g, 0, none⟩) n n) (ls ++ List.replicate (n - i) zM) ∧ Cps wx ls (ms.take i)
  bel : Below w.heap.size w wx
/-- List's answer: the copies ls. -/
def LsQ (w : World) (ms : List Msg) (e : Ending) (w' : World) : Prop := ∃ ls a c, e = .returned (.slice a ms.length c) ∧ ERow w' w.heap.size 74 10 encM (.slice a ms.length c) ls ∧ Cps w' ls ms ∧ Below w.heap.size w w'
section
variable {w w' : World} {b kb : Nat} {v : Value} {sq : Bool} {tr : Int} {ms : List Msg}
set_option maxRecDepth 100000 in
set_option maxHeartbeats 4000000 in
theorem list_any (h : Bx w b kb v sq tr ms) : Calls Tryd.prog 13 #[.pointer (some ⟨b, 0, none⟩)] w (LsQ w ms) := by
  have hmk := made_yes h
  have hct := count_any h.2.1
  have c0 := hcell h.1 0
  have lb := h.lt
  obtain ⟨a, c, rfl, _⟩ := h.2.1.2.1.isSlice
  obtain ⟨n, hn⟩ : ∃ n, ms.length = n := ⟨_, rfl⟩
  have q2 : n ≤ 32 := by rw [← hn]; exact h.2.1.2.2
  obtain ⟨w1, hmk1, hR, hB1⟩ := run_make_sents (w := w) n (by omega)
  have HI : Hid (LsI w w.heap.size n ms 0 w1) := ⟨⟨[], rfl, by simpa using hR, by simpa using Cps.nil _⟩, hB1⟩
  have HHw : Hid (Bx w b kb (.slice a n c) sq tr ms) := by rw [hn] at h; exact h
  have c1 : ∀ o, w1.cell? ⟨b, o, none⟩ = w.cell? ⟨b, o, none⟩ := fun o => hB1.cell (p := ⟨b, o, none⟩) lb
  have k1 := hcell (HHw.out.2.1.below hB1).1 1
  have lk := blk_lt (HHw.out.2.1.below hB1).1
  have HL : Hid (ms.length = n) := hn
  rw [hn] at hct
  clear hn h hR hB1
  go_enter Tryd.func13, Tryd.ntmps13
  go_wp2_with (first | (go_at_call 32; refine hmk.mono ?_; rintro _ w9 ⟨rfl, h9⟩; subst w9) | (go_at_call 33; refine hct.mono ?_; rintro _ w9 ⟨rfl, h9⟩; subst w9))
  clear hmk hct hmk1 c1 k1 lk c0 lb
  go_loopw [23] (fun t wx => ∃ i : Nat, i ≤ n ∧ t = .int .i64 i ∧ Hid (LsI w w.heap.size n ms i wx)) (fun t _ => n - (intOf t).toNat)
  case atStart => exact ⟨0, Nat.zero_le _, rfl, HI⟩
  case round =>
    obtain ⟨i, hi, rfl, HR⟩ := hrel
    by_cases hlt : i < n
    · have hlt1 : (i : Int) < n := by omega
      obtain ⟨m, hm⟩ : ∃ m, ms[i]? = some m := ⟨_, List.getElem?_eq_getElem (by rw [HL.out]; exact hlt)⟩
      have HHr : Hid (Bx wr b kb (.slice a n c) sq tr ms) := HHw.out.below HR.out.bel
      obtain ⟨g, rfl, hg, hc⟩ := erow_cells HHr.out.2.1.2.1 hm
      obtain ⟨d0, d1, d2, d3, d4, d5, d6, d7, d8, d9⟩ := hc
      have HM : Hid (ms[i]? = some m) := hm
      have htx := HHr.out.2.2 m (List.mem_of_getElem? hm)
      have hcp := fun o => copied_any m (wr.alloc o) ((htx.1.byts).below ((Below.refl _ _).alloc (Nat.le_refl _) _)) htx.1.nilcap (by have := htx.2; omega)
      clear hm htx
      go_wp2_with fail
      refine (hcp _).mono ?_
      rintro _ w5 ⟨a5, c5, rfl, hr5, hb5⟩
      have HB5 : Hid (Below w.heap.size w w5 ∧ Below wr.heap.size wr w5) := ⟨below_then (HR.out.bel.alloc HR.out.bel.size _) hb5, below_then ((Below.refl _ _).alloc (Nat.le_refl _) _) hb5⟩
      obtain ⟨ls, hls, hrow, hcps⟩ := HR.out.ex
      have hrow5 := hrow.below HB5.out.2
      have hll : (ls ++ List.replicate (n - i) zM).length = n := by simp; omega
      obtain ⟨z0, hz0⟩ : ∃ z0, (ls ++ List.replicate (n - i) zM)[i]? = some z0 := ⟨_, List.getElem?_eq_getElem (by rw [hll]; exact hlt)⟩
      obtain ⟨g', eg, hgl, hgc⟩ := erow_cells hrow5 hz0
      obtain rfl : w.heap.size = g' := by simpa using eg
      obtain ⟨e0, e1, e2, e3, e4, e5, e6, e7, e8, e9⟩ := hgc
      have hfz := ERow.thaw hrow5
      have HZ : Hid (LsI w w.heap.size n ms (i + 1) (w5.setCells w.heap.size (i * 10) (encM (m.wi a5 c5)))) := by
        have o1 : Off (fun q => q = w.heap.size) w5 (w5.setCells w.heap.size (i * 10) (encM (m.wi a5 c5))) := Off.setCells (P := fun q => q = w.heap.size) rfl _ _ _ (Off.refl _ _)
        have hset := erow_set hrow5 (m.wi a5 c5) (i := i) (by rw [hll]; exact hlt)
        have hse : (ls ++ List.replicate (n - i) zM).set i (m.wi a5 c5) = (ls ++ [m.wi a5 c5]) ++ List.replicate (n - (i + 1)) zM := by
          obtain ⟨k, hk⟩ : ∃ k, n - i = k + 1 := ⟨n - i - 1, by omega⟩
          rw [hk, List.replicate_succ, List.set_append_right _ _ (by omega), hls, Nat.sub_self, List.set_cons_zero, show n - (i + 1) = k by omega]
          simp
        have hapart : ∀ l, Tb w5 l → Tb (w5.setCells w.heap.size (i * 10) (encM (m.wi a5 c5))) l := fun l hl => ERow.off hl o1 fun q hq e => own_ne hl hrow5 (by decide) q hq (by rw [e]; rfl)
        refine ⟨⟨ls ++ [m.wi a5 c5], by simp [hls], by rw [← hse]; exact hset, ?_⟩, HB5.out.1.trans (o1.below HB5.out.1.size (fun k hk => by omega))⟩
        rw [List.take_succ_eq_append_getElem (by rw [HL.out]; exact hlt), show ms[i]'(by rw [HL.out]; exact hlt) = m by have := HM.out; rw [List.getElem?_eq_getElem (by rw [HL.out]; exact hlt)] at this; exact Option.some.inj this]
        exact ((hcps.below HB5.out.2).keep fun l _ hl => hapart l hl).snoc ⟨a5, c5, rfl⟩ (hapart _ (ERow.base hr5 (Nat.zero_le _)))
      clear hcp hr5 hb5 hls hrow hcps hrow5 hll hz0 eg d0 d1 d2 d3 d4 d5 d6 d7 d8 d9
      go_wp2_with fail
      go_roundw
      case rel => exact ⟨i + 1, hlt, by go_num, HZ⟩
      case measure => simp [intOf]; omega
    · have hlt1 : ¬ (i : Int) < n := by omega
      have hin : i = n := by omega
      have HZ : Hid (∃ ls, ERow wr w.heap.size 74 10 encM (.slice (some ⟨w.heap.size, 0, none⟩) n n) ls ∧ Cps wr ls ms) := by
        obtain ⟨ls, hls, hrow, hcps⟩ := HR.out.ex
        rw [List.take_of_length_le (by rw [HL.out]; omega)] at hcps
        rw [hin, Nat.sub_self, List.replicate_zero, List.append_nil] at hrow
        exact ⟨ls, hrow, hcps⟩
      clear hin
      go_wp2_with fail
      go_ret
      obtain ⟨ls, hrow, hcps⟩ := HZ.out
      exact ⟨ls, some ⟨w.heap.size, 0, none⟩, n, by rw [HL.out]; rfl, by rw [HL.out]; exact hrow, hcps, HR.out.bel⟩
set_option maxHeartbeats 1000000 in
theorem len_any (h : Bx w b kb v sq tr ms) : Calls Tryd.prog 17 #[.pointer (some ⟨b, 0, none⟩)] w fun e w' => e = .returned (.int .i64 (ms.length : Int)) ∧ w' = w := by
  have hmk := made_yes h
  have hct := count_any h.2.1
  have c0 := hcell h.1 0
  clear h
  go_enter Tryd.func17, Tryd.ntmps17
  go_wp2_with (first | (go_at_call 32; refine hmk.mono ?_; rintro _ w9 ⟨rfl, h9⟩; subst w9) | (go_at_call 33; refine hct.mono ?_; rintro _ w9 ⟨rfl, h9⟩; subst w9))
  go_ret
  exact ⟨rfl, rfl⟩
end
end Go.Proofs.YtoijhecphgdfnaaDoor
