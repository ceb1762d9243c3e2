/-
  Rows of bytes that the call itself made: append, cut, copy, clear, as equations of a run.
-/
import Derived.Test.YtlgjjemfckmidaaDkOps
import Derived.Maps.AppendAt
import Derived.Laws.OwnMore
namespace Go.Proofs.Ytlgjjemfckmidaa
open Go.RowKit

theorem u8info : ∃ i, Try.prog.info? 5 = some i ∧ i.zero = some (.int .u8 0) ∧ i.size = 1 ∧ i.bytes = 1 := by
  have h : (Try.prog.info? 5).map (fun i => (i.zero, i.size, i.bytes)) = some (some (.int .u8 0), 1, 1) := by kernel_rfl
  obtain ⟨i, hi, e⟩ := Option.map_eq_some_iff.1 h
  simp only [Prod.mk.injEq] at e
  exact ⟨i, hi, e.1, e.2.1, e.2.2⟩
def u8s (xs : List Int) : List Value := xs.map (Value.int .u8)
theorem u8s_length (xs : List Int) : (u8s xs).length = xs.length := by simp [u8s]
theorem u8s_append (xs ys : List Int) : u8s (xs ++ ys) = u8s xs ++ u8s ys := by simp [u8s]
theorem u8s_take (xs : List Int) (n : Nat) : u8s (xs.take n) = (u8s xs).take n := by simp [u8s, List.map_take]
theorem u8s_get {xs : List Int} {j : Nat} {u : Value} (h : (u8s xs)[j]? = some u) : j < xs.length ∧ u = .int .u8 (xs.getD j 0) := by
  simp only [u8s, List.getElem?_map, Option.map_eq_some_iff] at h
  obtain ⟨z, hz, rfl⟩ := h
  have hl := (List.getElem?_eq_some_iff.1 hz).1
  exact ⟨hl, by rw [List.getD_eq_getElem?_getD, hz]; rfl⟩
/-- A slice of bytes, of the call's own making (blocks from B on). -/
def Row (w : World) (B : Nat) (v : Value) (xs : List Int) : Prop := w.ownsRow B 5 1 v xs.length (u8s xs)
theorem Row.nil (w : World) (B : Nat) : Row w B (.slice none 0 0) [] := ⟨rfl, Or.inl ⟨rfl, rfl⟩⟩
theorem Row.form {w : World} {B : Nat} {v : Value} {xs : List Int} (h : Row w B v xs) : (v = .slice none 0 0 ∧ xs = []) ∨ ∃ g cap, v = .slice (some ⟨g, 0, none⟩) xs.length cap ∧ B ≤ g ∧ g < w.heap.size ∧ xs.length ≤ cap ∧ cap ≤ maxLen := by
  rcases h.2 with ⟨rfl, h0⟩ | ⟨g, cap, cur, rfl, hB, hg, hn, hm, _, _⟩
  · exact Or.inl ⟨rfl, List.eq_nil_of_length_eq_zero h0⟩
  · refine Or.inr ⟨g, cap, rfl, hB, ?_, hn, hm⟩
    rcases Nat.lt_or_ge g w.heap.size with g1 | g1
    · exact g1
    · rw [Array.getElem?_eq_none g1] at hg; cases hg
theorem Row.keep {w w' : World} {B : Nat} {v : Value} {xs : List Int} (h : Row w B v xs) (hk : ∀ g, v.ownBlock = some g → w'.heap[g]? = w.heap[g]?) : Row w' B v xs := by
  rcases h.2 with ⟨rfl, h0⟩ | ⟨g, cap, cur, rfl, hB, hg, rest⟩
  · exact ⟨h.1, Or.inl ⟨rfl, h0⟩⟩
  · exact ⟨h.1, Or.inr ⟨g, cap, cur, rfl, hB, by rw [hk g rfl]; exact hg, rest⟩⟩
theorem Row.lt {w : World} {B : Nat} {v : Value} {xs : List Int} (h : Row w B v xs) {g : Nat} (hg : v.ownBlock = some g) : B ≤ g ∧ g < w.heap.size := by
  rcases h.form with ⟨rfl, _⟩ | ⟨g', cap, rfl, hB, hl, _⟩
  · cases hg
  · simp only [Value.ownBlock, Option.some.injEq] at hg; subst hg; exact ⟨hB, hl⟩
theorem Row.cell {w : World} {B : Nat} {xs : List Int} {g cap n : Nat} (h : Row w B (.slice (some ⟨g, 0, none⟩) n cap) xs) : n = xs.length ∧ ∀ j, j < xs.length → w.cell? ⟨g, j, none⟩ = some (.int .u8 (xs.getD j 0)) := by
  rcases h.2 with ⟨h0, _⟩ | ⟨g', cap', cur, e, hB, hg, hn, hm, hc, ht⟩
  · cases h0
  · simp only [Value.slice.injEq, Option.some.injEq, Addr.mk.injEq, and_true] at e
    obtain ⟨rfl, rfl, rfl⟩ := e
    refine ⟨rfl, fun j hj => ?_⟩
    have e1 : (cur.toList.take (xs.length * 1))[j]? = (u8s xs)[j]? := by rw [ht]
    rw [List.getElem?_take, if_pos (by omega)] at e1
    have e2 : w.cell? ⟨g, j, none⟩ = cur[j]? := by simp [World.cell?, hg]
    rw [e2, ← Array.getElem?_toList, e1]
    simp [u8s, List.getD_eq_getElem?_getD, List.getElem?_eq_getElem hj]
/-- append: a row of the call's own, and bytes that lie somewhere. -/
theorem run_append_bytes {w : World} {B : Nat} {v : Value} {xs : List Int} {po : Option Addr} {m c : Nat} {bs : List Int} (h : Row w B v xs) (hb : Byts w po m bs) (hpo : po = none → c = 0) (hl : xs.length + m ≤ 140737488355328) (hB : B ≤ w.heap.size) (ty : TypeId) :
    ∃ v' w', (Builtin.append_ #[25, 25] ty #[v, .slice po m c]).run Try.prog w = .ok v' w' ∧ Row w' B v' (xs ++ bs) ∧ w.grownBy w' v.ownBlock ∧ (v'.ownBlock = v.ownBlock ∨ v'.ownBlock = some w.heap.size) := by
  obtain ⟨i, hi, hz, hs, hby⟩ := u8info
  have hm := hb.len
  cases po with
  | none =>
    have m0 : m = 0 := by
      rcases Nat.eq_zero_or_pos m with g | g
      · exact g
      · obtain ⟨_, _, e, _⟩ := hb.cell 0 g; cases e
    obtain rfl : bs = [] := List.eq_nil_of_length_eq_zero (by omega)
    obtain rfl := hpo rfl
    subst m0
    exact ⟨v, w, run_append_owned_none w B _ _ _ i 1 Try.underlying25 hi v _ _ h, by rw [List.append_nil]; exact h, ⟨rfl, rfl, rfl, Nat.le_refl _, fun _ _ _ => rfl⟩, Or.inl rfl⟩
  | some a =>
    obtain ⟨v', w', hr, h2, h3, _, h5⟩ := run_append_own_at (P := Try.prog) w B 25 ty 5 i _ 1 1 Try.underlying25 hi hz hs hby rfl (by decide) v _ _ h a m c (u8s bs) (by rw [u8s_length]; omega) (fun j u hu => by
      obtain ⟨hj, rfl⟩ := u8s_get hu
      obtain ⟨b, o, e, _, hc⟩ := hb.cell j (by omega)
      obtain rfl : a = ⟨b, o, none⟩ := by simpa using e
      rw [Addr.add_lit]; exact hc) (fun u hu => by simp only [u8s, List.mem_map] at hu; obtain ⟨z, _, rfl⟩ := hu; rfl) (by unfold maxLen; omega) (by omega) hB
    refine ⟨v', w', hr, ?_, h3, h5⟩
    unfold Row
    rw [u8s_append, List.length_append, hm]
    exact h2
end Go.Proofs.Ytlgjjemfckmidaa
