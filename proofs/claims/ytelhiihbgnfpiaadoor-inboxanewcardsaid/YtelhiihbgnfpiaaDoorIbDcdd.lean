/-
  The law's 'decided': is the list now what a Decide makes of it?
-/
import Derived.Test.YtelhiihbgnfpiaaDoorIbHanded
import Derived.Test.YtelhiihbgnfpiaaDoorIbLi
namespace Go.Proofs.YtelhiihbgnfpiaaDoor
open Go.RowKit

/-- Who goes: his place; beyond the list where nobody does. -/
def gnI (K : Int) (es : List Ent) : Nat := if manyB K es = true then (match fdS es with | some i => i | none => es.length) else es.length
theorem gn_shed (K : Int) (es : List Ent) : shedS K es = es.eraseIdx (gnI K es) := by
  have hz : es.eraseIdx es.length = es := List.eraseIdx_of_length_le (Nat.le_refl _)
  unfold shedS gnI
  split
  · cases fdS es with
    | none => simp only; exact hz.symm
    | some i => rfl
  · exact hz.symm
/-- Either nobody goes, or just the one at that place. -/
theorem gn_gone {K : Int} {es : List Ent} (hK : 0 ≤ K) : (goneS K es = [] ∧ gnI K es = es.length) ∨ ∃ g, es[gnI K es]? = some g ∧ dcB g = true ∧ goneS K es = [g.ct] := by
  unfold goneS gnI
  cases hm : manyB K es with
  | false => exact Or.inl ⟨rfl, rfl⟩
  | true =>
    obtain ⟨i, x, h1, h2, h3⟩ := many_fd hK hm
    rw [h1]
    refine Or.inr ⟨x, h2, h3, ?_⟩
    simp only [if_true]
    rw [List.getD_eq_getElem?_getD, h2]
    rfl
/-- The list as far as it was gone through. -/
theorem gn_step {es : List Ent} {f j : Nat} {x : Ent} (hx : es[j]? = some x) : (es.take (j + 1)).eraseIdx f = (es.take j).eraseIdx f ++ (if j = f then [] else [x]) := by
  have hj := (List.getElem?_eq_some_iff.1 hx).1
  have e1 : es.take (j + 1) = es.take j ++ [x] := by
    rw [List.take_succ_eq_append_getElem hj]
    congr 2
    rw [List.getElem?_eq_getElem hj] at hx
    exact Option.some.inj hx
  have hl : (es.take j).length = j := by rw [List.length_take]; omega
  rw [e1]
  by_cases h1 : f < j
  · rw [List.eraseIdx_append_of_lt_length (by omega), if_neg (by omega)]
  · rw [List.eraseIdx_append_of_length_le (by omega), hl, List.eraseIdx_of_length_le (l := es.take j) (by omega)]
    by_cases h2 : j = f
    · subst h2
      rw [Nat.sub_self, if_pos rfl]
      rfl
    · rw [if_neg h2]
      congr 1
      exact List.eraseIdx_of_length_le (by simp; omega)
/-- An entry with that verdict, the answer of the call itself. -/
theorem tw_vd {l m : Ent} (h : Tw l m) (cd : ByteArray) (p p' : Option Addr) (n c c' : Nat) (bs : List Int) : Tw (l.vd cd p n c bs) (m.vd cd p' n c' bs) := by
  obtain ⟨a, c1, a', c1', a'', c1'', rfl⟩ := h
  exact ⟨a, c1, a', c1', p', c', rfl⟩
theorem tws_snoc {ls ms : List Ent} {l m : Ent} (h : Tws ls ms) (h1 : Tw l m) : Tws (ls ++ [l]) (ms ++ [m]) := by
  refine ⟨by simp [h.1], fun i x y hx hy => ?_⟩
  by_cases hi : i < ls.length
  · rw [List.getElem?_append_left hi] at hx
    rw [List.getElem?_append_left (by rw [← h.1]; exact hi)] at hy
    exact h.2 i x y hx hy
  · have hxi := (List.getElem?_eq_some_iff.1 hx).1
    simp only [List.length_append, List.length_singleton] at hxi
    obtain rfl : i = ls.length := by omega
    rw [List.getElem?_append_right (Nat.le_refl _), Nat.sub_self] at hx
    rw [List.getElem?_append_right (by rw [h.1]; exact Nat.le_refl _), h.1, Nat.sub_self] at hy
    simp only [List.getElem?_cons_zero, Option.some.injEq] at hx hy
    subst hx; subst hy
    exact h1
def Sz (l : Ent) : Prop := l.tn ≤ 9223372036854775807 ∧ l.cn ≤ 9223372036854775807 ∧ l.an ≤ 9223372036854775807
/-- In the midst of decided: ws: what was put so far. -/
structure DdI (w : World) (y : Opv) (s : ByteArray) (es1 : List Ent) (f i : Nat) (j : Nat) (v : Value) (hit : Int) (wx : World) : Prop where
  ex : ∃ ws, NRow wx w.heap.size v ws ∧ Tws ws ((es1.take j).eraseIdx f) ∧ (∀ l ∈ ws, Lies w l ∧ Sz l)
  hit : hit = (if i < j then 1 else 0) + (if f < j then 10 else 0)
  bel : Below w.heap.size w wx
  obx : wx.heap[w.heap.size]? = some (.cells #[.int .i64 y.kd, .int .i64 y.of_, .int .i64 y.n, .string y.e.ct, .slice y.e.tp y.e.tn y.e.tc, .int .i64 y.e.nu, .int .i64 y.e.tk, .slice y.e.cp y.e.cn y.e.cc, .string y.e.cd, .slice y.e.ap y.e.an y.e.ac, .string s, .string y.cd, .slice y.ap y.an y.ac] 37 (0, 0))
section
variable {w : World} {Bw Bn Bg : Nat} {aw an' ag : Option Addr} {nw cw nn cn' m cg : Nat} {es lw ln : List Ent} {y : Opv} {x : Ent} {i : Nat} {K : Int} {p : Option Addr} {c : Nat} {s : ByteArray}
end
end Go.Proofs.YtelhiihbgnfpiaaDoor
