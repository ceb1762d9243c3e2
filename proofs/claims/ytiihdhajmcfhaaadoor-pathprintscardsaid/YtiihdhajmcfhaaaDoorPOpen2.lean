/-
  An api.Place opened; the table of strconv.
-/
import Derived.Test.YtiihdhajmcfhaaaDoorPOpen
import Derived.Test.YtiihdhajmcfhaaaDoorPDec
import Derived.ChangeMaps5
namespace Go.Proofs.YtiihdhajmcfhaaaDoor
open Go.ChangeShapes Go.WideShapes Go.ChangeAt Go.RowKit Go.Deep

theorem cellsString : Tryd.prog.cellsOf 9 = 1 := by kernel_rfl
theorem cellsInt : Tryd.prog.cellsOf 3 = 1 := by kernel_rfl
theorem cellsPlace : Tryd.prog.cellsOf 23 = 6 := by kernel_rfl
theorem six {α : Type} {l : List α} (h : l.length = 6) : ∃ a b c d e f, l = [a, b, c, d, e, f] := by
  match l, h with
  | [a, b, c, d, e, f], _ => exact ⟨a, b, c, d, e, f, rfl⟩
theorem laidMet_tail {P : Program} {W : World} {x : String × DataW Unit} {r : List (String × DataW Unit)} (h : laidMet P (x :: r) W) : laidMet P r W := by
  obtain ⟨ps, ⟨g, t, cs, fuel, p, q, hg, ht, hv, hd, hr, rfl⟩, hnd, hall⟩ := h
  exact ⟨q, hr, (List.nodup_append.1 hnd).2.1, fun b off hm => hall b off (List.mem_append_right _ hm)⟩
theorem tPow : (Tryd.prog.globals[1]?).map (·.type) = some 92 := by kernel_rfl
theorem cellsPow : Tryd.prog.cellsOf 92 = 20 := by kernel_rfl
theorem cellsU64 : Tryd.prog.cellsOf 80 = 1 := by kernel_rfl
theorem pow_lits : Rows.laid_internal_strconv_uint64pow10 (H := Unit) = .agg (Lib.pow10Tab.map fun z => .lit (.int .u64 z)) := by kernel_rfl
theorem tables_of {W : World} {x y : String × DataW Unit} {rest : List (String × DataW Unit)} (h : laidMet Tryd.prog (x :: y :: ("internal/strconv.uint64pow10", Rows.laid_internal_strconv_uint64pow10) :: rest) W) : Pow W := by
  have h2 := laidMet_tail (laidMet_tail h)
  rw [pow_lits] at h2
  exact Lib.tabIs_of_head (rest := rest) gPow tPow Tryd.underlying92 Tryd.underlying80 cellsU64 cellsPow h2
section
variable {H : Type} {enc : TypeId × Value → H} {W : World} {base : Nat} {spare : Nat → Bool} {held : Bool}
theorem one_int {n : Nat} {c : Value} {x : DataW H × List MemPlace} (h : DataW.trod enc Tryd.prog W base spare held n 3 [c] = some x) : ∃ k, c = .int .i64 k ∧ x.2 = [] := by
  obtain ⟨k, e, hx, _⟩ := DataW.trod_int Tryd.underlying3 h
  exact ⟨k, List.head_eq_of_cons_eq e, by rw [hx]⟩
set_option maxHeartbeats 1000000 in
set_option maxRecDepth 100000 in
theorem open_place {r : Reach} {b0 : Nat} {v : Value} {d : DataW H} {p : List MemPlace}
    (hv : Value.okWide Tryd.prog W r b0 23 v) (h : DataW.Trod enc Tryd.prog W base spare held 23 v d p) :
    ∃ (s : ByteArray) (o f rr c b : Int), v = .agg #[.string s, .int .i64 o, .int .i64 f, .int .i64 rr, .int .i64 c, .int .i64 b] ∧ p = [] := by
  obtain ⟨cs, rfl, hsz⟩ := okWide_struct Tryd.underlying23 hv
  obtain ⟨l⟩ := cs
  obtain ⟨c0, c1, c2, c3, c4, c5, rfl⟩ := six (l := l) (by simpa [cellsPlace] using hsz)
  obtain ⟨fuel, hf⟩ := h
  obtain ⟨xs, n, _, hx, hl, hlen, hfl⟩ := DataW.trod_struct Tryd.underlying23 hf
  obtain ⟨x0, x1, x2, x3, x4, x5, rfl⟩ := six (l := xs) hlen
  have g0 : DataW.trod enc Tryd.prog W base spare held n 9 [c0] = some x0 := by simpa [Value.cells, cellsString] using hfl 0 _ rfl
  have g1 : DataW.trod enc Tryd.prog W base spare held n 3 [c1] = some x1 := by simpa [Value.cells, cellsInt] using hfl 1 _ rfl
  have g2 : DataW.trod enc Tryd.prog W base spare held n 3 [c2] = some x2 := by simpa [Value.cells, cellsInt] using hfl 2 _ rfl
  have g3 : DataW.trod enc Tryd.prog W base spare held n 3 [c3] = some x3 := by simpa [Value.cells, cellsInt] using hfl 3 _ rfl
  have g4 : DataW.trod enc Tryd.prog W base spare held n 3 [c4] = some x4 := by simpa [Value.cells, cellsInt] using hfl 4 _ rfl
  have g5 : DataW.trod enc Tryd.prog W base spare held n 3 [c5] = some x5 := by simpa [Value.cells, cellsInt] using hfl 5 _ rfl
  obtain ⟨s, es, e0, _⟩ := DataW.trod_string Tryd.underlying9 g0
  obtain rfl := List.head_eq_of_cons_eq es
  obtain ⟨k1, rfl, e1⟩ := one_int g1
  obtain ⟨k2, rfl, e2⟩ := one_int g2
  obtain ⟨k3, rfl, e3⟩ := one_int g3
  obtain ⟨k4, rfl, e4⟩ := one_int g4
  obtain ⟨k5, rfl, e5⟩ := one_int g5
  have e0' : x0.2 = [] := by rw [e0]
  simp only [Prod.mk.injEq, List.flatMap_cons, List.flatMap_nil, e0', e1, e2, e3, e4, e5, List.append_nil] at hx
  exact ⟨s, k1, k2, k3, k4, k5, rfl, hx.2⟩
end
end Go.Proofs.YtiihdhajmcfhaaaDoor
