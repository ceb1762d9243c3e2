/-
  Arguments opened: conditions, wants, what is kept.
-/
import Derived.Test.YtjmjimbhoncidaaDoorCards
import Derived.Test.YtjmjimbhoncidaaDoorTie
import Derived.Test.YtjmjimbhoncidaaDoorDcOk
import Derived.ProofKit
import Derived.OpenShut
import Derived.Deep.DeepHandedRow
import Derived.Deep.Slices
import Derived.Lib.LaidTab
import Derived.LaidMore
import Derived.ChangeMaps5
namespace Go.Proofs.YtjmjimbhoncidaaDoor
open Go.ChangeShapes Go.WideShapes Go.ChangeAt Go.RowKit

theorem own : ownKnob Tryd.prog.godebug = none := by kernel_rfl
theorem typesSize : Tryd.prog.types.size = 159 := by kernel_rfl
theorem cellsString : Tryd.prog.cellsOf 9 = 1 := by kernel_rfl
theorem cellsInt : Tryd.prog.cellsOf 3 = 1 := by kernel_rfl
theorem cellsBool : Tryd.prog.cellsOf 4 = 1 := by kernel_rfl
theorem cellsCond : Tryd.prog.cellsOf 23 = 3 := by kernel_rfl
theorem cellsWant : Tryd.prog.cellsOf 50 = 2 := by kernel_rfl
theorem cellsKept : Tryd.prog.cellsOf 59 = 2 := by kernel_rfl
theorem two {α : Type} {l : List α} (h : l.length = 2) : ∃ a b, l = [a, b] := by
  match l, h with
  | [a, b], _ => exact ⟨a, b, rfl⟩
theorem three {α : Type} {l : List α} (h : l.length = 3) : ∃ a b c, l = [a, b, c] := by
  match l, h with
  | [a, b, c], _ => exact ⟨a, b, c, rfl⟩
section
variable {H : Type} {enc : TypeId × Value → H} {W : World} {base : Nat} {spare : Nat → Bool} {held : Bool}
theorem one_int {n : Nat} {c : Value} {x : DataW H × List MemPlace} (h : DataW.trod enc Tryd.prog W base spare held n 3 [c] = some x) : ∃ k, c = .int .i64 k ∧ x.2 = [] := by
  obtain ⟨k, e, hx, _⟩ := DataW.trod_int Tryd.underlying3 h
  exact ⟨k, List.head_eq_of_cons_eq e, by rw [hx]⟩
theorem one_bool {n : Nat} {c : Value} {x : DataW H × List MemPlace} (h : DataW.trod enc Tryd.prog W base spare held n 4 [c] = some x) : ∃ k, c = .bool k ∧ x.2 = [] := by
  obtain ⟨k, e, hx⟩ := DataW.trod_bool Tryd.underlying4 h
  exact ⟨k, List.head_eq_of_cons_eq e, by rw [hx]⟩
theorem one_string {n : Nat} {c : Value} {x : DataW H × List MemPlace} (h : DataW.trod enc Tryd.prog W base spare held n 9 [c] = some x) : ∃ k, c = .string k ∧ x.2 = [] := by
  obtain ⟨s, e, hx, _⟩ := DataW.trod_string Tryd.underlying9 h
  exact ⟨s, List.head_eq_of_cons_eq e, by rw [hx]⟩
set_option maxRecDepth 100000 in
set_option maxHeartbeats 1000000 in
theorem open_cond {r : Reach} {b0 : Nat} {v : Value} {d : DataW H} {p : List MemPlace}
    (hv : Value.okWide Tryd.prog W r b0 23 v) (h : DataW.Trod enc Tryd.prog W base spare held 23 v d p) :
    ∃ (e : Bool) (a b : Int), v = .agg #[.bool e, .int .i64 a, .int .i64 b] ∧ p = [] := by
  obtain ⟨cs, rfl, hsz⟩ := okWide_struct Tryd.underlying23 hv
  obtain ⟨l⟩ := cs
  obtain ⟨c0, c1, c2, rfl⟩ := three (l := l) (by simpa [cellsCond] using hsz)
  obtain ⟨fuel, hf⟩ := h
  obtain ⟨xs, n, _, hx, hl, hlen, hfl⟩ := DataW.trod_struct Tryd.underlying23 hf
  obtain ⟨x0, x1, x2, rfl⟩ := three (l := xs) hlen
  have g0 : DataW.trod enc Tryd.prog W base spare held n 4 [c0] = some x0 := by simpa [Value.cells, cellsBool] using hfl 0 _ rfl
  have g1 : DataW.trod enc Tryd.prog W base spare held n 3 [c1] = some x1 := by simpa [Value.cells, cellsInt] using hfl 1 _ rfl
  have g2 : DataW.trod enc Tryd.prog W base spare held n 3 [c2] = some x2 := by simpa [Value.cells, cellsInt] using hfl 2 _ rfl
  obtain ⟨k0, rfl, e0⟩ := one_bool g0
  obtain ⟨k1, rfl, e1⟩ := one_int g1
  obtain ⟨k2, rfl, e2⟩ := one_int g2
  simp only [Prod.mk.injEq, List.flatMap_cons, List.flatMap_nil, e0, e1, e2, List.append_nil] at hx
  exact ⟨k0, k1, k2, rfl, hx.2⟩
set_option maxRecDepth 100000 in
set_option maxHeartbeats 1000000 in
theorem open_want {r : Reach} {b0 : Nat} {v : Value} {d : DataW H} {p : List MemPlace}
    (hv : Value.okWide Tryd.prog W r b0 50 v) (h : DataW.Trod enc Tryd.prog W base spare held 50 v d p) :
    ∃ (a b : Int), v = .agg #[.int .i64 a, .int .i64 b] ∧ p = [] := by
  obtain ⟨cs, rfl, hsz⟩ := okWide_struct Tryd.underlying50 hv
  obtain ⟨l⟩ := cs
  obtain ⟨c0, c1, rfl⟩ := two (l := l) (by simpa [cellsWant] using hsz)
  obtain ⟨fuel, hf⟩ := h
  obtain ⟨xs, n, _, hx, hl, hlen, hfl⟩ := DataW.trod_struct Tryd.underlying50 hf
  obtain ⟨x0, x1, rfl⟩ := two (l := xs) hlen
  have g0 : DataW.trod enc Tryd.prog W base spare held n 3 [c0] = some x0 := by simpa [Value.cells, cellsInt] using hfl 0 _ rfl
  have g1 : DataW.trod enc Tryd.prog W base spare held n 3 [c1] = some x1 := by simpa [Value.cells, cellsInt] using hfl 1 _ rfl
  obtain ⟨k0, rfl, e0⟩ := one_int g0
  obtain ⟨k1, rfl, e1⟩ := one_int g1
  simp only [Prod.mk.injEq, List.flatMap_cons, List.flatMap_nil, e0, e1, List.append_nil] at hx
  exact ⟨k0, k1, rfl, hx.2⟩
set_option maxRecDepth 100000 in
set_option maxHeartbeats 1000000 in
theorem open_kept {r : Reach} {b0 : Nat} {v : Value} {d : DataW H} {p : List MemPlace}
    (hv : Value.okWide Tryd.prog W r b0 59 v) (h : DataW.Trod enc Tryd.prog W base spare held 59 v d p) :
    ∃ (a : Bool) (b : ByteArray), v = .agg #[.bool a, .string b] ∧ p = [] := by
  obtain ⟨cs, rfl, hsz⟩ := okWide_struct Tryd.underlying59 hv
  obtain ⟨l⟩ := cs
  obtain ⟨c0, c1, rfl⟩ := two (l := l) (by simpa [cellsKept] using hsz)
  obtain ⟨fuel, hf⟩ := h
  obtain ⟨xs, n, _, hx, hl, hlen, hfl⟩ := DataW.trod_struct Tryd.underlying59 hf
  obtain ⟨x0, x1, rfl⟩ := two (l := xs) hlen
  have g0 : DataW.trod enc Tryd.prog W base spare held n 4 [c0] = some x0 := by simpa [Value.cells, cellsBool] using hfl 0 _ rfl
  have g1 : DataW.trod enc Tryd.prog W base spare held n 9 [c1] = some x1 := by simpa [Value.cells, cellsString] using hfl 1 _ rfl
  obtain ⟨k0, rfl, e0⟩ := one_bool g0
  obtain ⟨k1, rfl, e1⟩ := one_string g1
  simp only [Prod.mk.injEq, List.flatMap_cons, List.flatMap_nil, e0, e1, List.append_nil] at hx
  exact ⟨k0, k1, rfl, hx.2⟩
end
end Go.Proofs.YtjmjimbhoncidaaDoor
