/-
  A Stamp that comes in by value, opened: its eleven cells.
-/
import Derived.Test.YtpcdkafjogpdkaaDoorLaid
namespace Go.Proofs.YtpcdkafjogpdkaaDoor
open Go.ChangeShapes Go.WideShapes Go.ChangeAt Go.RowKit

theorem cellsInt : Tryd.prog.cellsOf 3 = 1 := by kernel_rfl
theorem cellsBool : Tryd.prog.cellsOf 4 = 1 := by kernel_rfl
theorem cellsStamp : Tryd.prog.cellsOf 23 = 11 := by kernel_rfl
theorem eleven {α : Type} {l : List α} (h : l.length = 11) : ∃ c0 c1 c2 c3 c4 c5 c6 c7 c8 c9 c10, l = [c0, c1, c2, c3, c4, c5, c6, c7, c8, c9, c10] := by
  match l, h with
  | [c0, c1, c2, c3, c4, c5, c6, c7, c8, c9, c10], _ => exact ⟨c0, c1, c2, c3, c4, c5, c6, c7, c8, c9, c10, rfl⟩
theorem one_int {H : Type} {enc : TypeId × Value → H} {W : World} {base : Nat} {spare : Nat → Bool} {held : Bool} {n : Nat} {c : Value} {x : DataW H × List MemPlace}
    (h : DataW.trod enc Tryd.prog W base spare held n 3 [c] = some x) : ∃ k, c = .int .i64 k ∧ x.2 = [] := by
  obtain ⟨k, e, hx, _⟩ := DataW.trod_int Tryd.underlying3 h
  exact ⟨k, List.head_eq_of_cons_eq e, by rw [hx]⟩
theorem one_bool {H : Type} {enc : TypeId × Value → H} {W : World} {base : Nat} {spare : Nat → Bool} {held : Bool} {n : Nat} {c : Value} {x : DataW H × List MemPlace}
    (h : DataW.trod enc Tryd.prog W base spare held n 4 [c] = some x) : ∃ b, c = .bool b ∧ x.2 = [] := by
  obtain ⟨b, e, hx⟩ := DataW.trod_bool Tryd.underlying4 h
  exact ⟨b, List.head_eq_of_cons_eq e, by rw [hx]⟩
set_option maxHeartbeats 1000000 in
set_option maxRecDepth 100000 in
theorem open_stamp {H : Type} {enc : TypeId × Value → H} {W : World} {r : Reach} {b0 base : Nat} {spare : Nat → Bool} {held : Bool} {v : Value} {d : DataW H} {p : List MemPlace}
    (hv : Value.okWide Tryd.prog W r b0 23 v) (h : DataW.Trod enc Tryd.prog W base spare held 23 v d p) :
    ∃ (lv y mo dd h mi s pt dg zn : Int) (z : Bool), v = .agg #[.int .i64 lv, .int .i64 y, .int .i64 mo, .int .i64 dd, .int .i64 h, .int .i64 mi, .int .i64 s, .int .i64 pt, .int .i64 dg, .bool z, .int .i64 zn] ∧ p = [] := by
  obtain ⟨cs, rfl, hsz⟩ := okWide_struct Tryd.underlying23 hv
  obtain ⟨l⟩ := cs
  obtain ⟨c0, c1, c2, c3, c4, c5, c6, c7, c8, c9, c10, rfl⟩ := eleven (l := l) (by simpa [cellsStamp] using hsz)
  obtain ⟨fuel, hf⟩ := h
  obtain ⟨xs, n, _, hx, hl, hlen, hfl⟩ := DataW.trod_struct Tryd.underlying23 hf
  obtain ⟨x0, x1, x2, x3, x4, x5, x6, x7, x8, x9, x10, rfl⟩ := eleven (l := xs) hlen
  have g0 : DataW.trod enc Tryd.prog W base spare held n 3 [c0] = some x0 := by simpa [Value.cells, cellsInt] using hfl 0 _ rfl
  have g1 : DataW.trod enc Tryd.prog W base spare held n 3 [c1] = some x1 := by simpa [Value.cells, cellsInt] using hfl 1 _ rfl
  have g2 : DataW.trod enc Tryd.prog W base spare held n 3 [c2] = some x2 := by simpa [Value.cells, cellsInt] using hfl 2 _ rfl
  have g3 : DataW.trod enc Tryd.prog W base spare held n 3 [c3] = some x3 := by simpa [Value.cells, cellsInt] using hfl 3 _ rfl
  have g4 : DataW.trod enc Tryd.prog W base spare held n 3 [c4] = some x4 := by simpa [Value.cells, cellsInt] using hfl 4 _ rfl
  have g5 : DataW.trod enc Tryd.prog W base spare held n 3 [c5] = some x5 := by simpa [Value.cells, cellsInt] using hfl 5 _ rfl
  have g6 : DataW.trod enc Tryd.prog W base spare held n 3 [c6] = some x6 := by simpa [Value.cells, cellsInt] using hfl 6 _ rfl
  have g7 : DataW.trod enc Tryd.prog W base spare held n 3 [c7] = some x7 := by simpa [Value.cells, cellsInt] using hfl 7 _ rfl
  have g8 : DataW.trod enc Tryd.prog W base spare held n 3 [c8] = some x8 := by simpa [Value.cells, cellsInt] using hfl 8 _ rfl
  have g9 : DataW.trod enc Tryd.prog W base spare held n 4 [c9] = some x9 := by simpa [Value.cells, cellsBool] using hfl 9 _ rfl
  have g10 : DataW.trod enc Tryd.prog W base spare held n 3 [c10] = some x10 := by simpa [Value.cells, cellsInt] using hfl 10 _ rfl
  obtain ⟨a0, rfl, e0⟩ := one_int g0
  obtain ⟨a1, rfl, e1⟩ := one_int g1
  obtain ⟨a2, rfl, e2⟩ := one_int g2
  obtain ⟨a3, rfl, e3⟩ := one_int g3
  obtain ⟨a4, rfl, e4⟩ := one_int g4
  obtain ⟨a5, rfl, e5⟩ := one_int g5
  obtain ⟨a6, rfl, e6⟩ := one_int g6
  obtain ⟨a7, rfl, e7⟩ := one_int g7
  obtain ⟨a8, rfl, e8⟩ := one_int g8
  obtain ⟨a9, rfl, e9⟩ := one_bool g9
  obtain ⟨a10, rfl, e10⟩ := one_int g10
  simp only [Prod.mk.injEq, List.flatMap_cons, List.flatMap_nil, e0, e1, e2, e3, e4, e5, e6, e7, e8, e9, e10, List.append_nil] at hx
  exact ⟨a0, a1, a2, a3, a4, a5, a6, a7, a8, a10, a9, rfl, hx.2⟩
end Go.Proofs.YtpcdkafjogpdkaaDoor
