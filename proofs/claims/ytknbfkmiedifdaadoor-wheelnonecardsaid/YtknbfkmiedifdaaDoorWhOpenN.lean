/-
  An Op that came in, opened.
-/
import Derived.Test.YtknbfkmiedifdaaDoorWhOpenD
namespace Go.Proofs.YtknbfkmiedifdaaDoor
open Go.ChangeShapes Go.WideShapes Go.ChangeAt Go.RowKit Go.Deep

theorem cellsOp1 : Tryd.prog.cellsOf 23 = 4 := by kernel_rfl
theorem cellsInt1 : Tryd.prog.cellsOf 3 = 1 := by kernel_rfl
theorem cellsStr1 : Tryd.prog.cellsOf 9 = 1 := by kernel_rfl
theorem four4 {α : Type} {l : List α} (h : l.length = 4) : ∃ c0 c1 c2 c3, l = [c0, c1, c2, c3] := by
  match l, h with
  | [c0, c1, c2, c3], _ => exact ⟨c0, c1, c2, c3, rfl⟩
theorem open_op {H : Type} {enc : TypeId × Value → H} {W : World} {base : Nat} {spare : Nat → Bool} {held : Bool} {n : Nat} {cs : List Value} {x : DataW H × List MemPlace} (h : DataW.trod enc Tryd.prog W base spare held n 23 cs = some x) :
    ∃ kd ky s tk, cs = [.int .i64 kd, .int .i64 ky, .string s, .int .i64 tk] := by
  obtain ⟨xs, m, _, _, hl, hlen, hf⟩ := DataW.trod_struct Tryd.underlying23 h
  rw [cellsOp1] at hl
  obtain ⟨c0, c1, c2, c3, rfl⟩ := four4 hl
  obtain ⟨z0, z1, z2, z3, rfl⟩ := four4 (l := xs) hlen
  have f0 : DataW.trod enc Tryd.prog W base spare held m 3 [c0] = some z0 := by simpa [cellsInt1] using hf 0 _ rfl
  have f1 : DataW.trod enc Tryd.prog W base spare held m 3 [c1] = some z1 := by simpa [cellsInt1] using hf 1 _ rfl
  have f2 : DataW.trod enc Tryd.prog W base spare held m 9 [c2] = some z2 := by simpa [cellsStr1] using hf 2 _ rfl
  have f3 : DataW.trod enc Tryd.prog W base spare held m 3 [c3] = some z3 := by simpa [cellsInt1] using hf 3 _ rfl
  obtain ⟨k0, e0, _, _⟩ := DataW.trod_int Tryd.underlying3 f0
  obtain ⟨k1, e1, _, _⟩ := DataW.trod_int Tryd.underlying3 f1
  obtain ⟨k2, e2, _, _⟩ := DataW.trod_string Tryd.underlying9 f2
  obtain ⟨k3, e3, _, _⟩ := DataW.trod_int Tryd.underlying3 f3
  exact ⟨k0, k1, k2, k3, by rw [List.head_eq_of_cons_eq e0, List.head_eq_of_cons_eq e1, List.head_eq_of_cons_eq e2, List.head_eq_of_cons_eq e3]⟩
end Go.Proofs.YtknbfkmiedifdaaDoor
