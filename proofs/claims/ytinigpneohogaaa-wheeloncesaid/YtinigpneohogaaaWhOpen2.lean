/-
  A list of numbers opened.
-/
import Derived.Test.YtinigpneohogaaaWhOpen
import Derived.Test.YtinigpneohogaaaWhOnce2
namespace Go.Proofs.Ytinigpneohogaaa
open Go.ChangeShapes Go.WideShapes Go.ChangeAt Go.RowKit Go.Deep

theorem open_intl {H : Type} {enc : TypeId × Value → H} {W : World} {base : Nat} {spare : Nat → Bool} {held : Bool} {n : Nat} {cs : List Value} {x : DataW H × List MemPlace} (h : DataW.trod enc Try.prog W base spare held n 23 cs = some x) :
    ∃ ao cap zs, cs = [.slice ao zs.length cap] ∧ Intl W ao zs ∧ zs.length ≤ maxLen ∧ True := by
  rcases open_ints Try.underlying23 Try.underlying3 cellsInt h with ⟨rfl, _⟩ | ⟨a, len, cap, zs, rfl, _, hl, hm, hz, _, hc, hw⟩
  · exact ⟨none, 0, [], rfl, fun k x hk => (by simp at hk), Nat.zero_le _, trivial⟩
  · have hzl : len ≤ zs.length := by rw [hz]; split <;> omega
    refine ⟨some a, cap, zs.take len, by simp; omega, fun i z hi => ?_, by rw [List.length_take]; omega, trivial⟩
    have hi1 := (List.getElem?_eq_some_iff.1 hi).1
    rw [List.length_take] at hi1
    rw [List.getElem?_take_of_lt (by omega)] at hi
    obtain ⟨b, o, sp⟩ := a
    have h0 := hc 0 (by omega)
    have hs : sp = none := by simpa [Addr.add] using World.cell?_spot h0
    subst hs
    have hj' := hc i (by omega)
    rw [Addr.add_lit] at hj'
    refine ⟨b, o, rfl, cell_lt hj', ?_⟩
    rw [hj', List.getD_eq_getElem?_getD, hi]
    rfl
end Go.Proofs.Ytinigpneohogaaa
