/-
  A list of bytes opened, with its range.
-/
import Derived.Test.YtdjjologpodnkaaGreatDoorLgOpen
namespace Go.Proofs.YtdjjologpodnkaaGreatDoor
open Go.ChangeShapes Go.WideShapes Go.ChangeAt Go.RowKit Go.Deep

section
variable {H : Type} {enc : TypeId × Value → H} {W : World} {base : Nat} {spare : Nat → Bool} {held : Bool}
theorem open_bytesR {n : Nat} {cs : List Value} {x : DataW H × List MemPlace} (h : DataW.trod enc Tryz.prog W base spare held n 22 cs = some x) :
    ∃ po pl pc bs, cs = [.slice po pl pc] ∧ Byts W po pl bs ∧ pl ≤ maxLen ∧ (po = none → pc = 0) ∧ pl ≤ pc ∧ (pl = 0 ∨ ∃ el sp, x.1 = .slice el sp ∧ el.length = pl) ∧ ∀ z ∈ bs, 0 ≤ z ∧ z ≤ 255 := by
  rcases open_ints Tryz.underlying22 Tryz.underlying5 cellsU8 h with ⟨rfl, _⟩ | ⟨a, len, cap, zs, rfl, _, hl, hm, hz, hxx, hc, hw⟩
  · exact ⟨none, 0, 0, [], rfl, ⟨rfl, fun j hj => (by omega)⟩, Nat.zero_le _, fun _ => rfl, Nat.le_refl _, Or.inl rfl, fun z hz => (by cases hz)⟩
  · have hzl : len ≤ zs.length := by rw [hz]; split <;> omega
    refine ⟨some a, len, cap, zs.take len, rfl, ⟨by simp; omega, fun j hj => ?_⟩, Nat.le_trans hl hm, fun e => (by cases e), hl, Or.inr ⟨_, _, by rw [hxx], by simp [lits]; omega⟩, fun z hzm => ?_⟩
    rotate_left
    · have := hw z (List.mem_of_mem_take hzm)
      simp [Lit.wf, IntKind.min, IntKind.max, IntKind.signed, IntKind.bits] at this
      omega
    · obtain ⟨b, o, sp⟩ := a
      have h0 := hc 0 (by omega)
      have hs : sp = none := by simpa [Addr.add] using World.cell?_spot h0
      subst hs
      have hj' := hc j (by omega)
      rw [Addr.add_lit] at hj'
      refine ⟨b, o, rfl, cell_lt hj', ?_⟩
      rw [hj']
      simp [List.getD_eq_getElem?_getD, hj]
end
end Go.Proofs.YtdjjologpodnkaaGreatDoor
