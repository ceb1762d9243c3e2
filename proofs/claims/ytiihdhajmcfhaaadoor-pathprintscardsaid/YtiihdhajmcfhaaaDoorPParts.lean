/-
  The parts of a place's text as the program reads them.
-/
import Derived.Test.YtiihdhajmcfhaaaDoorPNum
import Derived.Deep.DeepCutAuto
namespace Go.Proofs.YtiihdhajmcfhaaaDoor
open Go.RowKit

theorem Rs.then_off {w w1 w' : World} {R : Nat} {s seg : ByteArray} {X : Except Nat St} {e : Ending} (h : Rs w1 R s seg X e w') (ho : Off (· = R) w w1) : Rs w R s seg X e w' := ⟨h.1, ho.trans h.2⟩
theorem PRd.wrS {w : World} {R : Nat} {s seg : ByteArray} {x : St} (h : PRd w R s seg x) (g : ByteArray) : PRd (w.setCell ⟨R, 2, none⟩ (.string g)) R s g x := by
  have c0 := h.text
  have c1 := h.at_
  have c3 := h.o
  have c4 := h.f
  have c5 := h.r
  have c6 := h.c
  have c7 := h.b
  exact ⟨by simp [World.cell?_setCell_other, c0], by simp [World.cell?_setCell_other, c1], World.cell?_setCell_same _ _ _ h.seg, by simp [World.cell?_setCell_other, c3], by simp [World.cell?_setCell_other, c4], by simp [World.cell?_setCell_other, c5], by simp [World.cell?_setCell_other, c6], by simp [World.cell?_setCell_other, c7], fun j => by rw [World.frozen?_setCell]; exact h.fr j, h.in_, h.fit⟩
/-- The first three bytes. -/
def sg (s : ByteArray) : ByteArray := s.extract 0 3
end Go.Proofs.YtiihdhajmcfhaaaDoor
