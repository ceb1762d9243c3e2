/-
  The program's reader of places: its state; end, take, atDigit, fault.
-/
import Derived.Test.YtiihdhajmcfhaaaDoorPRight
namespace Go.Proofs.YtiihdhajmcfhaaaDoor
open Go.RowKit

/-- The reader at block R. -/
structure PRd (w : World) (R : Nat) (s seg : ByteArray) (x : St) : Prop where
  text : w.cell? ⟨R, 0, none⟩ = some (.string s)
  at_ : w.cell? ⟨R, 1, none⟩ = some (.int .i64 x.a)
  seg : w.cell? ⟨R, 2, none⟩ = some (.string seg)
  o : w.cell? ⟨R, 3, none⟩ = some (.int .i64 x.o)
  f : w.cell? ⟨R, 4, none⟩ = some (.int .i64 x.f)
  r : w.cell? ⟨R, 5, none⟩ = some (.int .i64 x.r)
  c : w.cell? ⟨R, 6, none⟩ = some (.int .i64 x.c)
  b : w.cell? ⟨R, 7, none⟩ = some (.int .i64 x.b)
  fr : ∀ j, w.frozen? ⟨R, j, none⟩ = false
  in_ : x.a ≤ s.size
  fit : s.size ≤ maxLen
theorem PRd.off {P : Nat → Prop} {w w' : World} {R : Nat} {s seg : ByteArray} {x : St} (h : PRd w R s seg x) (ho : Off P w w') (hn : ¬ P R) : PRd w' R s seg x := by
  have hl : R < w.heap.size := cell_lt h.text
  have hc : ∀ j, w'.cell? ⟨R, j, none⟩ = w.cell? ⟨R, j, none⟩ := fun j => ho.cell (p := ⟨R, j, none⟩) hl hn
  exact ⟨by rw [hc]; exact h.text, by rw [hc]; exact h.at_, by rw [hc]; exact h.seg, by rw [hc]; exact h.o, by rw [hc]; exact h.f, by rw [hc]; exact h.r, by rw [hc]; exact h.c, by rw [hc]; exact h.b, fun j => by rw [ho.frozen (p := ⟨R, j, none⟩) hl hn]; exact h.fr j, h.in_, h.fit⟩
theorem PRd.drewN {w : World} {R : Nat} {s seg : ByteArray} {x : St} (h : PRd w R s seg x) (n : Nat) : PRd (w.drewN n) R s seg x := h.off (P := fun _ => False) ((Off.refl _ _).drewN n) id
theorem PRd.moved {w : World} {R : Nat} {s seg : ByteArray} {x : St} (h : PRd w R s seg x) {a : Nat} (ha : a ≤ s.size) : PRd (w.setCell ⟨R, 1, none⟩ (.int .i64 (a : Int))) R s seg { x with a := a } := by
  have c0 := h.text
  have c2 := h.seg
  have c3 := h.o
  have c4 := h.f
  have c5 := h.r
  have c6 := h.c
  have c7 := h.b
  exact ⟨by simp [World.cell?_setCell_other, c0], World.cell?_setCell_same _ _ _ h.at_, by simp [World.cell?_setCell_other, c2], by simp [World.cell?_setCell_other, c3], by simp [World.cell?_setCell_other, c4], by simp [World.cell?_setCell_other, c5], by simp [World.cell?_setCell_other, c6], by simp [World.cell?_setCell_other, c7], fun j => by rw [World.frozen?_setCell]; exact h.fr j, ha, h.fit⟩
end Go.Proofs.YtiihdhajmcfhaaaDoor
