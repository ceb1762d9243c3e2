/-
  The document's reader of places: fault, is, must, digit, number, right.
-/
import Derived.Test.YtiihdhajmcfhaaaDoorPRight
namespace Go.Proofs.YtiihdhajmcfhaaaDoor
open Go.RowKit

def bdI : Option Nat → Int
  | none => -1
  | some p => p
/-- The first fault stays. -/
def orB : Option Nat → Nat → Option Nat
  | none, p => some p
  | some q, _ => some q
structure RRd (w : World) (R : Nat) (s : ByteArray) (a : Nat) (bad : Option Nat) : Prop where
  text : w.cell? ⟨R, 0, none⟩ = some (.string s)
  at_ : w.cell? ⟨R, 1, none⟩ = some (.int .i64 a)
  bad : w.cell? ⟨R, 2, none⟩ = some (.int .i64 (bdI bad))
  fr1 : w.frozen? ⟨R, 1, none⟩ = false
  fr2 : w.frozen? ⟨R, 2, none⟩ = false
  in_ : a ≤ s.size
  fit : s.size ≤ maxLen
theorem RRd.bad_none {w : World} {R : Nat} {s : ByteArray} {a : Nat} (h : RRd w R s a none) : w.cell? ⟨R, 2, none⟩ = some (.int .i64 (-1)) := h.bad
theorem RRd.off {P : Nat → Prop} {w w' : World} {R : Nat} {s : ByteArray} {a : Nat} {bad : Option Nat} (h : RRd w R s a bad) (ho : Off P w w') (hn : ¬ P R) : RRd w' R s a bad := by
  have hl : R < w.heap.size := cell_lt h.text
  exact ⟨by rw [ho.cell (p := ⟨R, 0, none⟩) hl hn]; exact h.text, by rw [ho.cell (p := ⟨R, 1, none⟩) hl hn]; exact h.at_, by rw [ho.cell (p := ⟨R, 2, none⟩) hl hn]; exact h.bad, by rw [ho.frozen (p := ⟨R, 1, none⟩) hl hn]; exact h.fr1, by rw [ho.frozen (p := ⟨R, 2, none⟩) hl hn]; exact h.fr2, h.in_, h.fit⟩
theorem RRd.drewN {w : World} {R : Nat} {s : ByteArray} {a : Nat} {bad : Option Nat} (h : RRd w R s a bad) (n : Nat) : RRd (w.drewN n) R s a bad := h.off (P := fun _ => False) ((Off.refl _ _).drewN n) id
theorem RRd.moved {w : World} {R : Nat} {s : ByteArray} {a : Nat} {bad : Option Nat} (h : RRd w R s a bad) {c : Nat} (hl : c ≤ s.size) : RRd (w.setCell ⟨R, 1, none⟩ (.int .i64 (c : Int))) R s c bad := by
  have c0 := h.text
  have c2 := h.bad
  exact ⟨by simp [World.cell?_setCell_other, c0], World.cell?_setCell_same _ _ _ h.at_, by simp [World.cell?_setCell_other, c2], by simpa using h.fr1, by simpa using h.fr2, hl, h.fit⟩
theorem RRd.faulted {w : World} {R : Nat} {s : ByteArray} {a : Nat} (h : RRd w R s a none) (p : Nat) : RRd (w.setCell ⟨R, 2, none⟩ (.int .i64 (p : Int))) R s a (some p) := by
  have c0 := h.text
  have c1 := h.at_
  exact ⟨by simp [World.cell?_setCell_other, c0], by simp [World.cell?_setCell_other, c1], World.cell?_setCell_same _ _ _ h.bad, by simpa using h.fr1, by simpa using h.fr2, h.in_, h.fit⟩

/-- Behind must. -/
def mstA (s : ByteArray) (ch a : Nat) : Option Nat → Nat
  | none => if bt s a = ch then a + 1 else a
  | some _ => a
def mstB (s : ByteArray) (ch a : Nat) : Option Nat → Option Nat
  | none => if bt s a = ch then none else some a
  | some q => some q
end Go.Proofs.YtiihdhajmcfhaaaDoor
