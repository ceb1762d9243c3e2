/-
  The program's number: digits read into a part of the place.
-/
import Derived.Test.YtiihdhajmcfhaaaDoorPRd
import Derived.BigRegion
namespace Go.Proofs.YtiihdhajmcfhaaaDoor
open Go.RowKit

/-- What a reading step comes to: the next state, or false and the place of the fault. -/
def Rs (w : World) (R : Nat) (s seg : ByteArray) (X : Except Nat St) (e : Ending) (w' : World) : Prop :=
  ((∃ y, X = .ok y ∧ e = .returned (.bool true) ∧ PRd w' R s seg y) ∨ (∃ p : Nat, X = .error p ∧ e = .returned (.bool false) ∧ w'.cell? ⟨R, 1, none⟩ = some (.int .i64 (p : Int)))) ∧ Off (· = R) w w'
theorem digit_val {s : ByteArray} {a : Nat} (h : a < s.size) (hd : isD (bt s a) = true) : 48 ≤ (s[a].toNat : Int) ∧ (s[a].toNat : Int) ≤ 57 := by
  have := isD_iff.1 hd; rw [bt_in h] at this; omega

theorem PRd.wrO {w : World} {R : Nat} {s seg : ByteArray} {x : St} (h : PRd w R s seg x) (n : Int) : PRd (w.setCell ⟨R, 3, none⟩ (.int .i64 n)) R s seg (putO x n) := by
  have c0 := h.text
  have c1 := h.at_
  have c2 := h.seg
  have c3 := h.o
  have c4 := h.f
  have c5 := h.r
  have c6 := h.c
  have c7 := h.b
  exact ⟨by simp [World.cell?_setCell_other, c0], by simp [World.cell?_setCell_other, c1, putO], by simp [World.cell?_setCell_other, c2], World.cell?_setCell_same _ _ _ h.o, by simp [World.cell?_setCell_other, c4, putO], by simp [World.cell?_setCell_other, c5, putO], by simp [World.cell?_setCell_other, c6, putO], by simp [World.cell?_setCell_other, c7, putO], fun j => by rw [World.frozen?_setCell]; exact h.fr j, h.in_, h.fit⟩
theorem PRd.wrF {w : World} {R : Nat} {s seg : ByteArray} {x : St} (h : PRd w R s seg x) (n : Int) : PRd (w.setCell ⟨R, 4, none⟩ (.int .i64 n)) R s seg (putF x n) := by
  have c0 := h.text
  have c1 := h.at_
  have c2 := h.seg
  have c3 := h.o
  have c4 := h.f
  have c5 := h.r
  have c6 := h.c
  have c7 := h.b
  exact ⟨by simp [World.cell?_setCell_other, c0], by simp [World.cell?_setCell_other, c1, putF], by simp [World.cell?_setCell_other, c2], by simp [World.cell?_setCell_other, c3, putF], World.cell?_setCell_same _ _ _ h.f, by simp [World.cell?_setCell_other, c5, putF], by simp [World.cell?_setCell_other, c6, putF], by simp [World.cell?_setCell_other, c7, putF], fun j => by rw [World.frozen?_setCell]; exact h.fr j, h.in_, h.fit⟩
theorem PRd.wrR {w : World} {R : Nat} {s seg : ByteArray} {x : St} (h : PRd w R s seg x) (n : Int) : PRd (w.setCell ⟨R, 5, none⟩ (.int .i64 n)) R s seg (putR x n) := by
  have c0 := h.text
  have c1 := h.at_
  have c2 := h.seg
  have c3 := h.o
  have c4 := h.f
  have c5 := h.r
  have c6 := h.c
  have c7 := h.b
  exact ⟨by simp [World.cell?_setCell_other, c0], by simp [World.cell?_setCell_other, c1, putR], by simp [World.cell?_setCell_other, c2], by simp [World.cell?_setCell_other, c3, putR], by simp [World.cell?_setCell_other, c4, putR], World.cell?_setCell_same _ _ _ h.r, by simp [World.cell?_setCell_other, c6, putR], by simp [World.cell?_setCell_other, c7, putR], fun j => by rw [World.frozen?_setCell]; exact h.fr j, h.in_, h.fit⟩
theorem PRd.wrC {w : World} {R : Nat} {s seg : ByteArray} {x : St} (h : PRd w R s seg x) (n : Int) : PRd (w.setCell ⟨R, 6, none⟩ (.int .i64 n)) R s seg (putC x n) := by
  have c0 := h.text
  have c1 := h.at_
  have c2 := h.seg
  have c3 := h.o
  have c4 := h.f
  have c5 := h.r
  have c6 := h.c
  have c7 := h.b
  exact ⟨by simp [World.cell?_setCell_other, c0], by simp [World.cell?_setCell_other, c1, putC], by simp [World.cell?_setCell_other, c2], by simp [World.cell?_setCell_other, c3, putC], by simp [World.cell?_setCell_other, c4, putC], by simp [World.cell?_setCell_other, c5, putC], World.cell?_setCell_same _ _ _ h.c, by simp [World.cell?_setCell_other, c7, putC], fun j => by rw [World.frozen?_setCell]; exact h.fr j, h.in_, h.fit⟩
theorem PRd.wrB {w : World} {R : Nat} {s seg : ByteArray} {x : St} (h : PRd w R s seg x) (n : Int) : PRd (w.setCell ⟨R, 7, none⟩ (.int .i64 n)) R s seg (putB x n) := by
  have c0 := h.text
  have c1 := h.at_
  have c2 := h.seg
  have c3 := h.o
  have c4 := h.f
  have c5 := h.r
  have c6 := h.c
  have c7 := h.b
  exact ⟨by simp [World.cell?_setCell_other, c0], by simp [World.cell?_setCell_other, c1, putB], by simp [World.cell?_setCell_other, c2], by simp [World.cell?_setCell_other, c3, putB], by simp [World.cell?_setCell_other, c4, putB], by simp [World.cell?_setCell_other, c5, putB], by simp [World.cell?_setCell_other, c6, putB], World.cell?_setCell_same _ _ _ h.b, fun j => by rw [World.frozen?_setCell]; exact h.fr j, h.in_, h.fit⟩
end Go.Proofs.YtiihdhajmcfhaaaDoor
