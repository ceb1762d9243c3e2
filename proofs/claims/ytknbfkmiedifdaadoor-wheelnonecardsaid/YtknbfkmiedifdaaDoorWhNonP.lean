/-
  The law's plays, of a wheel that nobody made.
-/
import Derived.Test.YtknbfkmiedifdaaDoorWhNone
import Derived.Deep.RegionHeld3
namespace Go.Proofs.YtknbfkmiedifdaaDoor
open Go.RowKit

/-- What plays starts from: the wheel, the document's, the call, its key. -/
structure PlI (w : World) (v : Value) (rb : Nat) (kd ky : Int) (s : ByteArray) (tk : Int) (X : World) : Prop where
  un : UnW X v
  rp : RPl X rb
  err : ErrType X
  o : ∀ j, X.cell? ⟨w.heap.size, j, none⟩ = (#[.int .i64 kd, .int .i64 ky, .string s, .int .i64 tk] : Array Value)[j]?
  k : ∀ j, X.cell? ⟨w.heap.size + 1, j, none⟩ = (#[.int .i64 ky, .string ⟨#[]⟩] : Array Value)[j]?
  lt : w.heap.size + 1 < X.heap.size
  b : Below w.heap.size w X
theorem errType_bl {w w' : World} (h : ErrType w) (hb : Below w.heap.size w w') : ErrType w' := by
  unfold ErrType; rw [hb.cell (p := ⟨0, 0, none⟩) (cell_lt h)]; exact h
theorem PlI.below {w : World} {v : Value} {rb : Nat} {kd ky : Int} {s : ByteArray} {tk : Int} {X Y : World} (h : PlI w v rb kd ky s tk X) (hb : Below X.heap.size X Y) : PlI w v rb kd ky s tk Y :=
  ⟨h.un.below hb, h.rp.below hb, errType_bl h.err hb, fun j => (hb.cell (p := ⟨w.heap.size, j, none⟩) (by have := h.lt; show w.heap.size < _; omega)).trans (h.o j), fun j => (hb.cell (p := ⟨w.heap.size + 1, j, none⟩) h.lt).trans (h.k j), Nat.lt_of_lt_of_le h.lt hb.size, below_then h.b hb⟩
theorem FaultAt.below {w w' : World} {b : Nat} {c : Int} (h : FaultAt w b c) (hb : Below w.heap.size w w') : FaultAt w' b c := by
  have hl : b < w.heap.size := cell_lt h.1
  have hk : ∀ o, w'.cell? ⟨b, o, none⟩ = w.cell? ⟨b, o, none⟩ := fun o => hb.cell (p := ⟨b, o, none⟩) hl
  exact ⟨by rw [hk]; exact h.1, by rw [hk]; exact h.2.1, by rw [hk]; exact h.2.2.1, by rw [hk]; exact h.2.2.2⟩
theorem FaultAt.drew {w : World} {b : Nat} {c : Int} (h : FaultAt w b c) : FaultAt w.drew b c := h.below (Below.drew (Below.refl _ _))
theorem PlI.start {w : World} {v : Value} {rb : Nat} (kd ky : Int) (s : ByteArray) (tk : Int) (hu : UnW w v) (hr : RPl w rb) (hE : ErrType w) : PlI w v rb kd ky s tk ((w.alloc (.cells #[.int .i64 kd, .int .i64 ky, .string s, .int .i64 tk] 23)).alloc (.cells #[.int .i64 ky, .string ⟨#[]⟩] 36)) := by
  have b1 := (Below.refl w.heap.size w).alloc (Nat.le_refl _) (.cells #[.int .i64 kd, .int .i64 ky, .string s, .int .i64 tk] 23)
  have b2 : Below w.heap.size w ((w.alloc (.cells #[.int .i64 kd, .int .i64 ky, .string s, .int .i64 tk] 23)).alloc (.cells #[.int .i64 ky, .string ⟨#[]⟩] 36)) := b1.alloc b1.size _
  refine ⟨hu.below b2, hr.below b2, errType_bl hE b2, fun j => ?_, fun j => ?_, by simp, b2⟩
  · rw [World.cell?_alloc_lt _ _ ⟨w.heap.size, j, none⟩ (by simp)]
    exact cell_newO w _ _ j
  · have := cell_newO (w.alloc (.cells #[.int .i64 kd, .int .i64 ky, .string s, .int .i64 tk] 23)) #[.int .i64 ky, .string ⟨#[]⟩] 36 j
    rw [World.size_alloc] at this
    exact this
end Go.Proofs.YtknbfkmiedifdaaDoor
