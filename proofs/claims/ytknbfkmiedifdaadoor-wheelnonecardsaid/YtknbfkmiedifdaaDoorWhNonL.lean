/-
  WheelNone, walked.
-/
import Derived.Test.YtknbfkmiedifdaaDoorWhNonA
import Derived.Test.YtknbfkmiedifdaaDoorWhAnchor
namespace Go.Proofs.YtknbfkmiedifdaaDoor
open Go.RowKit

/-- The law's own: the call, the plain wheel, the document's. -/
structure NoI (w : World) (kd ky : Int) (s : ByteArray) (tk : Int) (X : World) : Prop where
  un : UnW X (.pointer (some ⟨w.heap.size + 1, 0, none⟩))
  rp : RPl X (w.heap.size + 1 + 1)
  err : ErrType X
  o : ∀ j, X.cell? ⟨w.heap.size, j, none⟩ = (#[.int .i64 kd, .int .i64 ky, .string s, .int .i64 tk] : Array Value)[j]?
  lt : w.heap.size < X.heap.size
  b : Below w.heap.size w X
theorem NoI.below {w : World} {kd ky : Int} {s : ByteArray} {tk : Int} {X Y : World} (h : NoI w kd ky s tk X) (hb : Below X.heap.size X Y) : NoI w kd ky s tk Y :=
  ⟨h.un.below hb, h.rp.below hb, errType_bl h.err hb, fun j => (hb.cell (p := ⟨w.heap.size, j, none⟩) h.lt).trans (h.o j), Nat.lt_of_lt_of_le h.lt hb.size, below_then h.b hb⟩
theorem NoI.start (w : World) (kd ky : Int) (s : ByteArray) (tk : Int) (hE : ErrType w) : NoI w kd ky s tk (((w.alloc (.cells #[.int .i64 kd, .int .i64 ky, .string s, .int .i64 tk] 23)).alloc (.cells #[.pointer none] 27)).alloc (.cells #[.bool false, .int .i64 0, .slice none 0 0] 31)) := by
  have b1 := (Below.refl w.heap.size w).alloc (Nat.le_refl _) (.cells #[.int .i64 kd, .int .i64 ky, .string s, .int .i64 tk] 23)
  have b2 := b1.alloc b1.size (.cells #[.pointer none] 27)
  have b3 := b2.alloc b2.size (.cells #[.bool false, .int .i64 0, .slice none 0 0] 31)
  refine ⟨Or.inr ⟨_, rfl, ?_⟩, fun j => ?_, errType_bl hE b3, fun j => ?_, by simp; omega, b3⟩
  · rw [World.cell?_alloc_lt _ _ ⟨w.heap.size + 1, 0, none⟩ (by simp)]
    have := cell_newO (w.alloc (.cells #[.int .i64 kd, .int .i64 ky, .string s, .int .i64 tk] 23)) #[.pointer none] 27 0
    rw [World.size_alloc] at this
    exact this
  · have := cell_newO ((w.alloc (.cells #[.int .i64 kd, .int .i64 ky, .string s, .int .i64 tk] 23)).alloc (.cells #[.pointer none] 27)) #[.bool false, .int .i64 0, .slice none 0 0] 31 j
    rw [World.size_alloc, World.size_alloc] at this
    exact this
  · rw [World.cell?_alloc_lt _ _ ⟨w.heap.size, j, none⟩ (by simp; omega), World.cell?_alloc_lt _ _ ⟨w.heap.size, j, none⟩ (by simp)]
    exact cell_newO w _ _ j
set_option maxRecDepth 100000 in
set_option maxHeartbeats 1000000 in
theorem none_law (kd ky : Int) (s : ByteArray) (tk : Int) (w : World) (hE : ErrType w) : Calls Tryd.prog 3 #[.agg #[.int .i64 kd, .int .i64 ky, .string s, .int .i64 tk]] w fun e w' => e = .returned (.bool true) ∧ Below w.heap.size w w' := by
  have HI : Hid (type_of% (NoI.start w kd ky s tk hE)) := NoI.start w kd ky s tk hE
  clear hE
  have co := HI.out.o
  go_enter Tryd.func3, Tryd.ntmps3
  go_wp2_with fail
  refine (plays_any kd ky s tk (Or.inl rfl) HI.out.rp HI.out.err).mono ?_
  rintro _ w1 ⟨rfl, hb⟩
  have H1 : Hid (NoI w kd ky s tk w1) := HI.out.below hb
  have co1 := H1.out.o
  clear hb co HI
  go_wp2_with fail
  refine (plays_any kd ky s tk H1.out.un H1.out.rp H1.out.err).mono ?_
  rintro _ w2 ⟨rfl, hb⟩
  have H2 : Hid (NoI w kd ky s tk w2) := H1.out.below hb
  clear hb co1 H1
  go_wp2_with fail
  refine (plays_any 6 0 ⟨#[]⟩ 0 (Or.inl rfl) H2.out.rp H2.out.err).mono ?_
  rintro _ w3 ⟨rfl, hb⟩
  have H3 : Hid (NoI w kd ky s tk w3) := H2.out.below hb
  clear hb H2
  go_wp2_with fail
  refine (plays_any 7 0 ⟨#[]⟩ 0 H3.out.un H3.out.rp H3.out.err).mono ?_
  rintro _ w4 ⟨rfl, hb⟩
  have H4 : Hid (NoI w kd ky s tk w4) := H3.out.below hb
  clear hb H3
  go_wp2_with fail
  refine (anchor_true _).mono ?_
  rintro _ w5 ⟨rfl, hb⟩
  have H5 : Hid (Below w.heap.size w w5) := below_then H4.out.b hb
  clear hb H4
  go_wp2_with fail
  go_ret
  exact ⟨rfl, H5.out⟩
end Go.Proofs.YtknbfkmiedifdaaDoor
