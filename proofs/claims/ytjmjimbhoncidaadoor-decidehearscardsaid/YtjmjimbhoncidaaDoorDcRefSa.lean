/-
  The document's Start, way by way.
-/
import Derived.Test.YtjmjimbhoncidaaDoorDcRefF
namespace Go.Proofs.YtjmjimbhoncidaaDoor
open Go.RowKit

set_option maxRecDepth 100000 in
set_option maxHeartbeats 2000000 in
theorem rStart_1 (e : Bool) (a p t : Int) (noted : Bool) (w : World) (q1 : okB e a p = false) : Calls Tryd.prog 24 #[.agg #[.bool e, .int .i64 a, .int .i64 p], .int .i64 t, .bool noted] w (AnsQ4 ⟨0, 0, [], 0, 220⟩ w) := by
  have c1 : ∀ w, Calls Tryd.prog 45 #[.agg #[.bool e, .int .i64 a, .int .i64 p]] w fun r w' => r = .returned (.bool false) ∧ Below w.heap.size w w' := fun w => by have := rRight_any e a p w; rw [q1] at this; exact this
  go_enter Tryd.func24, Tryd.ntmps24
  go_wp2_with fail
  refine (c1 _).mono ?_
  rintro _ w1 ⟨rfl, b1⟩
  have HB1 : Hid (Below w.heap.size w w1) := below_then (((Below.refl _ _).alloc (by first | omega | (simp; done) | (simp; omega)) _).alloc (by first | omega | (simp; done) | (simp; omega)) _) b1
  have X1_0 : Hid (Box w1 w.heap.size #[.bool e, .int .i64 a, .int .i64 p]) := ((Box.new' _ #[.bool e, .int .i64 a, .int .i64 p] 23 w.heap.size (by simp)).alloc _).below b1
  have X1_1 : Hid (Box w1 (w.heap.size + 1) #[.int .i64 0, .int .i64 0]) := (Box.new' _ #[.int .i64 0, .int .i64 0] 50 (w.heap.size + 1) (by simp)).below b1
  obtain ⟨l1_0, k1_0, f1_0⟩ := X1_0.out
  obtain ⟨l1_1, k1_1, f1_1⟩ := X1_1.out
  clear b1 c1
  go_wp2_with fail
  refine bodyPost_ret ?_ rfl ⟨.slice none 0 0, rfl, ActRow.nil _ _, ?_⟩
  · simp [results, Tryd.results24, go_sem, k1_1]
  · exact ((HB1.out).setCell (by first | omega | (simp; done) | (simp; omega)) _).setCell (by first | omega | (simp; done) | (simp; omega)) _
set_option maxRecDepth 100000 in
set_option maxHeartbeats 2000000 in
theorem rStart_2 (e : Bool) (a p t : Int) (noted : Bool) (w : World) (q1 : okB e a p = true) (t0 : t < 0) : Calls Tryd.prog 24 #[.agg #[.bool e, .int .i64 a, .int .i64 p], .int .i64 t, .bool noted] w (AnsQ4 ⟨0, 0, [], 0, 224⟩ w) := by
  have c1 : ∀ w, Calls Tryd.prog 45 #[.agg #[.bool e, .int .i64 a, .int .i64 p]] w fun r w' => r = .returned (.bool true) ∧ Below w.heap.size w w' := fun w => by have := rRight_any e a p w; rw [q1] at this; exact this
  go_enter Tryd.func24, Tryd.ntmps24
  go_wp2_with fail
  refine (c1 _).mono ?_
  rintro _ w1 ⟨rfl, b1⟩
  have HB1 : Hid (Below w.heap.size w w1) := below_then (((Below.refl _ _).alloc (by first | omega | (simp; done) | (simp; omega)) _).alloc (by first | omega | (simp; done) | (simp; omega)) _) b1
  have X1_0 : Hid (Box w1 w.heap.size #[.bool e, .int .i64 a, .int .i64 p]) := ((Box.new' _ #[.bool e, .int .i64 a, .int .i64 p] 23 w.heap.size (by simp)).alloc _).below b1
  have X1_1 : Hid (Box w1 (w.heap.size + 1) #[.int .i64 0, .int .i64 0]) := (Box.new' _ #[.int .i64 0, .int .i64 0] 50 (w.heap.size + 1) (by simp)).below b1
  obtain ⟨l1_0, k1_0, f1_0⟩ := X1_0.out
  obtain ⟨l1_1, k1_1, f1_1⟩ := X1_1.out
  clear b1 c1
  go_wp2_with fail
  refine bodyPost_ret ?_ rfl ⟨.slice none 0 0, rfl, ActRow.nil _ _, ?_⟩
  · simp [results, Tryd.results24, go_sem, k1_1]
  · exact ((HB1.out).setCell (by first | omega | (simp; done) | (simp; omega)) _).setCell (by first | omega | (simp; done) | (simp; omega)) _
set_option maxRecDepth 100000 in
set_option maxHeartbeats 2000000 in
theorem rStart_3 (e : Bool) (a p t : Int) (noted : Bool) (w : World) (q1 : okB e a p = true) (t0 : ¬ t < 0) (t1 : t > 16) : Calls Tryd.prog 24 #[.agg #[.bool e, .int .i64 a, .int .i64 p], .int .i64 t, .bool noted] w (AnsQ4 ⟨0, 0, [], 0, 224⟩ w) := by
  have c1 : ∀ w, Calls Tryd.prog 45 #[.agg #[.bool e, .int .i64 a, .int .i64 p]] w fun r w' => r = .returned (.bool true) ∧ Below w.heap.size w w' := fun w => by have := rRight_any e a p w; rw [q1] at this; exact this
  go_enter Tryd.func24, Tryd.ntmps24
  go_wp2_with fail
  refine (c1 _).mono ?_
  rintro _ w1 ⟨rfl, b1⟩
  have HB1 : Hid (Below w.heap.size w w1) := below_then (((Below.refl _ _).alloc (by first | omega | (simp; done) | (simp; omega)) _).alloc (by first | omega | (simp; done) | (simp; omega)) _) b1
  have X1_0 : Hid (Box w1 w.heap.size #[.bool e, .int .i64 a, .int .i64 p]) := ((Box.new' _ #[.bool e, .int .i64 a, .int .i64 p] 23 w.heap.size (by simp)).alloc _).below b1
  have X1_1 : Hid (Box w1 (w.heap.size + 1) #[.int .i64 0, .int .i64 0]) := (Box.new' _ #[.int .i64 0, .int .i64 0] 50 (w.heap.size + 1) (by simp)).below b1
  obtain ⟨l1_0, k1_0, f1_0⟩ := X1_0.out
  obtain ⟨l1_1, k1_1, f1_1⟩ := X1_1.out
  clear b1 c1
  go_wp2_with fail
  refine bodyPost_ret ?_ rfl ⟨.slice none 0 0, rfl, ActRow.nil _ _, ?_⟩
  · simp [results, Tryd.results24, go_sem, k1_1]
  · exact ((HB1.out).setCell (by first | omega | (simp; done) | (simp; omega)) _).setCell (by first | omega | (simp; done) | (simp; omega)) _
end Go.Proofs.YtjmjimbhoncidaaDoor
