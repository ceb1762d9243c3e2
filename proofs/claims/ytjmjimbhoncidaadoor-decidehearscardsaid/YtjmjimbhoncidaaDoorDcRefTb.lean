/-
  The document's Take, Judge, Copy, way by way.
-/
import Derived.Test.YtjmjimbhoncidaaDoorDcRefF
namespace Go.Proofs.YtjmjimbhoncidaaDoor
open Go.RowKit

set_option maxRecDepth 100000 in
set_option maxHeartbeats 2000000 in
theorem rJudge_3 (e : Bool) (a p : Int) (c s : ByteArray) (w : World) (q1 : okB e a p = true) (q3 : keptB true c = true) : Calls Tryd.prog 29 #[.agg #[.bool e, .int .i64 a, .int .i64 p], .agg #[.bool true, .string c], .string s] w (Ans2Q ⟨false, nT, [], 223⟩ w) := by
  have c1 : ∀ w, Calls Tryd.prog 45 #[.agg #[.bool e, .int .i64 a, .int .i64 p]] w fun r w' => r = .returned (.bool true) ∧ Below w.heap.size w w' := fun w => by have := rRight_any e a p w; rw [q1] at this; exact this
  have c2 : ∀ w, Calls Tryd.prog 58 #[.agg #[.bool true, .string c]] w fun r w' => r = .returned (.bool true) ∧ Below w.heap.size w w' := fun w => by have := rKept_any true c w; rw [q3] at this; exact this
  go_enter Tryd.func29, Tryd.ntmps29
  go_wp2_with fail
  refine (c1 _).mono ?_
  rintro _ w1 ⟨rfl, b1⟩
  have HB1 : Hid (Below w.heap.size w w1) := below_then ((((Below.refl _ _).alloc (by first | omega | (simp; done) | (simp; omega)) _).alloc (by first | omega | (simp; done) | (simp; omega)) _).alloc (by first | omega | (simp; done) | (simp; omega)) _) b1
  have X1_0 : Hid (Box w1 w.heap.size #[.bool e, .int .i64 a, .int .i64 p]) := (((Box.new' _ #[.bool e, .int .i64 a, .int .i64 p] 23 w.heap.size (by simp)).alloc _).alloc _).below b1
  have X1_1 : Hid (Box w1 (w.heap.size + 1) #[.bool true, .string c]) := ((Box.new' _ #[.bool true, .string c] 59 (w.heap.size + 1) (by simp)).alloc _).below b1
  have X1_2 : Hid (Box w1 (w.heap.size + 1 + 1) #[.bool false, .string ⟨#[]⟩]) := (Box.new' _ #[.bool false, .string ⟨#[]⟩] 59 (w.heap.size + 1 + 1) (by simp)).below b1
  clear b1 c1
  obtain ⟨l1_0, k1_0, f1_0⟩ := X1_0.out
  obtain ⟨l1_1, k1_1, f1_1⟩ := X1_1.out
  obtain ⟨l1_2, k1_2, f1_2⟩ := X1_2.out
  go_wp2_with fail
  refine (c2 _).mono ?_
  rintro _ w2 ⟨rfl, b2⟩
  have HB2 : Hid (Below w.heap.size w w2) := below_then HB1.out b2
  have X2_0 : Hid (Box w2 w.heap.size #[.bool e, .int .i64 a, .int .i64 p]) := X1_0.out.below b2
  have X2_1 : Hid (Box w2 (w.heap.size + 1) #[.bool true, .string c]) := X1_1.out.below b2
  have X2_2 : Hid (Box w2 (w.heap.size + 1 + 1) #[.bool false, .string ⟨#[]⟩]) := X1_2.out.below b2
  clear k1_0 l1_0 f1_0 X1_0 k1_1 l1_1 f1_1 X1_1 k1_2 l1_2 f1_2 X1_2 HB1
  clear b2 c2
  obtain ⟨l2_0, k2_0, f2_0⟩ := X2_0.out
  obtain ⟨l2_1, k2_1, f2_1⟩ := X2_1.out
  obtain ⟨l2_2, k2_2, f2_2⟩ := X2_2.out
  go_wp2_with fail
  refine bodyPost_ret ?_ rfl ⟨.slice none 0 0, rfl, ActRow.nil _ _, ?_⟩
  · simp [results, Tryd.results29, go_sem, k2_2]
  · exact (HB2.out.setCell (by first | omega | (simp; done) | (simp; omega)) _).setCell (by first | omega | (simp; done) | (simp; omega)) _
set_option maxRecDepth 100000 in
set_option maxHeartbeats 2000000 in
theorem rJudge_4 (e : Bool) (a p : Int) (c s : ByteArray) (w : World) (q1 : okB e a p = true) (q3 : keptB false c = true) (q4 : verB s = false) : Calls Tryd.prog 29 #[.agg #[.bool e, .int .i64 a, .int .i64 p], .agg #[.bool false, .string c], .string s] w (Ans2Q ⟨false, nT, [], 221⟩ w) := by
  have c1 : ∀ w, Calls Tryd.prog 45 #[.agg #[.bool e, .int .i64 a, .int .i64 p]] w fun r w' => r = .returned (.bool true) ∧ Below w.heap.size w w' := fun w => by have := rRight_any e a p w; rw [q1] at this; exact this
  have c2 : ∀ w, Calls Tryd.prog 58 #[.agg #[.bool false, .string c]] w fun r w' => r = .returned (.bool true) ∧ Below w.heap.size w w' := fun w => by have := rKept_any false c w; rw [q3] at this; exact this
  have c3 : ∀ w, Calls Tryd.prog 59 #[.string s] w fun r w' => r = .returned (.bool false) ∧ Below w.heap.size w w' := fun w => by have := rVerdict_any s w; rw [q4] at this; exact this
  go_enter Tryd.func29, Tryd.ntmps29
  go_wp2_with fail
  refine (c1 _).mono ?_
  rintro _ w1 ⟨rfl, b1⟩
  have HB1 : Hid (Below w.heap.size w w1) := below_then ((((Below.refl _ _).alloc (by first | omega | (simp; done) | (simp; omega)) _).alloc (by first | omega | (simp; done) | (simp; omega)) _).alloc (by first | omega | (simp; done) | (simp; omega)) _) b1
  have X1_0 : Hid (Box w1 w.heap.size #[.bool e, .int .i64 a, .int .i64 p]) := (((Box.new' _ #[.bool e, .int .i64 a, .int .i64 p] 23 w.heap.size (by simp)).alloc _).alloc _).below b1
  have X1_1 : Hid (Box w1 (w.heap.size + 1) #[.bool false, .string c]) := ((Box.new' _ #[.bool false, .string c] 59 (w.heap.size + 1) (by simp)).alloc _).below b1
  have X1_2 : Hid (Box w1 (w.heap.size + 1 + 1) #[.bool false, .string ⟨#[]⟩]) := (Box.new' _ #[.bool false, .string ⟨#[]⟩] 59 (w.heap.size + 1 + 1) (by simp)).below b1
  clear b1 c1
  obtain ⟨l1_0, k1_0, f1_0⟩ := X1_0.out
  obtain ⟨l1_1, k1_1, f1_1⟩ := X1_1.out
  obtain ⟨l1_2, k1_2, f1_2⟩ := X1_2.out
  go_wp2_with fail
  refine (c2 _).mono ?_
  rintro _ w2 ⟨rfl, b2⟩
  have HB2 : Hid (Below w.heap.size w w2) := below_then HB1.out b2
  have X2_0 : Hid (Box w2 w.heap.size #[.bool e, .int .i64 a, .int .i64 p]) := X1_0.out.below b2
  have X2_1 : Hid (Box w2 (w.heap.size + 1) #[.bool false, .string c]) := X1_1.out.below b2
  have X2_2 : Hid (Box w2 (w.heap.size + 1 + 1) #[.bool false, .string ⟨#[]⟩]) := X1_2.out.below b2
  clear k1_0 l1_0 f1_0 X1_0 k1_1 l1_1 f1_1 X1_1 k1_2 l1_2 f1_2 X1_2 HB1
  clear b2 c2
  obtain ⟨l2_0, k2_0, f2_0⟩ := X2_0.out
  obtain ⟨l2_1, k2_1, f2_1⟩ := X2_1.out
  obtain ⟨l2_2, k2_2, f2_2⟩ := X2_2.out
  go_wp2_with fail
  refine (c3 _).mono ?_
  rintro _ w3 ⟨rfl, b3⟩
  have HB3 : Hid (Below w.heap.size w w3) := below_then HB2.out b3
  have X3_0 : Hid (Box w3 w.heap.size #[.bool e, .int .i64 a, .int .i64 p]) := X2_0.out.below b3
  have X3_1 : Hid (Box w3 (w.heap.size + 1) #[.bool false, .string c]) := X2_1.out.below b3
  have X3_2 : Hid (Box w3 (w.heap.size + 1 + 1) #[.bool false, .string ⟨#[]⟩]) := X2_2.out.below b3
  clear k2_0 l2_0 f2_0 X2_0 k2_1 l2_1 f2_1 X2_1 k2_2 l2_2 f2_2 X2_2 HB2
  clear b3 c3
  obtain ⟨l3_0, k3_0, f3_0⟩ := X3_0.out
  obtain ⟨l3_1, k3_1, f3_1⟩ := X3_1.out
  obtain ⟨l3_2, k3_2, f3_2⟩ := X3_2.out
  go_wp2_with fail
  refine bodyPost_ret ?_ rfl ⟨.slice none 0 0, rfl, ActRow.nil _ _, ?_⟩
  · simp [results, Tryd.results29, go_sem, k3_2]
  · exact (HB3.out.setCell (by first | omega | (simp; done) | (simp; omega)) _).setCell (by first | omega | (simp; done) | (simp; omega)) _
set_option maxRecDepth 100000 in
set_option maxHeartbeats 2000000 in
theorem rJudge_5 (e : Bool) (a p : Int) (c s : ByteArray) (w : World) (q1 : okB e a p = true) (q3 : keptB false c = true) (q4 : verB s = true) (q5 : sentB e a p s = false) : Calls Tryd.prog 29 #[.agg #[.bool e, .int .i64 a, .int .i64 p], .agg #[.bool false, .string c], .string s] w (Ans2Q ⟨true, s, [], 0⟩ w) := by
  have c1 : ∀ w, Calls Tryd.prog 45 #[.agg #[.bool e, .int .i64 a, .int .i64 p]] w fun r w' => r = .returned (.bool true) ∧ Below w.heap.size w w' := fun w => by have := rRight_any e a p w; rw [q1] at this; exact this
  have c2 : ∀ w, Calls Tryd.prog 58 #[.agg #[.bool false, .string c]] w fun r w' => r = .returned (.bool true) ∧ Below w.heap.size w w' := fun w => by have := rKept_any false c w; rw [q3] at this; exact this
  have c3 : ∀ w, Calls Tryd.prog 59 #[.string s] w fun r w' => r = .returned (.bool true) ∧ Below w.heap.size w w' := fun w => by have := rVerdict_any s w; rw [q4] at this; exact this
  have c4 : ∀ w, Calls Tryd.prog 48 #[.agg #[.bool e, .int .i64 a, .int .i64 p], .string s] w fun r w' => r = .returned (.bool false) ∧ Below w.heap.size w w' := fun w => by have := rSent_any e a p s w; rw [q5] at this; exact this
  go_enter Tryd.func29, Tryd.ntmps29
  go_wp2_with fail
  refine (c1 _).mono ?_
  rintro _ w1 ⟨rfl, b1⟩
  have HB1 : Hid (Below w.heap.size w w1) := below_then ((((Below.refl _ _).alloc (by first | omega | (simp; done) | (simp; omega)) _).alloc (by first | omega | (simp; done) | (simp; omega)) _).alloc (by first | omega | (simp; done) | (simp; omega)) _) b1
  have X1_0 : Hid (Box w1 w.heap.size #[.bool e, .int .i64 a, .int .i64 p]) := (((Box.new' _ #[.bool e, .int .i64 a, .int .i64 p] 23 w.heap.size (by simp)).alloc _).alloc _).below b1
  have X1_1 : Hid (Box w1 (w.heap.size + 1) #[.bool false, .string c]) := ((Box.new' _ #[.bool false, .string c] 59 (w.heap.size + 1) (by simp)).alloc _).below b1
  have X1_2 : Hid (Box w1 (w.heap.size + 1 + 1) #[.bool false, .string ⟨#[]⟩]) := (Box.new' _ #[.bool false, .string ⟨#[]⟩] 59 (w.heap.size + 1 + 1) (by simp)).below b1
  clear b1 c1
  obtain ⟨l1_0, k1_0, f1_0⟩ := X1_0.out
  obtain ⟨l1_1, k1_1, f1_1⟩ := X1_1.out
  obtain ⟨l1_2, k1_2, f1_2⟩ := X1_2.out
  go_wp2_with fail
  refine (c2 _).mono ?_
  rintro _ w2 ⟨rfl, b2⟩
  have HB2 : Hid (Below w.heap.size w w2) := below_then HB1.out b2
  have X2_0 : Hid (Box w2 w.heap.size #[.bool e, .int .i64 a, .int .i64 p]) := X1_0.out.below b2
  have X2_1 : Hid (Box w2 (w.heap.size + 1) #[.bool false, .string c]) := X1_1.out.below b2
  have X2_2 : Hid (Box w2 (w.heap.size + 1 + 1) #[.bool false, .string ⟨#[]⟩]) := X1_2.out.below b2
  clear k1_0 l1_0 f1_0 X1_0 k1_1 l1_1 f1_1 X1_1 k1_2 l1_2 f1_2 X1_2 HB1
  clear b2 c2
  obtain ⟨l2_0, k2_0, f2_0⟩ := X2_0.out
  obtain ⟨l2_1, k2_1, f2_1⟩ := X2_1.out
  obtain ⟨l2_2, k2_2, f2_2⟩ := X2_2.out
  go_wp2_with fail
  refine (c3 _).mono ?_
  rintro _ w3 ⟨rfl, b3⟩
  have HB3 : Hid (Below w.heap.size w w3) := below_then HB2.out b3
  have X3_0 : Hid (Box w3 w.heap.size #[.bool e, .int .i64 a, .int .i64 p]) := X2_0.out.below b3
  have X3_1 : Hid (Box w3 (w.heap.size + 1) #[.bool false, .string c]) := X2_1.out.below b3
  have X3_2 : Hid (Box w3 (w.heap.size + 1 + 1) #[.bool false, .string ⟨#[]⟩]) := X2_2.out.below b3
  clear k2_0 l2_0 f2_0 X2_0 k2_1 l2_1 f2_1 X2_1 k2_2 l2_2 f2_2 X2_2 HB2
  clear b3 c3
  obtain ⟨l3_0, k3_0, f3_0⟩ := X3_0.out
  obtain ⟨l3_1, k3_1, f3_1⟩ := X3_1.out
  obtain ⟨l3_2, k3_2, f3_2⟩ := X3_2.out
  go_wp2_with fail
  refine (c4 _).mono ?_
  rintro _ w4 ⟨rfl, b4⟩
  have HB4 : Hid (Below w.heap.size w w4) := below_then HB3.out b4
  have X4_0 : Hid (Box w4 w.heap.size #[.bool e, .int .i64 a, .int .i64 p]) := X3_0.out.below b4
  have X4_1 : Hid (Box w4 (w.heap.size + 1) #[.bool false, .string c]) := X3_1.out.below b4
  have X4_2 : Hid (Box w4 (w.heap.size + 1 + 1) #[.bool false, .string ⟨#[]⟩]) := X3_2.out.below b4
  clear k3_0 l3_0 f3_0 X3_0 k3_1 l3_1 f3_1 X3_1 k3_2 l3_2 f3_2 X3_2 HB3
  clear b4 c4
  obtain ⟨l4_0, k4_0, f4_0⟩ := X4_0.out
  obtain ⟨l4_1, k4_1, f4_1⟩ := X4_1.out
  obtain ⟨l4_2, k4_2, f4_2⟩ := X4_2.out
  go_wp2_with fail
  refine bodyPost_ret ?_ rfl ⟨.slice none 0 0, rfl, ActRow.nil _ _, ?_⟩
  · simp [results, Tryd.results29, go_sem, k4_2]
  · exact (HB4.out.setCell (by first | omega | (simp; done) | (simp; omega)) _).setCell (by first | omega | (simp; done) | (simp; omega)) _
set_option maxRecDepth 100000 in
set_option maxHeartbeats 2000000 in
theorem rJudge_6 (e : Bool) (a p : Int) (c s : ByteArray) (w : World) (q1 : okB e a p = true) (q3 : keptB false c = true) (q4 : verB s = true) (q5 : sentB e a p s = true) : Calls Tryd.prog 29 #[.agg #[.bool e, .int .i64 a, .int .i64 p], .agg #[.bool false, .string c], .string s] w (Ans2Q ⟨true, s, [(9, s)], 0⟩ w) := by
  have c1 : ∀ w, Calls Tryd.prog 45 #[.agg #[.bool e, .int .i64 a, .int .i64 p]] w fun r w' => r = .returned (.bool true) ∧ Below w.heap.size w w' := fun w => by have := rRight_any e a p w; rw [q1] at this; exact this
  have c2 : ∀ w, Calls Tryd.prog 58 #[.agg #[.bool false, .string c]] w fun r w' => r = .returned (.bool true) ∧ Below w.heap.size w w' := fun w => by have := rKept_any false c w; rw [q3] at this; exact this
  have c3 : ∀ w, Calls Tryd.prog 59 #[.string s] w fun r w' => r = .returned (.bool true) ∧ Below w.heap.size w w' := fun w => by have := rVerdict_any s w; rw [q4] at this; exact this
  have c4 : ∀ w, Calls Tryd.prog 48 #[.agg #[.bool e, .int .i64 a, .int .i64 p], .string s] w fun r w' => r = .returned (.bool true) ∧ Below w.heap.size w w' := fun w => by have := rSent_any e a p s w; rw [q5] at this; exact this
  go_enter Tryd.func29, Tryd.ntmps29
  go_wp2_with fail
  refine (c1 _).mono ?_
  rintro _ w1 ⟨rfl, b1⟩
  have HB1 : Hid (Below w.heap.size w w1) := below_then ((((Below.refl _ _).alloc (by first | omega | (simp; done) | (simp; omega)) _).alloc (by first | omega | (simp; done) | (simp; omega)) _).alloc (by first | omega | (simp; done) | (simp; omega)) _) b1
  have X1_0 : Hid (Box w1 w.heap.size #[.bool e, .int .i64 a, .int .i64 p]) := (((Box.new' _ #[.bool e, .int .i64 a, .int .i64 p] 23 w.heap.size (by simp)).alloc _).alloc _).below b1
  have X1_1 : Hid (Box w1 (w.heap.size + 1) #[.bool false, .string c]) := ((Box.new' _ #[.bool false, .string c] 59 (w.heap.size + 1) (by simp)).alloc _).below b1
  have X1_2 : Hid (Box w1 (w.heap.size + 1 + 1) #[.bool false, .string ⟨#[]⟩]) := (Box.new' _ #[.bool false, .string ⟨#[]⟩] 59 (w.heap.size + 1 + 1) (by simp)).below b1
  clear b1 c1
  obtain ⟨l1_0, k1_0, f1_0⟩ := X1_0.out
  obtain ⟨l1_1, k1_1, f1_1⟩ := X1_1.out
  obtain ⟨l1_2, k1_2, f1_2⟩ := X1_2.out
  go_wp2_with fail
  refine (c2 _).mono ?_
  rintro _ w2 ⟨rfl, b2⟩
  have HB2 : Hid (Below w.heap.size w w2) := below_then HB1.out b2
  have X2_0 : Hid (Box w2 w.heap.size #[.bool e, .int .i64 a, .int .i64 p]) := X1_0.out.below b2
  have X2_1 : Hid (Box w2 (w.heap.size + 1) #[.bool false, .string c]) := X1_1.out.below b2
  have X2_2 : Hid (Box w2 (w.heap.size + 1 + 1) #[.bool false, .string ⟨#[]⟩]) := X1_2.out.below b2
  clear k1_0 l1_0 f1_0 X1_0 k1_1 l1_1 f1_1 X1_1 k1_2 l1_2 f1_2 X1_2 HB1
  clear b2 c2
  obtain ⟨l2_0, k2_0, f2_0⟩ := X2_0.out
  obtain ⟨l2_1, k2_1, f2_1⟩ := X2_1.out
  obtain ⟨l2_2, k2_2, f2_2⟩ := X2_2.out
  go_wp2_with fail
  refine (c3 _).mono ?_
  rintro _ w3 ⟨rfl, b3⟩
  have HB3 : Hid (Below w.heap.size w w3) := below_then HB2.out b3
  have X3_0 : Hid (Box w3 w.heap.size #[.bool e, .int .i64 a, .int .i64 p]) := X2_0.out.below b3
  have X3_1 : Hid (Box w3 (w.heap.size + 1) #[.bool false, .string c]) := X2_1.out.below b3
  have X3_2 : Hid (Box w3 (w.heap.size + 1 + 1) #[.bool false, .string ⟨#[]⟩]) := X2_2.out.below b3
  clear k2_0 l2_0 f2_0 X2_0 k2_1 l2_1 f2_1 X2_1 k2_2 l2_2 f2_2 X2_2 HB2
  clear b3 c3
  obtain ⟨l3_0, k3_0, f3_0⟩ := X3_0.out
  obtain ⟨l3_1, k3_1, f3_1⟩ := X3_1.out
  obtain ⟨l3_2, k3_2, f3_2⟩ := X3_2.out
  go_wp2_with fail
  refine (c4 _).mono ?_
  rintro _ w4 ⟨rfl, b4⟩
  have HB4 : Hid (Below w.heap.size w w4) := below_then HB3.out b4
  have X4_0 : Hid (Box w4 w.heap.size #[.bool e, .int .i64 a, .int .i64 p]) := X3_0.out.below b4
  have X4_1 : Hid (Box w4 (w.heap.size + 1) #[.bool false, .string c]) := X3_1.out.below b4
  have X4_2 : Hid (Box w4 (w.heap.size + 1 + 1) #[.bool false, .string ⟨#[]⟩]) := X3_2.out.below b4
  clear k3_0 l3_0 f3_0 X3_0 k3_1 l3_1 f3_1 X3_1 k3_2 l3_2 f3_2 X3_2 HB3
  clear b4 c4
  obtain ⟨l4_0, k4_0, f4_0⟩ := X4_0.out
  obtain ⟨l4_1, k4_1, f4_1⟩ := X4_1.out
  obtain ⟨l4_2, k4_2, f4_2⟩ := X4_2.out
  have HS : Hid (w.heap.size ≤ w4.heap.size ∧ w.heap.size < w4.heap.size ∧ (w.heap.size + 1) < w4.heap.size ∧ (w.heap.size + 1 + 1) < w4.heap.size) := ⟨HB4.out.size, X4_0.out.lt, X4_1.out.lt, X4_2.out.lt⟩
  obtain ⟨a5, d5, w5, e5, r5, b5⟩ := run_apush (ActRow.nil w4 w4.heap.size) (Nat.le_refl _) (by simp) (9, s) #[.int .i64 9, .string s] rfl
  have g5 : (Builtin.append_ #[51, 51] 51 #[.slice none 0 0, .slice (some ⟨w4.heap.size, 0, none⟩) 1 1]).run Tryd.prog (w4.alloc (.cells #[.int .i64 9, .string s] 85)) = .ok (.slice a5 1 d5) w5 := e5
  have HR5 : Hid (ActRow w5 w4.heap.size (.slice a5 1 d5) [(9, s)] ∧ w4.heap.size ≤ w5.heap.size) := ⟨r5, by have h1 := b5.size; omega⟩
  have HB5 : Hid (Below w.heap.size w w5) := HB4.out.trans (b5.mono HS.out.1)
  have X5_0 : Hid (Box w5 w.heap.size #[.bool e, .int .i64 a, .int .i64 p]) := X4_0.out.belowB b5 HS.out.2.1 (Nat.le_refl _)
  have X5_1 : Hid (Box w5 (w.heap.size + 1) #[.bool false, .string c]) := X4_1.out.belowB b5 HS.out.2.2.1 (Nat.le_refl _)
  have X5_2 : Hid (Box w5 (w.heap.size + 1 + 1) #[.bool false, .string ⟨#[]⟩]) := X4_2.out.belowB b5 HS.out.2.2.2 (Nat.le_refl _)
  clear X4_0 X4_1 X4_2 HB4 e5 r5 b5
  obtain ⟨l5_0, k5_0, f5_0⟩ := X5_0.out
  obtain ⟨l5_1, k5_1, f5_1⟩ := X5_1.out
  obtain ⟨l5_2, k5_2, f5_2⟩ := X5_2.out
  go_wp2_with (first | (at_builtin; refine wpList_append_run rfl (.tmp 29) (.tmp 32) 51 _ rfl g5 ?_))
  refine bodyPost_ret ?_ rfl ⟨.slice a5 1 d5, rfl, ((HR5.out.1.set (fun g hg => by have h1 := HR5.out.1.ne hg; have h2 := HS.out; simp; omega)).set (fun g hg => by have h1 := HR5.out.1.ne hg; have h2 := HS.out; simp; omega)).mono HS.out.1, ?_⟩
  · simp [results, Tryd.results29, go_sem, k5_2]
  · exact (HB5.out.setCell (by first | omega | (simp; done) | (simp; omega)) _).setCell (by first | omega | (simp; done) | (simp; omega)) _
set_option maxRecDepth 100000 in
set_option maxHeartbeats 2000000 in
theorem rCopy_1 (e : Bool) (a p : Int) (d : Bool) (c : ByteArray) (w : World) (q1 : okB e a p = false) : Calls Tryd.prog 31 #[.agg #[.bool e, .int .i64 a, .int .i64 p], .agg #[.bool d, .string c]] w (CopyQ ⟨false, nT, [], 220⟩ w) := by
  have c1 : ∀ w, Calls Tryd.prog 45 #[.agg #[.bool e, .int .i64 a, .int .i64 p]] w fun r w' => r = .returned (.bool false) ∧ Below w.heap.size w w' := fun w => by have := rRight_any e a p w; rw [q1] at this; exact this
  go_enter Tryd.func31, Tryd.ntmps31
  go_wp2_with fail
  refine (c1 _).mono ?_
  rintro _ w1 ⟨rfl, b1⟩
  have HB1 : Hid (Below w.heap.size w w1) := below_then (((Below.refl _ _).alloc (by first | omega | (simp; done) | (simp; omega)) _).alloc (by first | omega | (simp; done) | (simp; omega)) _) b1
  have X1_0 : Hid (Box w1 w.heap.size #[.bool e, .int .i64 a, .int .i64 p]) := ((Box.new' _ #[.bool e, .int .i64 a, .int .i64 p] 23 w.heap.size (by simp)).alloc _).below b1
  have X1_1 : Hid (Box w1 (w.heap.size + 1) #[.bool d, .string c]) := (Box.new' _ #[.bool d, .string c] 59 (w.heap.size + 1) (by simp)).below b1
  clear b1 c1
  obtain ⟨l1_0, k1_0, f1_0⟩ := X1_0.out
  obtain ⟨l1_1, k1_1, f1_1⟩ := X1_1.out
  go_wp2_with fail
  refine bodyPost_ret ?_ rfl ⟨.slice none 0 0, rfl, ActRow.nil _ _, HB1.out⟩
  simp [results, Tryd.results31, go_sem]
set_option maxRecDepth 100000 in
set_option maxHeartbeats 2000000 in
theorem rCopy_2 (e : Bool) (a p : Int) (d : Bool) (c : ByteArray) (w : World) (q1 : okB e a p = true) (q3 : keptB d c = false) : Calls Tryd.prog 31 #[.agg #[.bool e, .int .i64 a, .int .i64 p], .agg #[.bool d, .string c]] w (CopyQ ⟨false, nT, [], 223⟩ w) := by
  have c1 : ∀ w, Calls Tryd.prog 45 #[.agg #[.bool e, .int .i64 a, .int .i64 p]] w fun r w' => r = .returned (.bool true) ∧ Below w.heap.size w w' := fun w => by have := rRight_any e a p w; rw [q1] at this; exact this
  have c2 : ∀ w, Calls Tryd.prog 58 #[.agg #[.bool d, .string c]] w fun r w' => r = .returned (.bool false) ∧ Below w.heap.size w w' := fun w => by have := rKept_any d c w; rw [q3] at this; exact this
  go_enter Tryd.func31, Tryd.ntmps31
  go_wp2_with fail
  refine (c1 _).mono ?_
  rintro _ w1 ⟨rfl, b1⟩
  have HB1 : Hid (Below w.heap.size w w1) := below_then (((Below.refl _ _).alloc (by first | omega | (simp; done) | (simp; omega)) _).alloc (by first | omega | (simp; done) | (simp; omega)) _) b1
  have X1_0 : Hid (Box w1 w.heap.size #[.bool e, .int .i64 a, .int .i64 p]) := ((Box.new' _ #[.bool e, .int .i64 a, .int .i64 p] 23 w.heap.size (by simp)).alloc _).below b1
  have X1_1 : Hid (Box w1 (w.heap.size + 1) #[.bool d, .string c]) := (Box.new' _ #[.bool d, .string c] 59 (w.heap.size + 1) (by simp)).below b1
  clear b1 c1
  obtain ⟨l1_0, k1_0, f1_0⟩ := X1_0.out
  obtain ⟨l1_1, k1_1, f1_1⟩ := X1_1.out
  go_wp2_with fail
  refine (c2 _).mono ?_
  rintro _ w2 ⟨rfl, b2⟩
  have HB2 : Hid (Below w.heap.size w w2) := below_then HB1.out b2
  have X2_0 : Hid (Box w2 w.heap.size #[.bool e, .int .i64 a, .int .i64 p]) := X1_0.out.below b2
  have X2_1 : Hid (Box w2 (w.heap.size + 1) #[.bool d, .string c]) := X1_1.out.below b2
  clear k1_0 l1_0 f1_0 X1_0 k1_1 l1_1 f1_1 X1_1 HB1
  clear b2 c2
  obtain ⟨l2_0, k2_0, f2_0⟩ := X2_0.out
  obtain ⟨l2_1, k2_1, f2_1⟩ := X2_1.out
  go_wp2_with fail
  refine bodyPost_ret ?_ rfl ⟨.slice none 0 0, rfl, ActRow.nil _ _, HB2.out⟩
  simp [results, Tryd.results31, go_sem]
end Go.Proofs.YtjmjimbhoncidaaDoor
