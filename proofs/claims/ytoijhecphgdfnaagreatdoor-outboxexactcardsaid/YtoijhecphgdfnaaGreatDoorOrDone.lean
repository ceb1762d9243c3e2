import Derived.Test.YtoijhecphgdfnaaGreatDoorOrBase
import Derived.Test.YtoijhecphgdfnaaGreatDoorDcRefHa
import Derived.Test.YtoijhecphgdfnaaGreatDoorDcRefHb
import Derived.Test.YtoijhecphgdfnaaGreatDoorDcRefHc
import Derived.Test.YtoijhecphgdfnaaGreatDoorDcRefHd
import Derived.Test.YtoijhecphgdfnaaGreatDoorDcRefSb
import Derived.Test.YtoijhecphgdfnaaGreatDoorDcRefSc
/-
  The document's Due, way by way.
-/
namespace Go.Proofs.YtoijhecphgdfnaaGreatDoor
open Go.RowKit

set_option maxRecDepth 100000 in
set_option maxHeartbeats 2000000 in
theorem rDue_1 (e : Bool) (a p st lf : Int) (w : World) (q1 : okB e a p = false) : Calls Tryz.prog 67 #[.agg #[.bool e, .int .i64 a, .int .i64 p], .agg #[.int .i64 st, .int .i64 lf]] w (AnsQ ⟨0, 0, [], 0, 220⟩ w) := by
  have c1 : ∀ w, Calls Tryz.prog 48 #[.agg #[.bool e, .int .i64 a, .int .i64 p]] w fun r w' => r = .returned (.bool false) ∧ Below w.heap.size w w' := fun w => by have := rRight_any e a p w; rw [q1] at this; exact this
  go_enter Tryz.func67, Tryz.ntmps67
  go_wp2_with fail
  refine (c1 _).mono ?_
  rintro _ w1 ⟨rfl, b1⟩
  have HB1 : Hid (Below w.heap.size w w1) := below_then ((((Below.refl _ _).alloc (by first | omega | (simp; done) | (simp; omega)) _).alloc (by first | omega | (simp; done) | (simp; omega)) _).alloc (by first | omega | (simp; done) | (simp; omega)) _) b1
  have X1_0 : Hid (Box w1 w.heap.size #[.bool e, .int .i64 a, .int .i64 p]) := (((Box.new' _ #[.bool e, .int .i64 a, .int .i64 p] 45 w.heap.size (by simp)).alloc _).alloc _).below b1
  have X1_1 : Hid (Box w1 (w.heap.size + 1) #[.int .i64 st, .int .i64 lf]) := ((Box.new' _ #[.int .i64 st, .int .i64 lf] 89 (w.heap.size + 1) (by simp)).alloc _).below b1
  have X1_2 : Hid (Box w1 (w.heap.size + 1 + 1) #[.int .i64 0, .int .i64 0]) := (Box.new' _ #[.int .i64 0, .int .i64 0] 89 (w.heap.size + 1 + 1) (by simp)).below b1
  obtain ⟨l1_0, k1_0, f1_0⟩ := X1_0.out
  obtain ⟨l1_1, k1_1, f1_1⟩ := X1_1.out
  obtain ⟨l1_2, k1_2, f1_2⟩ := X1_2.out
  clear b1 c1
  go_wp2_with fail
  refine bodyPost_ret ?_ rfl ⟨.slice none 0 0, rfl, ActRow.nil _ _, ?_⟩
  · simp [results, Tryz.results67, go_sem, k1_2]
  · exact ((HB1.out).setCell (by first | omega | (simp; done) | (simp; omega)) _).setCell (by first | omega | (simp; done) | (simp; omega)) _
set_option maxRecDepth 100000 in
set_option maxHeartbeats 2000000 in
theorem rDue_2 (e : Bool) (a p st lf : Int) (w : World) (q1 : okB e a p = true) (q2 : fitB e a p st lf = false) : Calls Tryz.prog 67 #[.agg #[.bool e, .int .i64 a, .int .i64 p], .agg #[.int .i64 st, .int .i64 lf]] w (AnsQ ⟨0, 0, [], 0, 222⟩ w) := by
  have c1 : ∀ w, Calls Tryz.prog 48 #[.agg #[.bool e, .int .i64 a, .int .i64 p]] w fun r w' => r = .returned (.bool true) ∧ Below w.heap.size w w' := fun w => by have := rRight_any e a p w; rw [q1] at this; exact this
  have c2 : ∀ w, Calls Tryz.prog 97 #[.agg #[.bool e, .int .i64 a, .int .i64 p], .agg #[.int .i64 st, .int .i64 lf]] w fun r w' => r = .returned (.bool false) ∧ Below w.heap.size w w' := fun w => by have := rFits_any e a p st lf w; rw [q2] at this; exact this
  go_enter Tryz.func67, Tryz.ntmps67
  go_wp2_with fail
  refine (c1 _).mono ?_
  rintro _ w1 ⟨rfl, b1⟩
  have HB1 : Hid (Below w.heap.size w w1) := below_then ((((Below.refl _ _).alloc (by first | omega | (simp; done) | (simp; omega)) _).alloc (by first | omega | (simp; done) | (simp; omega)) _).alloc (by first | omega | (simp; done) | (simp; omega)) _) b1
  have X1_0 : Hid (Box w1 w.heap.size #[.bool e, .int .i64 a, .int .i64 p]) := (((Box.new' _ #[.bool e, .int .i64 a, .int .i64 p] 45 w.heap.size (by simp)).alloc _).alloc _).below b1
  have X1_1 : Hid (Box w1 (w.heap.size + 1) #[.int .i64 st, .int .i64 lf]) := ((Box.new' _ #[.int .i64 st, .int .i64 lf] 89 (w.heap.size + 1) (by simp)).alloc _).below b1
  have X1_2 : Hid (Box w1 (w.heap.size + 1 + 1) #[.int .i64 0, .int .i64 0]) := (Box.new' _ #[.int .i64 0, .int .i64 0] 89 (w.heap.size + 1 + 1) (by simp)).below b1
  obtain ⟨l1_0, k1_0, f1_0⟩ := X1_0.out
  obtain ⟨l1_1, k1_1, f1_1⟩ := X1_1.out
  obtain ⟨l1_2, k1_2, f1_2⟩ := X1_2.out
  clear b1 c1
  go_wp2_with fail
  refine (c2 _).mono ?_
  rintro _ w2 ⟨rfl, b2⟩
  have HB2 : Hid (Below w.heap.size w w2) := below_then HB1.out b2
  have X2_0 : Hid (Box w2 w.heap.size #[.bool e, .int .i64 a, .int .i64 p]) := X1_0.out.below b2
  have X2_1 : Hid (Box w2 (w.heap.size + 1) #[.int .i64 st, .int .i64 lf]) := X1_1.out.below b2
  have X2_2 : Hid (Box w2 (w.heap.size + 1 + 1) #[.int .i64 0, .int .i64 0]) := X1_2.out.below b2
  clear k1_0 l1_0 f1_0 X1_0 k1_1 l1_1 f1_1 X1_1 k1_2 l1_2 f1_2 X1_2 HB1
  obtain ⟨l2_0, k2_0, f2_0⟩ := X2_0.out
  obtain ⟨l2_1, k2_1, f2_1⟩ := X2_1.out
  obtain ⟨l2_2, k2_2, f2_2⟩ := X2_2.out
  clear b2 c2
  go_wp2_with fail
  refine bodyPost_ret ?_ rfl ⟨.slice none 0 0, rfl, ActRow.nil _ _, ?_⟩
  · simp [results, Tryz.results67, go_sem, k2_2]
  · exact ((HB2.out).setCell (by first | omega | (simp; done) | (simp; omega)) _).setCell (by first | omega | (simp; done) | (simp; omega)) _
set_option maxRecDepth 100000 in
set_option maxHeartbeats 2000000 in
theorem rDue_3 (e : Bool) (a p st lf : Int) (w : World) (q1 : okB e a p = true) (q2 : fitB e a p st lf = true) (h4 : 4 ≤ st) : Calls Tryz.prog 67 #[.agg #[.bool e, .int .i64 a, .int .i64 p], .agg #[.int .i64 st, .int .i64 lf]] w (AnsQ ⟨st, lf, [], 0, 0⟩ w) := by
  have c1 : ∀ w, Calls Tryz.prog 48 #[.agg #[.bool e, .int .i64 a, .int .i64 p]] w fun r w' => r = .returned (.bool true) ∧ Below w.heap.size w w' := fun w => by have := rRight_any e a p w; rw [q1] at this; exact this
  have c2 : ∀ w, Calls Tryz.prog 97 #[.agg #[.bool e, .int .i64 a, .int .i64 p], .agg #[.int .i64 st, .int .i64 lf]] w fun r w' => r = .returned (.bool true) ∧ Below w.heap.size w w' := fun w => by have := rFits_any e a p st lf w; rw [q2] at this; exact this
  go_enter Tryz.func67, Tryz.ntmps67
  go_wp2_with fail
  refine (c1 _).mono ?_
  rintro _ w1 ⟨rfl, b1⟩
  have HB1 : Hid (Below w.heap.size w w1) := below_then ((((Below.refl _ _).alloc (by first | omega | (simp; done) | (simp; omega)) _).alloc (by first | omega | (simp; done) | (simp; omega)) _).alloc (by first | omega | (simp; done) | (simp; omega)) _) b1
  have X1_0 : Hid (Box w1 w.heap.size #[.bool e, .int .i64 a, .int .i64 p]) := (((Box.new' _ #[.bool e, .int .i64 a, .int .i64 p] 45 w.heap.size (by simp)).alloc _).alloc _).below b1
  have X1_1 : Hid (Box w1 (w.heap.size + 1) #[.int .i64 st, .int .i64 lf]) := ((Box.new' _ #[.int .i64 st, .int .i64 lf] 89 (w.heap.size + 1) (by simp)).alloc _).below b1
  have X1_2 : Hid (Box w1 (w.heap.size + 1 + 1) #[.int .i64 0, .int .i64 0]) := (Box.new' _ #[.int .i64 0, .int .i64 0] 89 (w.heap.size + 1 + 1) (by simp)).below b1
  obtain ⟨l1_0, k1_0, f1_0⟩ := X1_0.out
  obtain ⟨l1_1, k1_1, f1_1⟩ := X1_1.out
  obtain ⟨l1_2, k1_2, f1_2⟩ := X1_2.out
  clear b1 c1
  go_wp2_with fail
  refine (c2 _).mono ?_
  rintro _ w2 ⟨rfl, b2⟩
  have HB2 : Hid (Below w.heap.size w w2) := below_then HB1.out b2
  have X2_0 : Hid (Box w2 w.heap.size #[.bool e, .int .i64 a, .int .i64 p]) := X1_0.out.below b2
  have X2_1 : Hid (Box w2 (w.heap.size + 1) #[.int .i64 st, .int .i64 lf]) := X1_1.out.below b2
  have X2_2 : Hid (Box w2 (w.heap.size + 1 + 1) #[.int .i64 0, .int .i64 0]) := X1_2.out.below b2
  clear k1_0 l1_0 f1_0 X1_0 k1_1 l1_1 f1_1 X1_1 k1_2 l1_2 f1_2 X1_2 HB1
  obtain ⟨l2_0, k2_0, f2_0⟩ := X2_0.out
  obtain ⟨l2_1, k2_1, f2_1⟩ := X2_1.out
  obtain ⟨l2_2, k2_2, f2_2⟩ := X2_2.out
  clear b2 c2
  go_wp2_with fail
  refine bodyPost_ret ?_ rfl ⟨.slice none 0 0, rfl, ActRow.nil _ _, ?_⟩
  · simp [results, Tryz.results67, go_sem, k2_2]
  · exact ((HB2.out).setCell (by first | omega | (simp; done) | (simp; omega)) _).setCell (by first | omega | (simp; done) | (simp; omega)) _
set_option maxRecDepth 100000 in
set_option maxHeartbeats 2000000 in
theorem rDue_4 (e : Bool) (a p st lf : Int) (w : World) (q1 : okB e a p = true) (q2 : fitB e a p st lf = true) (h4 : ¬ 4 ≤ st) (h1 : (st == 3) = true) : Calls Tryz.prog 67 #[.agg #[.bool e, .int .i64 a, .int .i64 p], .agg #[.int .i64 st, .int .i64 lf]] w (AnsQ ⟨5, lf, [(4, nT)], 0, 0⟩ w) := by
  have c1 : ∀ w, Calls Tryz.prog 48 #[.agg #[.bool e, .int .i64 a, .int .i64 p]] w fun r w' => r = .returned (.bool true) ∧ Below w.heap.size w w' := fun w => by have := rRight_any e a p w; rw [q1] at this; exact this
  have c2 : ∀ w, Calls Tryz.prog 97 #[.agg #[.bool e, .int .i64 a, .int .i64 p], .agg #[.int .i64 st, .int .i64 lf]] w fun r w' => r = .returned (.bool true) ∧ Below w.heap.size w w' := fun w => by have := rFits_any e a p st lf w; rw [q2] at this; exact this
  go_enter Tryz.func67, Tryz.ntmps67
  go_wp2_with fail
  refine (c1 _).mono ?_
  rintro _ w1 ⟨rfl, b1⟩
  have HB1 : Hid (Below w.heap.size w w1) := below_then ((((Below.refl _ _).alloc (by first | omega | (simp; done) | (simp; omega)) _).alloc (by first | omega | (simp; done) | (simp; omega)) _).alloc (by first | omega | (simp; done) | (simp; omega)) _) b1
  have X1_0 : Hid (Box w1 w.heap.size #[.bool e, .int .i64 a, .int .i64 p]) := (((Box.new' _ #[.bool e, .int .i64 a, .int .i64 p] 45 w.heap.size (by simp)).alloc _).alloc _).below b1
  have X1_1 : Hid (Box w1 (w.heap.size + 1) #[.int .i64 st, .int .i64 lf]) := ((Box.new' _ #[.int .i64 st, .int .i64 lf] 89 (w.heap.size + 1) (by simp)).alloc _).below b1
  have X1_2 : Hid (Box w1 (w.heap.size + 1 + 1) #[.int .i64 0, .int .i64 0]) := (Box.new' _ #[.int .i64 0, .int .i64 0] 89 (w.heap.size + 1 + 1) (by simp)).below b1
  obtain ⟨l1_0, k1_0, f1_0⟩ := X1_0.out
  obtain ⟨l1_1, k1_1, f1_1⟩ := X1_1.out
  obtain ⟨l1_2, k1_2, f1_2⟩ := X1_2.out
  clear b1 c1
  go_wp2_with fail
  refine (c2 _).mono ?_
  rintro _ w2 ⟨rfl, b2⟩
  have HB2 : Hid (Below w.heap.size w w2) := below_then HB1.out b2
  have X2_0 : Hid (Box w2 w.heap.size #[.bool e, .int .i64 a, .int .i64 p]) := X1_0.out.below b2
  have X2_1 : Hid (Box w2 (w.heap.size + 1) #[.int .i64 st, .int .i64 lf]) := X1_1.out.below b2
  have X2_2 : Hid (Box w2 (w.heap.size + 1 + 1) #[.int .i64 0, .int .i64 0]) := X1_2.out.below b2
  clear k1_0 l1_0 f1_0 X1_0 k1_1 l1_1 f1_1 X1_1 k1_2 l1_2 f1_2 X1_2 HB1
  obtain ⟨l2_0, k2_0, f2_0⟩ := X2_0.out
  obtain ⟨l2_1, k2_1, f2_1⟩ := X2_1.out
  obtain ⟨l2_2, k2_2, f2_2⟩ := X2_2.out
  clear b2 c2
  go_wp2_with fail
  refine bodyPost_ret ?_ rfl ⟨.slice (some ⟨w2.heap.size, 0, none⟩) 1 1, rfl, ActRow.lit' _ _ [(4, nT)] w2.heap.size 1 _ (by simp) HB2.out.size rfl rfl (by simp) (by simp), ?_⟩
  · simp [results, Tryz.results67, go_sem, k2_2, l2_2]
  · exact (((HB2.out).setCell (by first | omega | (simp; done) | (simp; omega)) _).setCell (by first | omega | (simp; done) | (simp; omega)) _).alloc (by have := HB2.out.size; first | omega | (simp; done) | (simp; omega)) _
set_option maxRecDepth 100000 in
set_option maxHeartbeats 2000000 in
theorem rDue_5 (e : Bool) (a p st lf : Int) (w : World) (q1 : okB e a p = true) (q2 : fitB e a p st lf = true) (h4 : ¬ 4 ≤ st) (h1 : (st == 3) = false) (h3 : 0 < lf) (h5 : lf ≤ 16) : Calls Tryz.prog 67 #[.agg #[.bool e, .int .i64 a, .int .i64 p], .agg #[.int .i64 st, .int .i64 lf]] w (AnsQ ⟨st, lf - 1, [(1, nT), (2, nT)], 0, 0⟩ w) := by
  have c1 : ∀ w, Calls Tryz.prog 48 #[.agg #[.bool e, .int .i64 a, .int .i64 p]] w fun r w' => r = .returned (.bool true) ∧ Below w.heap.size w w' := fun w => by have := rRight_any e a p w; rw [q1] at this; exact this
  have c2 : ∀ w, Calls Tryz.prog 97 #[.agg #[.bool e, .int .i64 a, .int .i64 p], .agg #[.int .i64 st, .int .i64 lf]] w fun r w' => r = .returned (.bool true) ∧ Below w.heap.size w w' := fun w => by have := rFits_any e a p st lf w; rw [q2] at this; exact this
  go_enter Tryz.func67, Tryz.ntmps67
  go_wp2_with fail
  refine (c1 _).mono ?_
  rintro _ w1 ⟨rfl, b1⟩
  have HB1 : Hid (Below w.heap.size w w1) := below_then ((((Below.refl _ _).alloc (by first | omega | (simp; done) | (simp; omega)) _).alloc (by first | omega | (simp; done) | (simp; omega)) _).alloc (by first | omega | (simp; done) | (simp; omega)) _) b1
  have X1_0 : Hid (Box w1 w.heap.size #[.bool e, .int .i64 a, .int .i64 p]) := (((Box.new' _ #[.bool e, .int .i64 a, .int .i64 p] 45 w.heap.size (by simp)).alloc _).alloc _).below b1
  have X1_1 : Hid (Box w1 (w.heap.size + 1) #[.int .i64 st, .int .i64 lf]) := ((Box.new' _ #[.int .i64 st, .int .i64 lf] 89 (w.heap.size + 1) (by simp)).alloc _).below b1
  have X1_2 : Hid (Box w1 (w.heap.size + 1 + 1) #[.int .i64 0, .int .i64 0]) := (Box.new' _ #[.int .i64 0, .int .i64 0] 89 (w.heap.size + 1 + 1) (by simp)).below b1
  obtain ⟨l1_0, k1_0, f1_0⟩ := X1_0.out
  obtain ⟨l1_1, k1_1, f1_1⟩ := X1_1.out
  obtain ⟨l1_2, k1_2, f1_2⟩ := X1_2.out
  clear b1 c1
  go_wp2_with fail
  refine (c2 _).mono ?_
  rintro _ w2 ⟨rfl, b2⟩
  have HB2 : Hid (Below w.heap.size w w2) := below_then HB1.out b2
  have X2_0 : Hid (Box w2 w.heap.size #[.bool e, .int .i64 a, .int .i64 p]) := X1_0.out.below b2
  have X2_1 : Hid (Box w2 (w.heap.size + 1) #[.int .i64 st, .int .i64 lf]) := X1_1.out.below b2
  have X2_2 : Hid (Box w2 (w.heap.size + 1 + 1) #[.int .i64 0, .int .i64 0]) := X1_2.out.below b2
  clear k1_0 l1_0 f1_0 X1_0 k1_1 l1_1 f1_1 X1_1 k1_2 l1_2 f1_2 X1_2 HB1
  obtain ⟨l2_0, k2_0, f2_0⟩ := X2_0.out
  obtain ⟨l2_1, k2_1, f2_1⟩ := X2_1.out
  obtain ⟨l2_2, k2_2, f2_2⟩ := X2_2.out
  clear b2 c2
  go_wp2_with fail
  refine bodyPost_ret ?_ rfl ⟨.slice (some ⟨w2.heap.size, 0, none⟩) 2 2, rfl, ActRow.lit' _ _ [(1, nT), (2, nT)] w2.heap.size 2 _ (by simp) HB2.out.size rfl rfl (by simp) (by simp), ?_⟩
  · simp [results, Tryz.results67, go_sem, k2_2, l2_2]
  · exact (((HB2.out).setCell (by first | omega | (simp; done) | (simp; omega)) _).setCell (by first | omega | (simp; done) | (simp; omega)) _).alloc (by have := HB2.out.size; first | omega | (simp; done) | (simp; omega)) _
set_option maxRecDepth 100000 in
set_option maxHeartbeats 2000000 in
theorem rDue_6 (e : Bool) (a p st lf : Int) (w : World) (q1 : okB e a p = true) (q2 : fitB e a p st lf = true) (h4 : ¬ 4 ≤ st) (h1 : (st == 3) = false) (h3 : ¬ 0 < lf) : Calls Tryz.prog 67 #[.agg #[.bool e, .int .i64 a, .int .i64 p], .agg #[.int .i64 st, .int .i64 lf]] w (AnsQ ⟨6, 0, [(4, nT)], 0, 0⟩ w) := by
  have c1 : ∀ w, Calls Tryz.prog 48 #[.agg #[.bool e, .int .i64 a, .int .i64 p]] w fun r w' => r = .returned (.bool true) ∧ Below w.heap.size w w' := fun w => by have := rRight_any e a p w; rw [q1] at this; exact this
  have c2 : ∀ w, Calls Tryz.prog 97 #[.agg #[.bool e, .int .i64 a, .int .i64 p], .agg #[.int .i64 st, .int .i64 lf]] w fun r w' => r = .returned (.bool true) ∧ Below w.heap.size w w' := fun w => by have := rFits_any e a p st lf w; rw [q2] at this; exact this
  go_enter Tryz.func67, Tryz.ntmps67
  go_wp2_with fail
  refine (c1 _).mono ?_
  rintro _ w1 ⟨rfl, b1⟩
  have HB1 : Hid (Below w.heap.size w w1) := below_then ((((Below.refl _ _).alloc (by first | omega | (simp; done) | (simp; omega)) _).alloc (by first | omega | (simp; done) | (simp; omega)) _).alloc (by first | omega | (simp; done) | (simp; omega)) _) b1
  have X1_0 : Hid (Box w1 w.heap.size #[.bool e, .int .i64 a, .int .i64 p]) := (((Box.new' _ #[.bool e, .int .i64 a, .int .i64 p] 45 w.heap.size (by simp)).alloc _).alloc _).below b1
  have X1_1 : Hid (Box w1 (w.heap.size + 1) #[.int .i64 st, .int .i64 lf]) := ((Box.new' _ #[.int .i64 st, .int .i64 lf] 89 (w.heap.size + 1) (by simp)).alloc _).below b1
  have X1_2 : Hid (Box w1 (w.heap.size + 1 + 1) #[.int .i64 0, .int .i64 0]) := (Box.new' _ #[.int .i64 0, .int .i64 0] 89 (w.heap.size + 1 + 1) (by simp)).below b1
  obtain ⟨l1_0, k1_0, f1_0⟩ := X1_0.out
  obtain ⟨l1_1, k1_1, f1_1⟩ := X1_1.out
  obtain ⟨l1_2, k1_2, f1_2⟩ := X1_2.out
  clear b1 c1
  go_wp2_with fail
  refine (c2 _).mono ?_
  rintro _ w2 ⟨rfl, b2⟩
  have HB2 : Hid (Below w.heap.size w w2) := below_then HB1.out b2
  have X2_0 : Hid (Box w2 w.heap.size #[.bool e, .int .i64 a, .int .i64 p]) := X1_0.out.below b2
  have X2_1 : Hid (Box w2 (w.heap.size + 1) #[.int .i64 st, .int .i64 lf]) := X1_1.out.below b2
  have X2_2 : Hid (Box w2 (w.heap.size + 1 + 1) #[.int .i64 0, .int .i64 0]) := X1_2.out.below b2
  clear k1_0 l1_0 f1_0 X1_0 k1_1 l1_1 f1_1 X1_1 k1_2 l1_2 f1_2 X1_2 HB1
  obtain ⟨l2_0, k2_0, f2_0⟩ := X2_0.out
  obtain ⟨l2_1, k2_1, f2_1⟩ := X2_1.out
  obtain ⟨l2_2, k2_2, f2_2⟩ := X2_2.out
  clear b2 c2
  go_wp2_with fail
  refine bodyPost_ret ?_ rfl ⟨.slice (some ⟨w2.heap.size, 0, none⟩) 1 1, rfl, ActRow.lit' _ _ [(4, nT)] w2.heap.size 1 _ (by simp) HB2.out.size rfl rfl (by simp) (by simp), ?_⟩
  · simp [results, Tryz.results67, go_sem, k2_2, l2_2]
  · exact (((HB2.out).setCell (by first | omega | (simp; done) | (simp; omega)) _).setCell (by first | omega | (simp; done) | (simp; omega)) _).alloc (by have := HB2.out.size; first | omega | (simp; done) | (simp; omega)) _
end Go.Proofs.YtoijhecphgdfnaaGreatDoor

/-
  The document's Take, Judge, Copy, way by way.
-/
namespace Go.Proofs.YtoijhecphgdfnaaGreatDoor
open Go.RowKit

end Go.Proofs.YtoijhecphgdfnaaGreatDoor

/-
  The document's Take, Judge, Copy, way by way.
-/
namespace Go.Proofs.YtoijhecphgdfnaaGreatDoor
open Go.RowKit

end Go.Proofs.YtoijhecphgdfnaaGreatDoor

/-
  The document's Take, Judge, Copy, way by way.
-/
namespace Go.Proofs.YtoijhecphgdfnaaGreatDoor
open Go.RowKit

end Go.Proofs.YtoijhecphgdfnaaGreatDoor

/-
  The document's calls, whatever comes in.
-/
namespace Go.Proofs.YtoijhecphgdfnaaGreatDoor
open Go.RowKit

theorem fit_left {e : Bool} {a p st lf : Int} (h : fitB e a p st lf = true) : 1 ≤ st ∧ st ≤ 6 ∧ 0 ≤ lf ∧ lf ≤ 16 := by
  unfold fitB at h
  rw [Bool.and_eq_true] at h
  exact of_decide_eq_true h.1
theorem beq_t {x y : Int} (h : x = y) : (x == y) = true := by simp [h]
theorem beq_f {x y : Int} (h : ¬ x = y) : (x == y) = false := by simp [h]
theorem rHeard_any (e : Bool) (a p st lf : Int) (s : ByteArray) (number : Bool) (w : World) : Calls Tryz.prog 65 #[.agg #[.bool e, .int .i64 a, .int .i64 p], .agg #[.int .i64 st, .int .i64 lf], .string s, .bool number] w (AnsQ (heardS e a p st lf s number) w) := by
  unfold heardS
  cases q1 : okB e a p with
  | false => rw [if_pos rfl]; exact rHeard_1 e a p st lf s number w q1
  | true =>
  rw [if_neg (by simp)]
  cases q2 : fitB e a p st lf with
  | false => rw [if_pos rfl]; exact rHeard_2 e a p st lf s number w q1 q2
  | true =>
  rw [if_neg (by simp)]
  by_cases h4 : 4 ≤ st
  · rw [if_pos (by simp [h4])]; exact rHeard_3 e a p st lf s number w q1 q2 h4
  cases q3 : sentB e a p s with
  | false => rw [if_pos (by simp)]; exact rHeard_4 e a p st lf s number w q1 q2 h4 q3
  | true =>
  rw [if_neg (by simp [h4])]
  have hl := fit_left q2
  cases g1 : s.toList == [67, 65] with
  | true =>
    rw [if_pos rfl]
    by_cases h1 : st = 1
    · rw [if_pos h1]
      cases q4 : aaB e p with
      | true => rw [if_pos rfl]; exact rHeard_6 e a p st lf s number w q1 q2 h4 q3 g1 (beq_t h1) q4
      | false =>
        rw [if_neg (by simp)]
        by_cases h2 : p = 2
        · rw [if_pos h2]; exact rHeard_7 e a p st lf s number w q1 q2 h4 q3 g1 (beq_t h1) q4 (beq_t h2)
        · rw [if_neg h2]; exact rHeard_8 e a p st lf s number w q1 q2 h4 q3 g1 (beq_t h1) q4 (beq_f h2)
    · rw [if_neg h1]; exact rHeard_5 e a p st lf s number w q1 q2 h4 q3 g1 (beq_f h1)
  | false =>
    rw [if_neg (by simp)]
    cases hn : number with
    | false => rw [if_neg (by simp)]; exact rHeard_12 e a p st lf s false w q1 q2 h4 q3 g1 rfl
    | true =>
      cases g2 : s.toList == [67, 69] with
      | true =>
        rw [if_pos (by simp)]
        cases q5 : caB e a with
        | true =>
          by_cases h1 : st = 1
          · rw [if_neg (by simp [h1])]
            by_cases h3 : 0 < lf
            · rw [if_pos h3]; exact rHeard_10ax e a p st lf s true w q1 q2 h4 q3 rfl g1 g2 q5 (beq_t h1) h3 hl.2.2.2
            · rw [if_neg h3]; exact rHeard_11ax e a p st lf s true w q1 q2 h4 q3 rfl g1 g2 q5 (beq_t h1) h3
          · rw [if_pos (by simp [h1])]; exact rHeard_9a e a p st lf s true w q1 q2 h4 q3 rfl g1 g2 q5 (beq_f h1)
        | false =>
          rw [if_neg (by simp)]
          by_cases h3 : 0 < lf
          · rw [if_pos h3]; exact rHeard_10ay e a p st lf s true w q1 q2 h4 q3 rfl g1 g2 q5 h3 hl.2.2.2
          · rw [if_neg h3]; exact rHeard_11ay e a p st lf s true w q1 q2 h4 q3 rfl g1 g2 q5 h3
      | false =>
        cases g3 : s.toList == [65, 69] with
        | true =>
          rw [if_pos (by simp)]
          cases q5 : caB e a with
          | true =>
            by_cases h1 : st = 1
            · rw [if_neg (by simp [h1])]
              by_cases h3 : 0 < lf
              · rw [if_pos h3]; exact rHeard_10bx e a p st lf s true w q1 q2 h4 q3 rfl g1 g2 g3 q5 (beq_t h1) h3 hl.2.2.2
              · rw [if_neg h3]; exact rHeard_11bx e a p st lf s true w q1 q2 h4 q3 rfl g1 g2 g3 q5 (beq_t h1) h3
            · rw [if_pos (by simp [h1])]; exact rHeard_9b e a p st lf s true w q1 q2 h4 q3 rfl g1 g2 g3 q5 (beq_f h1)
          | false =>
            rw [if_neg (by simp)]
            by_cases h3 : 0 < lf
            · rw [if_pos h3]; exact rHeard_10by e a p st lf s true w q1 q2 h4 q3 rfl g1 g2 g3 q5 h3 hl.2.2.2
            · rw [if_neg h3]; exact rHeard_11by e a p st lf s true w q1 q2 h4 q3 rfl g1 g2 g3 q5 h3
        | false => rw [if_neg (by simp)]; exact rHeard_13 e a p st lf s true w q1 q2 h4 q3 g1 rfl g2 g3
theorem rDue_any (e : Bool) (a p st lf : Int) (w : World) : Calls Tryz.prog 67 #[.agg #[.bool e, .int .i64 a, .int .i64 p], .agg #[.int .i64 st, .int .i64 lf]] w (AnsQ (dueS e a p st lf) w) := by
  unfold dueS
  cases q1 : okB e a p with
  | false => rw [if_pos rfl]; exact rDue_1 e a p st lf w q1
  | true =>
  rw [if_neg (by simp)]
  cases q2 : fitB e a p st lf with
  | false => rw [if_pos rfl]; exact rDue_2 e a p st lf w q1 q2
  | true =>
  rw [if_neg (by simp)]
  have hl := fit_left q2
  by_cases h4 : 4 ≤ st
  · rw [if_pos h4]; exact rDue_3 e a p st lf w q1 q2 h4
  rw [if_neg h4]
  by_cases h1 : st = 3
  · rw [if_pos h1]; exact rDue_4 e a p st lf w q1 q2 h4 (beq_t h1)
  rw [if_neg h1]
  by_cases h3 : 0 < lf
  · rw [if_pos h3]; exact rDue_5 e a p st lf w q1 q2 h4 (beq_f h1) h3 hl.2.2.2
  · rw [if_neg h3]; exact rDue_6 e a p st lf w q1 q2 h4 (beq_f h1) h3
theorem rStart_any (e : Bool) (a p t : Int) (noted : Bool) (w : World) : Calls Tryz.prog 61 #[.agg #[.bool e, .int .i64 a, .int .i64 p], .int .i64 t, .bool noted] w (AnsQ4 (startS e a p t noted) w) := by
  unfold startS
  cases q1 : okB e a p with
  | false => rw [if_pos rfl]; exact rStart_1 e a p t noted w q1
  | true =>
  rw [if_neg (by simp)]
  by_cases t0 : t < 0
  · rw [if_pos (by omega)]; exact rStart_2 e a p t noted w q1 t0
  by_cases t1 : t > 16
  · rw [if_pos (by omega)]; exact rStart_3 e a p t noted w q1 t0 t1
  rw [if_neg (by omega)]
  cases hn : noted with
  | true =>
    cases q2 : caB e a with
    | false => rw [if_pos (by simp)]; exact rStart_4 e a p t true w q1 t0 t1 rfl q2
    | true =>
    rw [if_neg (by simp), if_neg (by simp)]
    cases q3 : aaB e p with
    | true => rw [if_pos rfl]; exact rStart_6n e a p t true w q1 t0 t1 rfl q2 q3
    | false =>
    rw [if_neg (by simp)]
    cases q4 : earB e a p true with
    | true => rw [if_pos rfl]; exact rStart_7n e a p t true w q1 t0 t1 rfl q2 q3 q4
    | false => rw [if_neg (by simp), if_pos rfl]; exact rStart_8n e a p t true w q1 t0 t1 rfl q2 q3 q4
  | false =>
    rw [if_neg (by simp)]
    cases q2 : caB e a with
    | true => rw [if_pos (by simp)]; exact rStart_5 e a p t false w q1 t0 t1 rfl q2
    | false =>
    rw [if_neg (by simp)]
    cases q3 : aaB e p with
    | true => rw [if_pos rfl]; exact rStart_6m e a p t false w q1 t0 t1 rfl q2 q3
    | false =>
    rw [if_neg (by simp)]
    cases q4 : earB e a p false with
    | true => rw [if_pos rfl]; exact rStart_7m e a p t false w q1 t0 t1 rfl q2 q3 q4
    | false => rw [if_neg (by simp), if_neg (by simp)]; exact rStart_8m e a p t false w q1 t0 t1 rfl q2 q3 q4
end Go.Proofs.YtoijhecphgdfnaaGreatDoor

/-
  The document's box: done.
-/
namespace Go.Proofs.YtoijhecphgdfnaaGreatDoor
open Go.RowKit

theorem act_cells {w : World} {A n c k : Nat} {a : Option Addr} {l : ActL} {y : Int × ByteArray} (h : ActRow w A (.slice a n c) l) (hy : l[k]? = some y) : ∃ g, a = some ⟨g, 0, none⟩ ∧ g < w.heap.size ∧ w.cell? ⟨g, k * 2, none⟩ = some (.int .i64 y.1) ∧ w.cell? ⟨g, k * 2 + 1, none⟩ = some (.string y.2) := by
  obtain ⟨g, e, hg, hc⟩ := ERow.at_ (enc := acells) (k := 2) (fun _ => rfl) (show ERow w A 103 2 acells (.slice a n c) l from h) hy
  exact ⟨g, e, hg, hc 0 (by decide), hc 1 (by decide)⟩
theorem actrow_off {w w' : World} {P : Nat → Prop} {A : Nat} {v : Value} {l : ActL} (h : ActRow w A v l) (o : Off P w w') (hP : ∀ g, v.ownBlock = some g → ¬ P g) : ActRow w' A v l := ERow.off (enc := acells) (show ERow w A 103 2 acells v l from h) o hP
theorem actrow_type {w : World} {A : Nat} {v : Value} {l : ActL} (h : ActRow w A v l) {g : Nat} (hg : v.ownBlock = some g) : ∃ cs, w.heap[g]? = some (.cells cs 103 (0, 0)) := by
  rcases h.2 with ⟨e, _⟩ | ⟨g', cap, cur, e, _, hb, _⟩
  · rw [e] at hg; cases hg
  · rw [e] at hg
    simp only [Value.ownBlock, Option.some.injEq] at hg
    subst hg
    exact ⟨_, hb⟩
theorem tks_take {x : Int} {t : Msg × Bool} {l : ActL} {k : Nat} {y : Int × ByteArray} (h : l[k]? = some y) : tksS x t (l.take (k + 1)) = tkS x (tksS x t (l.take k)) y.1 := tks_next h
theorem deeds_take {c : ByteArray} {l : ActL} {k : Nat} {y : Int × ByteArray} (h : l[k]? = some y) : deedsS c (l.take (k + 1)) = deedsS c (l.take k) ++ [(c, y.1, y.2)] := by
  unfold deedsS
  rw [List.take_add_one, h]
  simp
theorem encD_one (d : Deed) : ∀ u ∈ encD d, u.oneCell' = true := fun u hu => by
  simp only [encD, List.mem_cons, List.not_mem_nil, or_false] at hu
  rcases hu with rfl | rfl | rfl <;> rfl
/-- In the midst of done's first loop. -/
structure DnI (w : World) (B r g n c : Nat) (sq : Bool) (tr : Int) (ms : List Msg) (i : Nat) (m : Msg) (A : Nat) (av : Value) (l : ActL) (x : Int) (k : Nat) (v11 : Value) (wx : World) : Prop where
  rb : RB wx B r (.slice (some ⟨g, 0, none⟩) n c) sq tr (ms.set i (tksS x (m, false) (l.take k)).1)
  row : DRow wx w.heap.size v11 (deedsS m.ct (l.take k))
  act : ActRow wx A av l
  off : Off (fun q => q = g) w wx
section
variable {w wx w' : World} {B r g n c i A : Nat} {sq : Bool} {tr : Int} {ms : List Msg} {m : Msg} {av v11 : Value} {l : ActL} {x : Int} {k : Nat}
theorem DnI.cells (h : DnI w B r g n c sq tr ms i m A av l x k v11 wx) (hm : i < ms.length) : wx.cell? ⟨r, 0, none⟩ = some (.slice (some ⟨g, 0, none⟩) n c) ∧ g < wx.heap.size ∧ Cells wx g (i * 10) (tksS x (m, false) (l.take k)).1 := by
  obtain ⟨g', e, hg, hc⟩ := erow_cells h.rb.row (j := i) (List.getElem?_set_self hm)
  simp only [Option.some.injEq, Addr.mk.injEq, and_true] at e
  subst e
  exact ⟨hcell h.rb.blk 0, hg, hc⟩
/-- A deed more. -/
theorem DnI.deed (h : DnI w B r g n c sq tr ms i m A av l x k v11 wx) (hk : l.length ≤ 1000) {y : Int × ByteArray} (hy : l[k]? = some y) :
    ∃ a2 c2 W2, (Builtin.append_ #[77, 77] 77 #[v11, .slice (some ⟨wx.heap.size, 0, none⟩) 1 1]).run Tryz.prog (wx.alloc (.cells #[.string m.ct, .int .i64 y.1, .string y.2] 105)).drew = .ok (.slice a2 (k + 1) c2) W2 ∧ Hid (RB W2 B r (.slice (some ⟨g, 0, none⟩) n c) sq tr (ms.set i (tksS x (m, false) (l.take k)).1) ∧ DRow W2 w.heap.size (.slice a2 (k + 1) c2) (deedsS m.ct (l.take (k + 1))) ∧ ActRow W2 A av l ∧ Off (fun q => q = g) w W2) := by
  have hkl := (List.getElem?_eq_some_iff.1 hy).1
  have hd : DRow wx.drew w.heap.size v11 (deedsS m.ct (l.take k)) := ERow.off h.row ((Off.refl (fun _ => False) _).drew) fun _ _ => id
  have hlen : (deedsS m.ct (l.take k)).length = k := by unfold deedsS; simp; omega
  obtain ⟨a2, c2, W2, hr, r2, o2, s2⟩ := run_epush (P := Tryz.prog) (t := 77) Tryz.underlying77 celD encD_len encD_one (w := wx.drew) hd (m.ct, y.1, y.2) #[.string m.ct, .int .i64 y.1, .string y.2] rfl (by omega) (by decide) h.off.size
  rw [hlen] at hr r2
  have o : Off (fun q => v11.ownBlock = some q) wx W2 := ((Off.refl _ _).drew).trans o2
  have nd : ∀ {v : Value} {cs : Array Value} {q : Nat} {t : TypeId}, t ≠ 105 → wx.heap[q]? = some (.cells cs t (0, 0)) → v11.ownBlock ≠ some q := fun {v cs q t} ht hc hq => by
    rcases h.row.2 with ⟨e, _⟩ | ⟨g', cap, cur, e, _, hb, _⟩
    · rw [e] at hq; cases hq
    · rw [e] at hq
      simp only [Value.ownBlock, Option.some.injEq] at hq
      subst hq
      rw [hc] at hb
      simp only [Option.some.injEq, Obj.cells.injEq] at hb
      exact ht hb.2.1
  refine ⟨a2, c2, W2, hr, h.rb.off o (nd (v := v11) (by decide) h.rb.blk) (fun q hq => ?_) (fun y hy q hq => ?_), ?_, actrow_off h.act o fun q hq => ?_, h.off.join o fun q hl hq => ?_⟩
  · obtain ⟨cs, hc⟩ := msrow_type h.rb.row hq
    exact nd (v := v11) (by decide) hc
  · obtain ⟨cs, hc⟩ := brow_type (h.rb.own y hy).1 hq
    exact nd (v := v11) (by decide) hc
  · rw [deeds_take hy]; exact r2
  · obtain ⟨cs, hc⟩ := actrow_type h.act hq
    exact nd (v := v11) (by decide) hc
  · have := (ERow.lt h.row hq).1
    omega
theorem DnI.put (h1 : RB wx B r (.slice (some ⟨g, 0, none⟩) n c) sq tr (ms.set i (tksS x (m, false) (l.take k)).1)) (h2 : DRow wx w.heap.size v11 (deedsS m.ct (l.take (k + 1)))) (h3 : ActRow wx A av l) (h4 : Off (fun q => q = g) w wx) (hi : i < ms.length) {m' : Msg} {q : Nat} {u : Value} (hq : q < 10) (he : encM m' = (encM (tksS x (m, false) (l.take k)).1).set q u) (ht : m'.tp = (tksS x (m, false) (l.take k)).1.tp ∧ m'.tn = (tksS x (m, false) (l.take k)).1.tn ∧ m'.tc = (tksS x (m, false) (l.take k)).1.tc ∧ m'.tx = (tksS x (m, false) (l.take k)).1.tx) (e : (tksS x (m, false) (l.take (k + 1))).1 = m') : DnI w B r g n c sq tr ms i m A av l x (k + 1) v11 (wx.setCell ⟨g, i * 10 + q, none⟩ u) := by
  have o : Off (fun z => z = g) wx (wx.setCell ⟨g, i * 10 + q, none⟩ u) := Off.setCell (P := fun z => z = g) (Off.refl _ _) (p := ⟨g, i * 10 + q, none⟩) rfl _
  have hgt : ∃ cs, wx.heap[g]? = some (.cells cs 91 (0, 0)) := msrow_type h1.row (g := g) rfl
  obtain ⟨cs, hgt⟩ := hgt
  refine ⟨?_, ERow.off h2 o fun z hz e2 => ?_, actrow_off h3 o fun z hz e2 => ?_, h4.trans o⟩
  · have := h1.set (List.getElem?_set_self hi) hq he ht
    rw [List.set_set] at this
    rw [e]
    exact this
  · rcases h2.2 with ⟨e1, _⟩ | ⟨g', cap, cur, e1, _, hb, _⟩
    · rw [e1] at hz; cases hz
    · rw [e1] at hz
      simp only [Value.ownBlock, Option.some.injEq] at hz
      rw [hz, e2, hgt] at hb
      simp at hb
  · obtain ⟨cs', hc⟩ := actrow_type h3 hz
    rw [e2, hgt] at hc
    simp at hc
end
end Go.Proofs.YtoijhecphgdfnaaGreatDoor
