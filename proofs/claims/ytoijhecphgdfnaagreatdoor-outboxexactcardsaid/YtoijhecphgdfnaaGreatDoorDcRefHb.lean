/-
  The document's Heard, way by way.
-/
import Derived.Test.YtoijhecphgdfnaaGreatDoorOrBase
namespace Go.Proofs.YtoijhecphgdfnaaGreatDoor
open Go.RowKit

set_option maxRecDepth 100000 in
set_option maxHeartbeats 2000000 in
theorem rHeard_6 (e : Bool) (a p st lf : Int) (s : ByteArray) (number : Bool) (w : World) (q1 : okB e a p = true) (q2 : fitB e a p st lf = true) (h4 : ¬ 4 ≤ st) (q3 : sentB e a p s = true) (g1 : (s.toList == [67, 65]) = true) (h1 : (st == 1) = true) (q4 : aaB e p = true) : Calls Tryz.prog 65 #[.agg #[.bool e, .int .i64 a, .int .i64 p], .agg #[.int .i64 st, .int .i64 lf], .string s, .bool number] w (AnsQ ⟨2, lf, [(3, nT)], 0, 0⟩ w) := by
  have c1 : ∀ w, Calls Tryz.prog 48 #[.agg #[.bool e, .int .i64 a, .int .i64 p]] w fun r w' => r = .returned (.bool true) ∧ Below w.heap.size w w' := fun w => by have := rRight_any e a p w; rw [q1] at this; exact this
  have c2 : ∀ w, Calls Tryz.prog 97 #[.agg #[.bool e, .int .i64 a, .int .i64 p], .agg #[.int .i64 st, .int .i64 lf]] w fun r w' => r = .returned (.bool true) ∧ Below w.heap.size w w' := fun w => by have := rFits_any e a p st lf w; rw [q2] at this; exact this
  have c3 : ∀ w, Calls Tryz.prog 91 #[.agg #[.bool e, .int .i64 a, .int .i64 p], .string s] w fun r w' => r = .returned (.bool true) ∧ Below w.heap.size w w' := fun w => by have := rSent_any e a p s w; rw [q3] at this; exact this
  have c4 : ∀ w, Calls Tryz.prog 93 #[.agg #[.bool e, .int .i64 a, .int .i64 p]] w fun r w' => r = .returned (.bool true) ∧ Below w.heap.size w w' := fun w => by have := rApp_any e a p w; rw [q4] at this; exact this
  go_enter Tryz.func65, Tryz.ntmps65
  go_wp2_with fail
  refine (c1 _).mono ?_
  rintro _ w1 ⟨rfl, b1⟩
  have HB1 : Hid (Below w.heap.size w w1) := below_then ((((Below.refl _ _).alloc (by first | omega | (simp; done) | (simp; omega)) _).alloc (by first | omega | (simp; done) | (simp; omega)) _).alloc (by first | omega | (simp; done) | (simp; omega)) _) b1
  have X1_0 : Hid (Box w1 w.heap.size #[.bool e, .int .i64 a, .int .i64 p]) := (((Box.new' _ #[.bool e, .int .i64 a, .int .i64 p] 45 w.heap.size (by simp)).alloc _).alloc _).below b1
  have X1_1 : Hid (Box w1 (w.heap.size + 1) #[.int .i64 st, .int .i64 lf]) := ((Box.new' _ #[.int .i64 st, .int .i64 lf] 89 (w.heap.size + 1) (by simp)).alloc _).below b1
  have X1_2 : Hid (Box w1 (w.heap.size + 1 + 1) #[.int .i64 0, .int .i64 0]) := (Box.new' _ #[.int .i64 0, .int .i64 0] 89 (w.heap.size + 1 + 1) (by simp)).below b1
  obtain ⟨l1_0, k1_0, f1_0⟩ := X1_0.out
  obtain ⟨l1_1, k1_1, f1_1⟩ := X1_1.out
  obtain ⟨l1_2, k1_2, f1_2⟩ := X1_2.out
  clear b1 c1
  go_wp2_with fail
  refine (c2 _).mono ?_
  rintro _ w2 ⟨rfl, b2⟩
  have HB2 : Hid (Below w.heap.size w w2) := below_then HB1.out b2
  have X2_0 : Hid (Box w2 w.heap.size #[.bool e, .int .i64 a, .int .i64 p]) := X1_0.out.below b2
  have X2_1 : Hid (Box w2 (w.heap.size + 1) #[.int .i64 st, .int .i64 lf]) := X1_1.out.below b2
  have X2_2 : Hid (Box w2 (w.heap.size + 1 + 1) #[.int .i64 0, .int .i64 0]) := X1_2.out.below b2
  clear k1_0 l1_0 f1_0 X1_0 k1_1 l1_1 f1_1 X1_1 k1_2 l1_2 f1_2 X1_2 HB1
  obtain ⟨l2_0, k2_0, f2_0⟩ := X2_0.out
  obtain ⟨l2_1, k2_1, f2_1⟩ := X2_1.out
  obtain ⟨l2_2, k2_2, f2_2⟩ := X2_2.out
  clear b2 c2
  go_wp2_with fail
  refine (c3 _).mono ?_
  rintro _ w3 ⟨rfl, b3⟩
  have HB3 : Hid (Below w.heap.size w w3) := below_then HB2.out b3
  have X3_0 : Hid (Box w3 w.heap.size #[.bool e, .int .i64 a, .int .i64 p]) := X2_0.out.below b3
  have X3_1 : Hid (Box w3 (w.heap.size + 1) #[.int .i64 st, .int .i64 lf]) := X2_1.out.below b3
  have X3_2 : Hid (Box w3 (w.heap.size + 1 + 1) #[.int .i64 0, .int .i64 0]) := X2_2.out.below b3
  clear k2_0 l2_0 f2_0 X2_0 k2_1 l2_1 f2_1 X2_1 k2_2 l2_2 f2_2 X2_2 HB2
  obtain ⟨l3_0, k3_0, f3_0⟩ := X3_0.out
  obtain ⟨l3_1, k3_1, f3_1⟩ := X3_1.out
  obtain ⟨l3_2, k3_2, f3_2⟩ := X3_2.out
  clear b3 c3
  go_wp2_with fail
  refine (c4 _).mono ?_
  rintro _ w4 ⟨rfl, b4⟩
  have HB4 : Hid (Below w.heap.size w w4) := below_then HB3.out b4
  have X4_0 : Hid (Box w4 w.heap.size #[.bool e, .int .i64 a, .int .i64 p]) := X3_0.out.below b4
  have X4_1 : Hid (Box w4 (w.heap.size + 1) #[.int .i64 st, .int .i64 lf]) := X3_1.out.below b4
  have X4_2 : Hid (Box w4 (w.heap.size + 1 + 1) #[.int .i64 0, .int .i64 0]) := X3_2.out.below b4
  clear k3_0 l3_0 f3_0 X3_0 k3_1 l3_1 f3_1 X3_1 k3_2 l3_2 f3_2 X3_2 HB3
  obtain ⟨l4_0, k4_0, f4_0⟩ := X4_0.out
  obtain ⟨l4_1, k4_1, f4_1⟩ := X4_1.out
  obtain ⟨l4_2, k4_2, f4_2⟩ := X4_2.out
  clear b4 c4
  go_wp2_with fail
  refine bodyPost_ret ?_ rfl ⟨.slice (some ⟨w4.heap.size, 0, none⟩) 1 1, rfl, ActRow.lit' _ _ [(3, nT)] w4.heap.size 1 _ (by simp) HB4.out.size rfl rfl (by simp) (by simp), ?_⟩
  · simp [results, Tryz.results65, go_sem, k4_2, l4_2]
  · exact (((HB4.out).setCell (by first | omega | (simp; done) | (simp; omega)) _).setCell (by first | omega | (simp; done) | (simp; omega)) _).alloc (by have := HB4.out.size; first | omega | (simp; done) | (simp; omega)) _
set_option maxRecDepth 100000 in
set_option maxHeartbeats 2000000 in
theorem rHeard_7 (e : Bool) (a p st lf : Int) (s : ByteArray) (number : Bool) (w : World) (q1 : okB e a p = true) (q2 : fitB e a p st lf = true) (h4 : ¬ 4 ≤ st) (q3 : sentB e a p s = true) (g1 : (s.toList == [67, 65]) = true) (h1 : (st == 1) = true) (q4 : aaB e p = false) (h2 : (p == 2) = true) : Calls Tryz.prog 65 #[.agg #[.bool e, .int .i64 a, .int .i64 p], .agg #[.int .i64 st, .int .i64 lf], .string s, .bool number] w (AnsQ ⟨3, lf, [(3, nT), (2, nT)], 0, 0⟩ w) := by
  have c1 : ∀ w, Calls Tryz.prog 48 #[.agg #[.bool e, .int .i64 a, .int .i64 p]] w fun r w' => r = .returned (.bool true) ∧ Below w.heap.size w w' := fun w => by have := rRight_any e a p w; rw [q1] at this; exact this
  have c2 : ∀ w, Calls Tryz.prog 97 #[.agg #[.bool e, .int .i64 a, .int .i64 p], .agg #[.int .i64 st, .int .i64 lf]] w fun r w' => r = .returned (.bool true) ∧ Below w.heap.size w w' := fun w => by have := rFits_any e a p st lf w; rw [q2] at this; exact this
  have c3 : ∀ w, Calls Tryz.prog 91 #[.agg #[.bool e, .int .i64 a, .int .i64 p], .string s] w fun r w' => r = .returned (.bool true) ∧ Below w.heap.size w w' := fun w => by have := rSent_any e a p s w; rw [q3] at this; exact this
  have c4 : ∀ w, Calls Tryz.prog 93 #[.agg #[.bool e, .int .i64 a, .int .i64 p]] w fun r w' => r = .returned (.bool false) ∧ Below w.heap.size w w' := fun w => by have := rApp_any e a p w; rw [q4] at this; exact this
  go_enter Tryz.func65, Tryz.ntmps65
  go_wp2_with fail
  refine (c1 _).mono ?_
  rintro _ w1 ⟨rfl, b1⟩
  have HB1 : Hid (Below w.heap.size w w1) := below_then ((((Below.refl _ _).alloc (by first | omega | (simp; done) | (simp; omega)) _).alloc (by first | omega | (simp; done) | (simp; omega)) _).alloc (by first | omega | (simp; done) | (simp; omega)) _) b1
  have X1_0 : Hid (Box w1 w.heap.size #[.bool e, .int .i64 a, .int .i64 p]) := (((Box.new' _ #[.bool e, .int .i64 a, .int .i64 p] 45 w.heap.size (by simp)).alloc _).alloc _).below b1
  have X1_1 : Hid (Box w1 (w.heap.size + 1) #[.int .i64 st, .int .i64 lf]) := ((Box.new' _ #[.int .i64 st, .int .i64 lf] 89 (w.heap.size + 1) (by simp)).alloc _).below b1
  have X1_2 : Hid (Box w1 (w.heap.size + 1 + 1) #[.int .i64 0, .int .i64 0]) := (Box.new' _ #[.int .i64 0, .int .i64 0] 89 (w.heap.size + 1 + 1) (by simp)).below b1
  obtain ⟨l1_0, k1_0, f1_0⟩ := X1_0.out
  obtain ⟨l1_1, k1_1, f1_1⟩ := X1_1.out
  obtain ⟨l1_2, k1_2, f1_2⟩ := X1_2.out
  clear b1 c1
  go_wp2_with fail
  refine (c2 _).mono ?_
  rintro _ w2 ⟨rfl, b2⟩
  have HB2 : Hid (Below w.heap.size w w2) := below_then HB1.out b2
  have X2_0 : Hid (Box w2 w.heap.size #[.bool e, .int .i64 a, .int .i64 p]) := X1_0.out.below b2
  have X2_1 : Hid (Box w2 (w.heap.size + 1) #[.int .i64 st, .int .i64 lf]) := X1_1.out.below b2
  have X2_2 : Hid (Box w2 (w.heap.size + 1 + 1) #[.int .i64 0, .int .i64 0]) := X1_2.out.below b2
  clear k1_0 l1_0 f1_0 X1_0 k1_1 l1_1 f1_1 X1_1 k1_2 l1_2 f1_2 X1_2 HB1
  obtain ⟨l2_0, k2_0, f2_0⟩ := X2_0.out
  obtain ⟨l2_1, k2_1, f2_1⟩ := X2_1.out
  obtain ⟨l2_2, k2_2, f2_2⟩ := X2_2.out
  clear b2 c2
  go_wp2_with fail
  refine (c3 _).mono ?_
  rintro _ w3 ⟨rfl, b3⟩
  have HB3 : Hid (Below w.heap.size w w3) := below_then HB2.out b3
  have X3_0 : Hid (Box w3 w.heap.size #[.bool e, .int .i64 a, .int .i64 p]) := X2_0.out.below b3
  have X3_1 : Hid (Box w3 (w.heap.size + 1) #[.int .i64 st, .int .i64 lf]) := X2_1.out.below b3
  have X3_2 : Hid (Box w3 (w.heap.size + 1 + 1) #[.int .i64 0, .int .i64 0]) := X2_2.out.below b3
  clear k2_0 l2_0 f2_0 X2_0 k2_1 l2_1 f2_1 X2_1 k2_2 l2_2 f2_2 X2_2 HB2
  obtain ⟨l3_0, k3_0, f3_0⟩ := X3_0.out
  obtain ⟨l3_1, k3_1, f3_1⟩ := X3_1.out
  obtain ⟨l3_2, k3_2, f3_2⟩ := X3_2.out
  clear b3 c3
  go_wp2_with fail
  refine (c4 _).mono ?_
  rintro _ w4 ⟨rfl, b4⟩
  have HB4 : Hid (Below w.heap.size w w4) := below_then HB3.out b4
  have X4_0 : Hid (Box w4 w.heap.size #[.bool e, .int .i64 a, .int .i64 p]) := X3_0.out.below b4
  have X4_1 : Hid (Box w4 (w.heap.size + 1) #[.int .i64 st, .int .i64 lf]) := X3_1.out.below b4
  have X4_2 : Hid (Box w4 (w.heap.size + 1 + 1) #[.int .i64 0, .int .i64 0]) := X3_2.out.below b4
  clear k3_0 l3_0 f3_0 X3_0 k3_1 l3_1 f3_1 X3_1 k3_2 l3_2 f3_2 X3_2 HB3
  obtain ⟨l4_0, k4_0, f4_0⟩ := X4_0.out
  obtain ⟨l4_1, k4_1, f4_1⟩ := X4_1.out
  obtain ⟨l4_2, k4_2, f4_2⟩ := X4_2.out
  clear b4 c4
  go_wp2_with fail
  refine bodyPost_ret ?_ rfl ⟨.slice (some ⟨w4.heap.size, 0, none⟩) 2 2, rfl, ActRow.lit' _ _ [(3, nT), (2, nT)] w4.heap.size 2 _ (by simp) HB4.out.size rfl rfl (by simp) (by simp), ?_⟩
  · simp [results, Tryz.results65, go_sem, k4_2, l4_2]
  · exact (((HB4.out).setCell (by first | omega | (simp; done) | (simp; omega)) _).setCell (by first | omega | (simp; done) | (simp; omega)) _).alloc (by have := HB4.out.size; first | omega | (simp; done) | (simp; omega)) _
set_option maxRecDepth 100000 in
set_option maxHeartbeats 2000000 in
theorem rHeard_8 (e : Bool) (a p st lf : Int) (s : ByteArray) (number : Bool) (w : World) (q1 : okB e a p = true) (q2 : fitB e a p st lf = true) (h4 : ¬ 4 ≤ st) (q3 : sentB e a p s = true) (g1 : (s.toList == [67, 65]) = true) (h1 : (st == 1) = true) (q4 : aaB e p = false) (h2 : (p == 2) = false) : Calls Tryz.prog 65 #[.agg #[.bool e, .int .i64 a, .int .i64 p], .agg #[.int .i64 st, .int .i64 lf], .string s, .bool number] w (AnsQ ⟨4, lf, [(4, kCA)], 0, 0⟩ w) := by
  have c1 : ∀ w, Calls Tryz.prog 48 #[.agg #[.bool e, .int .i64 a, .int .i64 p]] w fun r w' => r = .returned (.bool true) ∧ Below w.heap.size w w' := fun w => by have := rRight_any e a p w; rw [q1] at this; exact this
  have c2 : ∀ w, Calls Tryz.prog 97 #[.agg #[.bool e, .int .i64 a, .int .i64 p], .agg #[.int .i64 st, .int .i64 lf]] w fun r w' => r = .returned (.bool true) ∧ Below w.heap.size w w' := fun w => by have := rFits_any e a p st lf w; rw [q2] at this; exact this
  have c3 : ∀ w, Calls Tryz.prog 91 #[.agg #[.bool e, .int .i64 a, .int .i64 p], .string s] w fun r w' => r = .returned (.bool true) ∧ Below w.heap.size w w' := fun w => by have := rSent_any e a p s w; rw [q3] at this; exact this
  have c4 : ∀ w, Calls Tryz.prog 93 #[.agg #[.bool e, .int .i64 a, .int .i64 p]] w fun r w' => r = .returned (.bool false) ∧ Below w.heap.size w w' := fun w => by have := rApp_any e a p w; rw [q4] at this; exact this
  go_enter Tryz.func65, Tryz.ntmps65
  go_wp2_with fail
  refine (c1 _).mono ?_
  rintro _ w1 ⟨rfl, b1⟩
  have HB1 : Hid (Below w.heap.size w w1) := below_then ((((Below.refl _ _).alloc (by first | omega | (simp; done) | (simp; omega)) _).alloc (by first | omega | (simp; done) | (simp; omega)) _).alloc (by first | omega | (simp; done) | (simp; omega)) _) b1
  have X1_0 : Hid (Box w1 w.heap.size #[.bool e, .int .i64 a, .int .i64 p]) := (((Box.new' _ #[.bool e, .int .i64 a, .int .i64 p] 45 w.heap.size (by simp)).alloc _).alloc _).below b1
  have X1_1 : Hid (Box w1 (w.heap.size + 1) #[.int .i64 st, .int .i64 lf]) := ((Box.new' _ #[.int .i64 st, .int .i64 lf] 89 (w.heap.size + 1) (by simp)).alloc _).below b1
  have X1_2 : Hid (Box w1 (w.heap.size + 1 + 1) #[.int .i64 0, .int .i64 0]) := (Box.new' _ #[.int .i64 0, .int .i64 0] 89 (w.heap.size + 1 + 1) (by simp)).below b1
  obtain ⟨l1_0, k1_0, f1_0⟩ := X1_0.out
  obtain ⟨l1_1, k1_1, f1_1⟩ := X1_1.out
  obtain ⟨l1_2, k1_2, f1_2⟩ := X1_2.out
  clear b1 c1
  go_wp2_with fail
  refine (c2 _).mono ?_
  rintro _ w2 ⟨rfl, b2⟩
  have HB2 : Hid (Below w.heap.size w w2) := below_then HB1.out b2
  have X2_0 : Hid (Box w2 w.heap.size #[.bool e, .int .i64 a, .int .i64 p]) := X1_0.out.below b2
  have X2_1 : Hid (Box w2 (w.heap.size + 1) #[.int .i64 st, .int .i64 lf]) := X1_1.out.below b2
  have X2_2 : Hid (Box w2 (w.heap.size + 1 + 1) #[.int .i64 0, .int .i64 0]) := X1_2.out.below b2
  clear k1_0 l1_0 f1_0 X1_0 k1_1 l1_1 f1_1 X1_1 k1_2 l1_2 f1_2 X1_2 HB1
  obtain ⟨l2_0, k2_0, f2_0⟩ := X2_0.out
  obtain ⟨l2_1, k2_1, f2_1⟩ := X2_1.out
  obtain ⟨l2_2, k2_2, f2_2⟩ := X2_2.out
  clear b2 c2
  go_wp2_with fail
  refine (c3 _).mono ?_
  rintro _ w3 ⟨rfl, b3⟩
  have HB3 : Hid (Below w.heap.size w w3) := below_then HB2.out b3
  have X3_0 : Hid (Box w3 w.heap.size #[.bool e, .int .i64 a, .int .i64 p]) := X2_0.out.below b3
  have X3_1 : Hid (Box w3 (w.heap.size + 1) #[.int .i64 st, .int .i64 lf]) := X2_1.out.below b3
  have X3_2 : Hid (Box w3 (w.heap.size + 1 + 1) #[.int .i64 0, .int .i64 0]) := X2_2.out.below b3
  clear k2_0 l2_0 f2_0 X2_0 k2_1 l2_1 f2_1 X2_1 k2_2 l2_2 f2_2 X2_2 HB2
  obtain ⟨l3_0, k3_0, f3_0⟩ := X3_0.out
  obtain ⟨l3_1, k3_1, f3_1⟩ := X3_1.out
  obtain ⟨l3_2, k3_2, f3_2⟩ := X3_2.out
  clear b3 c3
  go_wp2_with fail
  refine (c4 _).mono ?_
  rintro _ w4 ⟨rfl, b4⟩
  have HB4 : Hid (Below w.heap.size w w4) := below_then HB3.out b4
  have X4_0 : Hid (Box w4 w.heap.size #[.bool e, .int .i64 a, .int .i64 p]) := X3_0.out.below b4
  have X4_1 : Hid (Box w4 (w.heap.size + 1) #[.int .i64 st, .int .i64 lf]) := X3_1.out.below b4
  have X4_2 : Hid (Box w4 (w.heap.size + 1 + 1) #[.int .i64 0, .int .i64 0]) := X3_2.out.below b4
  clear k3_0 l3_0 f3_0 X3_0 k3_1 l3_1 f3_1 X3_1 k3_2 l3_2 f3_2 X3_2 HB3
  obtain ⟨l4_0, k4_0, f4_0⟩ := X4_0.out
  obtain ⟨l4_1, k4_1, f4_1⟩ := X4_1.out
  obtain ⟨l4_2, k4_2, f4_2⟩ := X4_2.out
  clear b4 c4
  go_wp2_with fail
  refine bodyPost_ret ?_ rfl ⟨.slice (some ⟨w4.heap.size, 0, none⟩) 1 1, rfl, ActRow.lit' _ _ [(4, kCA)] w4.heap.size 1 _ (by simp) HB4.out.size rfl rfl (by simp) (by simp), ?_⟩
  · simp [results, Tryz.results65, go_sem, k4_2, l4_2]
  · exact (((HB4.out).setCell (by first | omega | (simp; done) | (simp; omega)) _).setCell (by first | omega | (simp; done) | (simp; omega)) _).alloc (by have := HB4.out.size; first | omega | (simp; done) | (simp; omega)) _
set_option maxRecDepth 100000 in
set_option maxHeartbeats 2000000 in
theorem rHeard_9a (e : Bool) (a p st lf : Int) (s : ByteArray) (number : Bool) (w : World) (q1 : okB e a p = true) (q2 : fitB e a p st lf = true) (h4 : ¬ 4 ≤ st) (q3 : sentB e a p s = true) (hn : number = true) (g1 : (s.toList == [67, 65]) = false) (g2 : (s.toList == [67, 69]) = true) (q5 : caB e a = true) (h1 : (st == 1) = false) : Calls Tryz.prog 65 #[.agg #[.bool e, .int .i64 a, .int .i64 p], .agg #[.int .i64 st, .int .i64 lf], .string s, .bool number] w (AnsQ ⟨st, lf, [(6, nT)], 0, 0⟩ w) := by
  have c1 : ∀ w, Calls Tryz.prog 48 #[.agg #[.bool e, .int .i64 a, .int .i64 p]] w fun r w' => r = .returned (.bool true) ∧ Below w.heap.size w w' := fun w => by have := rRight_any e a p w; rw [q1] at this; exact this
  have c2 : ∀ w, Calls Tryz.prog 97 #[.agg #[.bool e, .int .i64 a, .int .i64 p], .agg #[.int .i64 st, .int .i64 lf]] w fun r w' => r = .returned (.bool true) ∧ Below w.heap.size w w' := fun w => by have := rFits_any e a p st lf w; rw [q2] at this; exact this
  have c3 : ∀ w, Calls Tryz.prog 91 #[.agg #[.bool e, .int .i64 a, .int .i64 p], .string s] w fun r w' => r = .returned (.bool true) ∧ Below w.heap.size w w' := fun w => by have := rSent_any e a p s w; rw [q3] at this; exact this
  have c4 : ∀ w, Calls Tryz.prog 92 #[.agg #[.bool e, .int .i64 a, .int .i64 p]] w fun r w' => r = .returned (.bool true) ∧ Below w.heap.size w w' := fun w => by have := rCommit_any e a p w; rw [q5] at this; exact this
  subst hn
  go_enter Tryz.func65, Tryz.ntmps65
  go_wp2_with fail
  refine (c1 _).mono ?_
  rintro _ w1 ⟨rfl, b1⟩
  have HB1 : Hid (Below w.heap.size w w1) := below_then ((((Below.refl _ _).alloc (by first | omega | (simp; done) | (simp; omega)) _).alloc (by first | omega | (simp; done) | (simp; omega)) _).alloc (by first | omega | (simp; done) | (simp; omega)) _) b1
  have X1_0 : Hid (Box w1 w.heap.size #[.bool e, .int .i64 a, .int .i64 p]) := (((Box.new' _ #[.bool e, .int .i64 a, .int .i64 p] 45 w.heap.size (by simp)).alloc _).alloc _).below b1
  have X1_1 : Hid (Box w1 (w.heap.size + 1) #[.int .i64 st, .int .i64 lf]) := ((Box.new' _ #[.int .i64 st, .int .i64 lf] 89 (w.heap.size + 1) (by simp)).alloc _).below b1
  have X1_2 : Hid (Box w1 (w.heap.size + 1 + 1) #[.int .i64 0, .int .i64 0]) := (Box.new' _ #[.int .i64 0, .int .i64 0] 89 (w.heap.size + 1 + 1) (by simp)).below b1
  obtain ⟨l1_0, k1_0, f1_0⟩ := X1_0.out
  obtain ⟨l1_1, k1_1, f1_1⟩ := X1_1.out
  obtain ⟨l1_2, k1_2, f1_2⟩ := X1_2.out
  clear b1 c1
  go_wp2_with fail
  refine (c2 _).mono ?_
  rintro _ w2 ⟨rfl, b2⟩
  have HB2 : Hid (Below w.heap.size w w2) := below_then HB1.out b2
  have X2_0 : Hid (Box w2 w.heap.size #[.bool e, .int .i64 a, .int .i64 p]) := X1_0.out.below b2
  have X2_1 : Hid (Box w2 (w.heap.size + 1) #[.int .i64 st, .int .i64 lf]) := X1_1.out.below b2
  have X2_2 : Hid (Box w2 (w.heap.size + 1 + 1) #[.int .i64 0, .int .i64 0]) := X1_2.out.below b2
  clear k1_0 l1_0 f1_0 X1_0 k1_1 l1_1 f1_1 X1_1 k1_2 l1_2 f1_2 X1_2 HB1
  obtain ⟨l2_0, k2_0, f2_0⟩ := X2_0.out
  obtain ⟨l2_1, k2_1, f2_1⟩ := X2_1.out
  obtain ⟨l2_2, k2_2, f2_2⟩ := X2_2.out
  clear b2 c2
  go_wp2_with fail
  refine (c3 _).mono ?_
  rintro _ w3 ⟨rfl, b3⟩
  have HB3 : Hid (Below w.heap.size w w3) := below_then HB2.out b3
  have X3_0 : Hid (Box w3 w.heap.size #[.bool e, .int .i64 a, .int .i64 p]) := X2_0.out.below b3
  have X3_1 : Hid (Box w3 (w.heap.size + 1) #[.int .i64 st, .int .i64 lf]) := X2_1.out.below b3
  have X3_2 : Hid (Box w3 (w.heap.size + 1 + 1) #[.int .i64 0, .int .i64 0]) := X2_2.out.below b3
  clear k2_0 l2_0 f2_0 X2_0 k2_1 l2_1 f2_1 X2_1 k2_2 l2_2 f2_2 X2_2 HB2
  obtain ⟨l3_0, k3_0, f3_0⟩ := X3_0.out
  obtain ⟨l3_1, k3_1, f3_1⟩ := X3_1.out
  obtain ⟨l3_2, k3_2, f3_2⟩ := X3_2.out
  clear b3 c3
  go_wp2_with fail
  refine (c4 _).mono ?_
  rintro _ w4 ⟨rfl, b4⟩
  have HB4 : Hid (Below w.heap.size w w4) := below_then HB3.out b4
  have X4_0 : Hid (Box w4 w.heap.size #[.bool e, .int .i64 a, .int .i64 p]) := X3_0.out.below b4
  have X4_1 : Hid (Box w4 (w.heap.size + 1) #[.int .i64 st, .int .i64 lf]) := X3_1.out.below b4
  have X4_2 : Hid (Box w4 (w.heap.size + 1 + 1) #[.int .i64 0, .int .i64 0]) := X3_2.out.below b4
  clear k3_0 l3_0 f3_0 X3_0 k3_1 l3_1 f3_1 X3_1 k3_2 l3_2 f3_2 X3_2 HB3
  obtain ⟨l4_0, k4_0, f4_0⟩ := X4_0.out
  obtain ⟨l4_1, k4_1, f4_1⟩ := X4_1.out
  obtain ⟨l4_2, k4_2, f4_2⟩ := X4_2.out
  clear b4 c4
  go_wp2_with fail
  refine bodyPost_ret ?_ rfl ⟨.slice (some ⟨w4.heap.size, 0, none⟩) 1 1, rfl, ActRow.lit' _ _ [(6, nT)] w4.heap.size 1 _ (by simp) HB4.out.size rfl rfl (by simp) (by simp), ?_⟩
  · simp [results, Tryz.results65, go_sem, k4_2, l4_2]
  · exact (((HB4.out).setCell (by first | omega | (simp; done) | (simp; omega)) _).setCell (by first | omega | (simp; done) | (simp; omega)) _).alloc (by have := HB4.out.size; first | omega | (simp; done) | (simp; omega)) _
set_option maxRecDepth 100000 in
set_option maxHeartbeats 2000000 in
theorem rHeard_10ax (e : Bool) (a p st lf : Int) (s : ByteArray) (number : Bool) (w : World) (q1 : okB e a p = true) (q2 : fitB e a p st lf = true) (h4 : ¬ 4 ≤ st) (q3 : sentB e a p s = true) (hn : number = true) (g1 : (s.toList == [67, 65]) = false) (g2 : (s.toList == [67, 69]) = true) (q5 : caB e a = true) (h1 : (st == 1) = true) (h3 : 0 < lf) (h5 : lf ≤ 16) : Calls Tryz.prog 65 #[.agg #[.bool e, .int .i64 a, .int .i64 p], .agg #[.int .i64 st, .int .i64 lf], .string s, .bool number] w (AnsQ ⟨st, lf - 1, [(5, nT), (1, nT), (2, nT)], 0, 0⟩ w) := by
  have c1 : ∀ w, Calls Tryz.prog 48 #[.agg #[.bool e, .int .i64 a, .int .i64 p]] w fun r w' => r = .returned (.bool true) ∧ Below w.heap.size w w' := fun w => by have := rRight_any e a p w; rw [q1] at this; exact this
  have c2 : ∀ w, Calls Tryz.prog 97 #[.agg #[.bool e, .int .i64 a, .int .i64 p], .agg #[.int .i64 st, .int .i64 lf]] w fun r w' => r = .returned (.bool true) ∧ Below w.heap.size w w' := fun w => by have := rFits_any e a p st lf w; rw [q2] at this; exact this
  have c3 : ∀ w, Calls Tryz.prog 91 #[.agg #[.bool e, .int .i64 a, .int .i64 p], .string s] w fun r w' => r = .returned (.bool true) ∧ Below w.heap.size w w' := fun w => by have := rSent_any e a p s w; rw [q3] at this; exact this
  have c4 : ∀ w, Calls Tryz.prog 92 #[.agg #[.bool e, .int .i64 a, .int .i64 p]] w fun r w' => r = .returned (.bool true) ∧ Below w.heap.size w w' := fun w => by have := rCommit_any e a p w; rw [q5] at this; exact this
  subst hn
  go_enter Tryz.func65, Tryz.ntmps65
  go_wp2_with fail
  refine (c1 _).mono ?_
  rintro _ w1 ⟨rfl, b1⟩
  have HB1 : Hid (Below w.heap.size w w1) := below_then ((((Below.refl _ _).alloc (by first | omega | (simp; done) | (simp; omega)) _).alloc (by first | omega | (simp; done) | (simp; omega)) _).alloc (by first | omega | (simp; done) | (simp; omega)) _) b1
  have X1_0 : Hid (Box w1 w.heap.size #[.bool e, .int .i64 a, .int .i64 p]) := (((Box.new' _ #[.bool e, .int .i64 a, .int .i64 p] 45 w.heap.size (by simp)).alloc _).alloc _).below b1
  have X1_1 : Hid (Box w1 (w.heap.size + 1) #[.int .i64 st, .int .i64 lf]) := ((Box.new' _ #[.int .i64 st, .int .i64 lf] 89 (w.heap.size + 1) (by simp)).alloc _).below b1
  have X1_2 : Hid (Box w1 (w.heap.size + 1 + 1) #[.int .i64 0, .int .i64 0]) := (Box.new' _ #[.int .i64 0, .int .i64 0] 89 (w.heap.size + 1 + 1) (by simp)).below b1
  obtain ⟨l1_0, k1_0, f1_0⟩ := X1_0.out
  obtain ⟨l1_1, k1_1, f1_1⟩ := X1_1.out
  obtain ⟨l1_2, k1_2, f1_2⟩ := X1_2.out
  clear b1 c1
  go_wp2_with fail
  refine (c2 _).mono ?_
  rintro _ w2 ⟨rfl, b2⟩
  have HB2 : Hid (Below w.heap.size w w2) := below_then HB1.out b2
  have X2_0 : Hid (Box w2 w.heap.size #[.bool e, .int .i64 a, .int .i64 p]) := X1_0.out.below b2
  have X2_1 : Hid (Box w2 (w.heap.size + 1) #[.int .i64 st, .int .i64 lf]) := X1_1.out.below b2
  have X2_2 : Hid (Box w2 (w.heap.size + 1 + 1) #[.int .i64 0, .int .i64 0]) := X1_2.out.below b2
  clear k1_0 l1_0 f1_0 X1_0 k1_1 l1_1 f1_1 X1_1 k1_2 l1_2 f1_2 X1_2 HB1
  obtain ⟨l2_0, k2_0, f2_0⟩ := X2_0.out
  obtain ⟨l2_1, k2_1, f2_1⟩ := X2_1.out
  obtain ⟨l2_2, k2_2, f2_2⟩ := X2_2.out
  clear b2 c2
  go_wp2_with fail
  refine (c3 _).mono ?_
  rintro _ w3 ⟨rfl, b3⟩
  have HB3 : Hid (Below w.heap.size w w3) := below_then HB2.out b3
  have X3_0 : Hid (Box w3 w.heap.size #[.bool e, .int .i64 a, .int .i64 p]) := X2_0.out.below b3
  have X3_1 : Hid (Box w3 (w.heap.size + 1) #[.int .i64 st, .int .i64 lf]) := X2_1.out.below b3
  have X3_2 : Hid (Box w3 (w.heap.size + 1 + 1) #[.int .i64 0, .int .i64 0]) := X2_2.out.below b3
  clear k2_0 l2_0 f2_0 X2_0 k2_1 l2_1 f2_1 X2_1 k2_2 l2_2 f2_2 X2_2 HB2
  obtain ⟨l3_0, k3_0, f3_0⟩ := X3_0.out
  obtain ⟨l3_1, k3_1, f3_1⟩ := X3_1.out
  obtain ⟨l3_2, k3_2, f3_2⟩ := X3_2.out
  clear b3 c3
  go_wp2_with fail
  refine (c4 _).mono ?_
  rintro _ w4 ⟨rfl, b4⟩
  have HB4 : Hid (Below w.heap.size w w4) := below_then HB3.out b4
  have X4_0 : Hid (Box w4 w.heap.size #[.bool e, .int .i64 a, .int .i64 p]) := X3_0.out.below b4
  have X4_1 : Hid (Box w4 (w.heap.size + 1) #[.int .i64 st, .int .i64 lf]) := X3_1.out.below b4
  have X4_2 : Hid (Box w4 (w.heap.size + 1 + 1) #[.int .i64 0, .int .i64 0]) := X3_2.out.below b4
  clear k3_0 l3_0 f3_0 X3_0 k3_1 l3_1 f3_1 X3_1 k3_2 l3_2 f3_2 X3_2 HB3
  obtain ⟨l4_0, k4_0, f4_0⟩ := X4_0.out
  obtain ⟨l4_1, k4_1, f4_1⟩ := X4_1.out
  obtain ⟨l4_2, k4_2, f4_2⟩ := X4_2.out
  clear b4 c4
  go_wp2_with fail
  refine bodyPost_ret ?_ rfl ⟨.slice (some ⟨w4.heap.size, 0, none⟩) 3 3, rfl, ActRow.lit' _ _ [(5, nT), (1, nT), (2, nT)] w4.heap.size 3 _ (by simp) HB4.out.size rfl rfl (by simp) (by simp), ?_⟩
  · simp [results, Tryz.results65, go_sem, k4_2, l4_2]
  · exact (((HB4.out).setCell (by first | omega | (simp; done) | (simp; omega)) _).setCell (by first | omega | (simp; done) | (simp; omega)) _).alloc (by have := HB4.out.size; first | omega | (simp; done) | (simp; omega)) _
end Go.Proofs.YtoijhecphgdfnaaGreatDoor
