/-
  DecideTable: the walk.
-/
import Derived.Test.YtjmjimbhoncidaaDoorDcOk
namespace Go.Proofs.YtjmjimbhoncidaaDoor
open Go.RowKit

set_option maxRecDepth 100000 in
set_option maxHeartbeats 4000000 in
theorem table_law (D : DecC) (e : Bool) (a p : Int) (h : Bool) (s : ByteArray) (w : World) (hV : PVc w) : Calls Tryd.prog 4 #[.agg #[.bool e, .int .i64 a, .int .i64 p], .bool h, .string s] w fun r w' => r = .returned (.bool true) ∧ Below w.heap.size w w' := by
  have HV : Hid (PVc w) := hV
  clear hV
  have c1 := D.refuse e a p h
  have c2 := rRefuse_any e a p h
  have c3 := D.owes e a p
  have c4 := rOwes_any e a p
  have c5 := D.may e a p s
  have c6 := rMay_any e a p s
  obtain ⟨s3, hx⟩ : ∃ x, (if okB e a p = true then refC e h else (⟨#[]⟩ : ByteArray)) = x := ⟨_, rfl⟩
  rw [hx] at c1 c2
  clear hx
  obtain ⟨q1, hx⟩ : ∃ x, (okB e a p && sentB e a p (refC e h)) = x := ⟨_, rfl⟩
  rw [hx] at c1 c2
  clear hx
  obtain ⟨q2, hx⟩ : ∃ x, (okB e a p && caB e a) = x := ⟨_, rfl⟩
  rw [hx] at c3 c4
  clear hx
  obtain ⟨q3, hx⟩ : ∃ x, (okB e a p && aaB e p) = x := ⟨_, rfl⟩
  rw [hx] at c3 c4
  clear hx
  obtain ⟨q4, hx⟩ : ∃ x, (okB e a p && earB e a p (caB e a)) = x := ⟨_, rfl⟩
  rw [hx] at c3 c4
  clear hx
  obtain ⟨q5, hx⟩ : ∃ x, (okB e a p && sentB e a p s) = x := ⟨_, rfl⟩
  rw [hx] at c5 c6
  clear hx
  obtain ⟨n, hx⟩ : ∃ x, errN e a p = x := ⟨_, rfl⟩
  rw [hx] at c1 c2 c3 c4 c5 c6
  clear hx
  go_enter Tryd.func4, Tryd.ntmps4
  go_wp2_with fail
  refine (c1 _ (HV.out.below ((Below.refl _ _).alloc (by first | omega | (simp; done) | (simp; omega)) _))).mono ?_
  rintro _ w1 ⟨ev1, rfl, e1, b1⟩
  have HB1 : Hid (Below w.heap.size w w1) := below_then ((Below.refl _ _).alloc (by first | omega | (simp; done) | (simp; omega)) _) b1
  have X1_0 : Hid (Box w1 w.heap.size #[.bool e, .int .i64 a, .int .i64 p]) := (Box.new' _ #[.bool e, .int .i64 a, .int .i64 p] 23 w.heap.size (by simp)).below b1
  have K1_e : Hid (Ev w1 ev1 0 n) := e1
  obtain ⟨l1_0, k1_0, f1_0⟩ := X1_0.out
  clear c1 b1 e1
  go_wp2_with fail
  refine (c2 _).mono ?_
  rintro _ w2 ⟨rfl, b2⟩
  have HB2 : Hid (Below w.heap.size w w2) := below_then HB1.out b2
  have X2_0 : Hid (Box w2 w.heap.size #[.bool e, .int .i64 a, .int .i64 p]) := X1_0.out.below b2
  have K2_e : Hid (Ev w2 ev1 0 n) := K1_e.out.below b2
  clear k1_0 l1_0 f1_0 X1_0 HB1 K1_e
  obtain ⟨l2_0, k2_0, f2_0⟩ := X2_0.out
  clear c2 b2 
  go_wp2_with fail
  refine (c3 _ (HV.out.below HB2.out)).mono ?_
  rintro _ w3 ⟨ev3, rfl, e3, b3⟩
  have HB3 : Hid (Below w.heap.size w w3) := below_then HB2.out b3
  have X3_0 : Hid (Box w3 w.heap.size #[.bool e, .int .i64 a, .int .i64 p]) := X2_0.out.below b3
  have K3_e : Hid (Ev w3 ev1 0 n) := K2_e.out.below b3
  have K3_f : Hid (Ev w3 ev3 0 n) := e3
  clear k2_0 l2_0 f2_0 X2_0 HB2 K2_e
  obtain ⟨l3_0, k3_0, f3_0⟩ := X3_0.out
  clear c3 b3 e3
  go_wp2_with fail
  refine (c4 _).mono ?_
  rintro _ w4 ⟨rfl, b4⟩
  have HB4 : Hid (Below w.heap.size w w4) := below_then HB3.out b4
  have X4_0 : Hid (Box w4 w.heap.size #[.bool e, .int .i64 a, .int .i64 p]) := X3_0.out.below b4
  have K4_e : Hid (Ev w4 ev1 0 n) := K3_e.out.below b4
  have K4_f : Hid (Ev w4 ev3 0 n) := K3_f.out.below b4
  clear k3_0 l3_0 f3_0 X3_0 HB3 K3_e K3_f
  obtain ⟨l4_0, k4_0, f4_0⟩ := X4_0.out
  clear c4 b4 
  go_wp2_with fail
  refine (c5 _ (HV.out.below HB4.out)).mono ?_
  rintro _ w5 ⟨ev5, rfl, e5, b5⟩
  have HB5 : Hid (Below w.heap.size w w5) := below_then HB4.out b5
  have X5_0 : Hid (Box w5 w.heap.size #[.bool e, .int .i64 a, .int .i64 p]) := X4_0.out.below b5
  have K5_e : Hid (Ev w5 ev1 0 n) := K4_e.out.below b5
  have K5_f : Hid (Ev w5 ev3 0 n) := K4_f.out.below b5
  have K5_g : Hid (Ev w5 ev5 0 n) := e5
  clear k4_0 l4_0 f4_0 X4_0 HB4 K4_e K4_f
  obtain ⟨l5_0, k5_0, f5_0⟩ := X5_0.out
  clear c5 b5 e5
  go_wp2_with fail
  refine (c6 _).mono ?_
  rintro _ w6 ⟨rfl, b6⟩
  have HB6 : Hid (Below w.heap.size w w6) := below_then HB5.out b6
  have X6_0 : Hid (Box w6 w.heap.size #[.bool e, .int .i64 a, .int .i64 p]) := X5_0.out.below b6
  have K6_e : Hid (Ev w6 ev1 0 n) := K5_e.out.below b6
  have K6_f : Hid (Ev w6 ev3 0 n) := K5_f.out.below b6
  have K6_g : Hid (Ev w6 ev5 0 n) := K5_g.out.below b6
  clear k5_0 l5_0 f5_0 X5_0 HB5 K5_e K5_f K5_g
  obtain ⟨l6_0, k6_0, f6_0⟩ := X6_0.out
  clear c6 b6 
  go_wp2_with fail
  refine (refused_any K6_e.out).mono ?_
  rintro _ _ ⟨rfl, rfl⟩
  go_wp2_with fail
  refine (refused_any K6_f.out).mono ?_
  rintro _ _ ⟨rfl, rfl⟩
  go_wp2_with fail
  refine (refused_any K6_g.out).mono ?_
  rintro _ _ ⟨rfl, rfl⟩
  go_wp2_with fail
  go_ret
  exact ⟨rfl, HB6.out⟩
end Go.Proofs.YtjmjimbhoncidaaDoor
