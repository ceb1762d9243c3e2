/-
  DecideModes: the walk.
-/
import Derived.Test.YtjmjimbhoncidaaDoorDcOk
namespace Go.Proofs.YtjmjimbhoncidaaDoor
open Go.RowKit

set_option maxRecDepth 100000 in
set_option maxHeartbeats 4000000 in
theorem modes_law (D : DecW) (s t : ByteArray) (e : Bool) (a p : Int) (w : World) (hV : PVw w) : Calls Tryd.prog 3 #[.string s, .string t, .agg #[.bool e, .int .i64 a, .int .i64 p]] w fun r w' => r = .returned (.bool true) ∧ Below w.heap.size w w' := by
  have HV : Hid (PVw w) := hV
  clear hV
  have c1 := D.mode s t
  have c2 := rMode_any s t
  have c3 := D.texts e a p
  have c4 := rTexts_any e a p
  obtain ⟨x, hx⟩ : ∃ x, modeS s t = x := ⟨_, rfl⟩
  rw [hx] at c1 c2
  clear hx
  obtain ⟨e2, a2, p2, at2, n2⟩ := x
  obtain ⟨s3, hx⟩ : ∃ x, (if okB e a p = true then textB e a else (⟨#[]⟩ : ByteArray)) = x := ⟨_, rfl⟩
  rw [hx] at c3 c4
  clear hx
  obtain ⟨t3, hx⟩ : ∃ x, (if okB e a p = true then textB e p else (⟨#[]⟩ : ByteArray)) = x := ⟨_, rfl⟩
  rw [hx] at c3 c4
  clear hx
  obtain ⟨n3, hx⟩ : ∃ x, errN e a p = x := ⟨_, rfl⟩
  rw [hx] at c3 c4
  clear hx
  go_enter Tryd.func3, Tryd.ntmps3
  go_wp2_with fail
  refine (c1 _ (HV.out.below ((Below.refl _ _).alloc (by first | omega | (simp; done) | (simp; omega)) _))).mono ?_
  rintro _ w1 ⟨ev1, rfl, e1, b1⟩
  have HB1 : Hid (Below w.heap.size w w1) := below_then ((Below.refl _ _).alloc (by first | omega | (simp; done) | (simp; omega)) _) b1
  have X1_0 : Hid (Box w1 w.heap.size #[.bool e, .int .i64 a, .int .i64 p]) := (Box.new' _ #[.bool e, .int .i64 a, .int .i64 p] 23 w.heap.size (by simp)).below b1
  have K1_e : Hid (Ev w1 ev1 at2 n2) := e1
  obtain ⟨l1_0, k1_0, f1_0⟩ := X1_0.out
  clear c1 b1 e1
  go_wp2_with fail
  refine (c2 _).mono ?_
  rintro _ w2 ⟨rfl, b2⟩
  have HB2 : Hid (Below w.heap.size w w2) := below_then (HB1.out.alloc HB1.out.size _) b2
  have X2_0 : Hid (Box w2 w.heap.size #[.bool e, .int .i64 a, .int .i64 p]) := (X1_0.out.alloc _).below b2
  have X2_1 : Hid (Box w2 w1.heap.size #[.bool e2, .int .i64 a2, .int .i64 p2]) := (Box.new w1 #[.bool e2, .int .i64 a2, .int .i64 p2] 23).below b2
  have K2_e : Hid (Ev w2 ev1 at2 n2) := (K1_e.out.below ((Below.refl _ _).alloc (Nat.le_refl _) _)).below b2
  clear k1_0 l1_0 f1_0 X1_0 HB1 K1_e
  obtain ⟨l2_0, k2_0, f2_0⟩ := X2_0.out
  obtain ⟨l2_1, k2_1, f2_1⟩ := X2_1.out
  clear c2 b2 
  go_wp2_with fail
  refine (c3 _ (HV.out.below (HB2.out.alloc HB2.out.size _))).mono ?_
  rintro _ w3 ⟨ev3, rfl, e3, b3⟩
  have HB3 : Hid (Below w.heap.size w w3) := below_then (HB2.out.alloc HB2.out.size _) b3
  have X3_0 : Hid (Box w3 w.heap.size #[.bool e, .int .i64 a, .int .i64 p]) := (X2_0.out.alloc _).below b3
  have X3_1 : Hid (Box w3 w1.heap.size #[.bool e2, .int .i64 a2, .int .i64 p2]) := (X2_1.out.alloc _).below b3
  have X3_2 : Hid (Box w3 w2.heap.size #[.bool e2, .int .i64 a2, .int .i64 p2]) := (Box.new w2 #[.bool e2, .int .i64 a2, .int .i64 p2] 23).below b3
  have K3_e : Hid (Ev w3 ev1 at2 n2) := (K2_e.out.below ((Below.refl _ _).alloc (Nat.le_refl _) _)).below b3
  have K3_f : Hid (Ev w3 ev3 0 n3) := e3
  clear k2_0 l2_0 f2_0 X2_0 k2_1 l2_1 f2_1 X2_1 HB2 K2_e
  obtain ⟨l3_0, k3_0, f3_0⟩ := X3_0.out
  obtain ⟨l3_1, k3_1, f3_1⟩ := X3_1.out
  obtain ⟨l3_2, k3_2, f3_2⟩ := X3_2.out
  clear c3 b3 e3
  go_wp2_with fail
  refine (c4 _).mono ?_
  rintro _ w4 ⟨rfl, b4⟩
  have HB4 : Hid (Below w.heap.size w w4) := below_then HB3.out b4
  have X4_0 : Hid (Box w4 w.heap.size #[.bool e, .int .i64 a, .int .i64 p]) := X3_0.out.below b4
  have X4_1 : Hid (Box w4 w1.heap.size #[.bool e2, .int .i64 a2, .int .i64 p2]) := X3_1.out.below b4
  have X4_2 : Hid (Box w4 w2.heap.size #[.bool e2, .int .i64 a2, .int .i64 p2]) := X3_2.out.below b4
  have K4_e : Hid (Ev w4 ev1 at2 n2) := K3_e.out.below b4
  have K4_f : Hid (Ev w4 ev3 0 n3) := K3_f.out.below b4
  clear k3_0 l3_0 f3_0 X3_0 k3_1 l3_1 f3_1 X3_1 k3_2 l3_2 f3_2 X3_2 HB3 K3_e K3_f
  obtain ⟨l4_0, k4_0, f4_0⟩ := X4_0.out
  obtain ⟨l4_1, k4_1, f4_1⟩ := X4_1.out
  obtain ⟨l4_2, k4_2, f4_2⟩ := X4_2.out
  clear c4 b4 
  go_wp2_with fail
  refine (refused_any K4_e.out).mono ?_
  rintro _ _ ⟨rfl, rfl⟩
  go_wp2_with fail
  refine (refused_any K4_f.out).mono ?_
  rintro _ _ ⟨rfl, rfl⟩
  go_wp2_with fail
  go_ret
  exact ⟨rfl, HB4.out⟩
end Go.Proofs.YtjmjimbhoncidaaDoor
