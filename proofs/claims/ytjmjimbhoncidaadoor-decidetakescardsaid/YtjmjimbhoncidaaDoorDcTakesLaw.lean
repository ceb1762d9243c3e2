/-
  DecideTakes: the walk.
-/
import Derived.Test.YtjmjimbhoncidaaDoorDcOk
namespace Go.Proofs.YtjmjimbhoncidaaDoor
open Go.RowKit

set_option maxRecDepth 100000 in
set_option maxHeartbeats 4000000 in
theorem takes_law (D : DecC) (e : Bool) (a p : Int) (d : Bool) (c s : ByteArray) (w : World) (hV : PVc w) : Calls Tryd.prog 6 #[.agg #[.bool e, .int .i64 a, .int .i64 p], .agg #[.bool d, .string c], .string s] w fun r w' => r = .returned (.bool true) ∧ Below w.heap.size w w' := by
  have HV : Hid (PVc w) := hV
  clear hV
  have c1 := D.take e a p
  have c2 := rTake_any e a p
  have c3 := D.judge e a p d c s
  have c4 := rJudge_any e a p d c s
  have c5 := D.copy e a p d c
  have c6 := rCopy_any e a p d c
  have hlx := takeS_len e a p
  obtain ⟨x, hx⟩ : ∃ x, takeS e a p = x := ⟨_, rfl⟩
  rw [hx] at hlx c1 c2
  clear hx
  obtain ⟨d1, c1_, l1, n1⟩ := x
  have HLx : Hid (_ ≤ 3) := hlx
  clear hlx
  have hly := judgeS_len e a p d c s
  obtain ⟨y, hx⟩ : ∃ x, judgeS e a p d c s = x := ⟨_, rfl⟩
  rw [hx] at hly c3 c4
  clear hx
  obtain ⟨d2, c2_, l2, n2⟩ := y
  have HLy : Hid (_ ≤ 3) := hly
  clear hly
  have hlz := copyS_len e a p d c
  obtain ⟨z, hx⟩ : ∃ x, copyS e a p d c = x := ⟨_, rfl⟩
  rw [hx] at hlz c5 c6
  clear hx
  obtain ⟨d3, c3_, l3, n3⟩ := z
  have HLz : Hid (_ ≤ 3) := hlz
  clear hlz
  go_enter Tryd.func6, Tryd.ntmps6
  go_wp2_with fail
  refine (c1 _ (HV.out.below (((Below.refl _ _).alloc (by first | omega | (simp; done) | (simp; omega)) _).alloc (by first | omega | (simp; done) | (simp; omega)) _))).mono ?_
  rintro _ w1 ⟨v1, ev1, rfl, r1, e1, b1⟩
  have HB1 : Hid (Below w.heap.size w w1) := below_then (((Below.refl _ _).alloc (by first | omega | (simp; done) | (simp; omega)) _).alloc (by first | omega | (simp; done) | (simp; omega)) _) b1
  have X1_0 : Hid (Box w1 w.heap.size #[.bool e, .int .i64 a, .int .i64 p]) := ((Box.new' _ #[.bool e, .int .i64 a, .int .i64 p] 23 w.heap.size (by simp)).alloc _).below b1
  have X1_1 : Hid (Box w1 (w.heap.size + 1) #[.bool d, .string c]) := (Box.new' _ #[.bool d, .string c] 59 (w.heap.size + 1) (by simp)).below b1
  have K1_r : Hid (ActRow w1 0 v1 l1) := r1.mono (Nat.zero_le _)
  have K1_e : Hid (Ev w1 ev1 0 n1) := e1
  obtain ⟨l1_0, k1_0, f1_0⟩ := X1_0.out
  obtain ⟨l1_1, k1_1, f1_1⟩ := X1_1.out
  clear c1 b1 r1 e1
  go_wp2_with fail
  refine (c2 _).mono ?_
  rintro _ w2 ⟨v2, rfl, r2, b2⟩
  have HB2 : Hid (Below w.heap.size w w2) := below_then (HB1.out.alloc HB1.out.size _) b2
  have X2_0 : Hid (Box w2 w.heap.size #[.bool e, .int .i64 a, .int .i64 p]) := (X1_0.out.alloc _).below b2
  have X2_1 : Hid (Box w2 (w.heap.size + 1) #[.bool d, .string c]) := (X1_1.out.alloc _).below b2
  have X2_2 : Hid (Box w2 w1.heap.size #[.bool d1, .string c1_]) := (Box.new w1 #[.bool d1, .string c1_] 59).below b2
  have K2_r : Hid (ActRow w2 0 v1 l1) := (K1_r.out.below ((Below.refl _ _).alloc (Nat.le_refl _) _)).below b2
  have K2_e : Hid (Ev w2 ev1 0 n1) := (K1_e.out.below ((Below.refl _ _).alloc (Nat.le_refl _) _)).below b2
  have K2_q : Hid (ActRow w2 0 v2 l1) := r2.mono (Nat.zero_le _)
  clear k1_0 l1_0 f1_0 X1_0 k1_1 l1_1 f1_1 X1_1 HB1 K1_r K1_e
  obtain ⟨l2_0, k2_0, f2_0⟩ := X2_0.out
  obtain ⟨l2_1, k2_1, f2_1⟩ := X2_1.out
  obtain ⟨l2_2, k2_2, f2_2⟩ := X2_2.out
  clear c2 b2 r2
  go_wp2_with fail
  refine (c3 _ (HV.out.below (HB2.out.alloc HB2.out.size _))).mono ?_
  rintro _ w3 ⟨v3, ev3, rfl, r3, e3, b3⟩
  have HB3 : Hid (Below w.heap.size w w3) := below_then (HB2.out.alloc HB2.out.size _) b3
  have X3_0 : Hid (Box w3 w.heap.size #[.bool e, .int .i64 a, .int .i64 p]) := (X2_0.out.alloc _).below b3
  have X3_1 : Hid (Box w3 (w.heap.size + 1) #[.bool d, .string c]) := (X2_1.out.alloc _).below b3
  have X3_2 : Hid (Box w3 w1.heap.size #[.bool d1, .string c1_]) := (X2_2.out.alloc _).below b3
  have X3_3 : Hid (Box w3 w2.heap.size #[.bool d1, .string c1_]) := (Box.new w2 #[.bool d1, .string c1_] 59).below b3
  have K3_r : Hid (ActRow w3 0 v1 l1) := (K2_r.out.below ((Below.refl _ _).alloc (Nat.le_refl _) _)).below b3
  have K3_e : Hid (Ev w3 ev1 0 n1) := (K2_e.out.below ((Below.refl _ _).alloc (Nat.le_refl _) _)).below b3
  have K3_q : Hid (ActRow w3 0 v2 l1) := (K2_q.out.below ((Below.refl _ _).alloc (Nat.le_refl _) _)).below b3
  have K3_s : Hid (ActRow w3 0 v3 l2) := r3.mono (Nat.zero_le _)
  have K3_f : Hid (Ev w3 ev3 0 n2) := e3
  clear k2_0 l2_0 f2_0 X2_0 k2_1 l2_1 f2_1 X2_1 k2_2 l2_2 f2_2 X2_2 HB2 K2_r K2_e K2_q
  obtain ⟨l3_0, k3_0, f3_0⟩ := X3_0.out
  obtain ⟨l3_1, k3_1, f3_1⟩ := X3_1.out
  obtain ⟨l3_2, k3_2, f3_2⟩ := X3_2.out
  obtain ⟨l3_3, k3_3, f3_3⟩ := X3_3.out
  clear c3 b3 r3 e3
  go_wp2_with fail
  refine (c4 _).mono ?_
  rintro _ w4 ⟨v4, rfl, r4, b4⟩
  have HB4 : Hid (Below w.heap.size w w4) := below_then (HB3.out.alloc HB3.out.size _) b4
  have X4_0 : Hid (Box w4 w.heap.size #[.bool e, .int .i64 a, .int .i64 p]) := (X3_0.out.alloc _).below b4
  have X4_1 : Hid (Box w4 (w.heap.size + 1) #[.bool d, .string c]) := (X3_1.out.alloc _).below b4
  have X4_2 : Hid (Box w4 w1.heap.size #[.bool d1, .string c1_]) := (X3_2.out.alloc _).below b4
  have X4_3 : Hid (Box w4 w2.heap.size #[.bool d1, .string c1_]) := (X3_3.out.alloc _).below b4
  have X4_4 : Hid (Box w4 w3.heap.size #[.bool d2, .string c2_]) := (Box.new w3 #[.bool d2, .string c2_] 59).below b4
  have K4_r : Hid (ActRow w4 0 v1 l1) := (K3_r.out.below ((Below.refl _ _).alloc (Nat.le_refl _) _)).below b4
  have K4_e : Hid (Ev w4 ev1 0 n1) := (K3_e.out.below ((Below.refl _ _).alloc (Nat.le_refl _) _)).below b4
  have K4_q : Hid (ActRow w4 0 v2 l1) := (K3_q.out.below ((Below.refl _ _).alloc (Nat.le_refl _) _)).below b4
  have K4_s : Hid (ActRow w4 0 v3 l2) := (K3_s.out.below ((Below.refl _ _).alloc (Nat.le_refl _) _)).below b4
  have K4_f : Hid (Ev w4 ev3 0 n2) := (K3_f.out.below ((Below.refl _ _).alloc (Nat.le_refl _) _)).below b4
  have K4_t : Hid (ActRow w4 0 v4 l2) := r4.mono (Nat.zero_le _)
  clear k3_0 l3_0 f3_0 X3_0 k3_1 l3_1 f3_1 X3_1 k3_2 l3_2 f3_2 X3_2 k3_3 l3_3 f3_3 X3_3 HB3 K3_r K3_e K3_q K3_s K3_f
  obtain ⟨l4_0, k4_0, f4_0⟩ := X4_0.out
  obtain ⟨l4_1, k4_1, f4_1⟩ := X4_1.out
  obtain ⟨l4_2, k4_2, f4_2⟩ := X4_2.out
  obtain ⟨l4_3, k4_3, f4_3⟩ := X4_3.out
  obtain ⟨l4_4, k4_4, f4_4⟩ := X4_4.out
  clear c4 b4 r4
  go_wp2_with fail
  refine (c5 _ (HV.out.below (HB4.out.alloc HB4.out.size _))).mono ?_
  rintro _ w5 ⟨v5, ev5, rfl, r5, e5, b5⟩
  have HB5 : Hid (Below w.heap.size w w5) := below_then (HB4.out.alloc HB4.out.size _) b5
  have X5_0 : Hid (Box w5 w.heap.size #[.bool e, .int .i64 a, .int .i64 p]) := (X4_0.out.alloc _).below b5
  have X5_1 : Hid (Box w5 (w.heap.size + 1) #[.bool d, .string c]) := (X4_1.out.alloc _).below b5
  have X5_2 : Hid (Box w5 w1.heap.size #[.bool d1, .string c1_]) := (X4_2.out.alloc _).below b5
  have X5_3 : Hid (Box w5 w2.heap.size #[.bool d1, .string c1_]) := (X4_3.out.alloc _).below b5
  have X5_4 : Hid (Box w5 w3.heap.size #[.bool d2, .string c2_]) := (X4_4.out.alloc _).below b5
  have X5_5 : Hid (Box w5 w4.heap.size #[.bool d2, .string c2_]) := (Box.new w4 #[.bool d2, .string c2_] 59).below b5
  have K5_r : Hid (ActRow w5 0 v1 l1) := (K4_r.out.below ((Below.refl _ _).alloc (Nat.le_refl _) _)).below b5
  have K5_e : Hid (Ev w5 ev1 0 n1) := (K4_e.out.below ((Below.refl _ _).alloc (Nat.le_refl _) _)).below b5
  have K5_q : Hid (ActRow w5 0 v2 l1) := (K4_q.out.below ((Below.refl _ _).alloc (Nat.le_refl _) _)).below b5
  have K5_s : Hid (ActRow w5 0 v3 l2) := (K4_s.out.below ((Below.refl _ _).alloc (Nat.le_refl _) _)).below b5
  have K5_f : Hid (Ev w5 ev3 0 n2) := (K4_f.out.below ((Below.refl _ _).alloc (Nat.le_refl _) _)).below b5
  have K5_t : Hid (ActRow w5 0 v4 l2) := (K4_t.out.below ((Below.refl _ _).alloc (Nat.le_refl _) _)).below b5
  have K5_u : Hid (ActRow w5 0 v5 l3) := r5.mono (Nat.zero_le _)
  have K5_g : Hid (Ev w5 ev5 0 n3) := e5
  clear k4_0 l4_0 f4_0 X4_0 k4_1 l4_1 f4_1 X4_1 k4_2 l4_2 f4_2 X4_2 k4_3 l4_3 f4_3 X4_3 k4_4 l4_4 f4_4 X4_4 HB4 K4_r K4_e K4_q K4_s K4_f K4_t
  obtain ⟨l5_0, k5_0, f5_0⟩ := X5_0.out
  obtain ⟨l5_1, k5_1, f5_1⟩ := X5_1.out
  obtain ⟨l5_2, k5_2, f5_2⟩ := X5_2.out
  obtain ⟨l5_3, k5_3, f5_3⟩ := X5_3.out
  obtain ⟨l5_4, k5_4, f5_4⟩ := X5_4.out
  obtain ⟨l5_5, k5_5, f5_5⟩ := X5_5.out
  clear c5 b5 r5 e5
  go_wp2_with fail
  refine (c6 _).mono ?_
  rintro _ w6 ⟨v6, rfl, r6, b6⟩
  have HB6 : Hid (Below w.heap.size w w6) := below_then HB5.out b6
  have X6_0 : Hid (Box w6 w.heap.size #[.bool e, .int .i64 a, .int .i64 p]) := X5_0.out.below b6
  have X6_1 : Hid (Box w6 (w.heap.size + 1) #[.bool d, .string c]) := X5_1.out.below b6
  have X6_2 : Hid (Box w6 w1.heap.size #[.bool d1, .string c1_]) := X5_2.out.below b6
  have X6_3 : Hid (Box w6 w2.heap.size #[.bool d1, .string c1_]) := X5_3.out.below b6
  have X6_4 : Hid (Box w6 w3.heap.size #[.bool d2, .string c2_]) := X5_4.out.below b6
  have X6_5 : Hid (Box w6 w4.heap.size #[.bool d2, .string c2_]) := X5_5.out.below b6
  have K6_r : Hid (ActRow w6 0 v1 l1) := K5_r.out.below b6
  have K6_e : Hid (Ev w6 ev1 0 n1) := K5_e.out.below b6
  have K6_q : Hid (ActRow w6 0 v2 l1) := K5_q.out.below b6
  have K6_s : Hid (ActRow w6 0 v3 l2) := K5_s.out.below b6
  have K6_f : Hid (Ev w6 ev3 0 n2) := K5_f.out.below b6
  have K6_t : Hid (ActRow w6 0 v4 l2) := K5_t.out.below b6
  have K6_u : Hid (ActRow w6 0 v5 l3) := K5_u.out.below b6
  have K6_g : Hid (Ev w6 ev5 0 n3) := K5_g.out.below b6
  have K6_v : Hid (ActRow w6 0 v6 l3) := r6.mono (Nat.zero_le _)
  clear k5_0 l5_0 f5_0 X5_0 k5_1 l5_1 f5_1 X5_1 k5_2 l5_2 f5_2 X5_2 k5_3 l5_3 f5_3 X5_3 k5_4 l5_4 f5_4 X5_4 k5_5 l5_5 f5_5 X5_5 HB5 K5_r K5_e K5_q K5_s K5_f K5_t K5_u K5_g
  obtain ⟨l6_0, k6_0, f6_0⟩ := X6_0.out
  obtain ⟨l6_1, k6_1, f6_1⟩ := X6_1.out
  obtain ⟨l6_2, k6_2, f6_2⟩ := X6_2.out
  obtain ⟨l6_3, k6_3, f6_3⟩ := X6_3.out
  obtain ⟨l6_4, k6_4, f6_4⟩ := X6_4.out
  obtain ⟨l6_5, k6_5, f6_5⟩ := X6_5.out
  clear c6 b6 r6
  go_wp2_with fail
  refine (same_true (K6_r.out.acts) (K6_q.out.acts) (Nat.le_trans HLx.out (by decide))).mono ?_
  rintro _ _ ⟨rfl, m0, rfl⟩
  go_wp2_with fail
  refine (refused_any (K6_e.out.drewN _)).mono ?_
  rintro _ _ ⟨rfl, rfl⟩
  go_wp2_with fail
  refine (same_true ((K6_s.out.acts.drewN _)) ((K6_t.out.acts.drewN _)) (Nat.le_trans HLy.out (by decide))).mono ?_
  rintro _ _ ⟨rfl, m2, rfl⟩
  go_wp2_with fail
  refine (refused_any (K6_f.out.drewN _)).mono ?_
  rintro _ _ ⟨rfl, rfl⟩
  go_wp2_with fail
  refine (same_true ((K6_u.out.acts.drewN _)) ((K6_v.out.acts.drewN _)) (Nat.le_trans HLz.out (by decide))).mono ?_
  rintro _ _ ⟨rfl, m4, rfl⟩
  go_wp2_with fail
  refine (refused_any (K6_g.out.drewN _)).mono ?_
  rintro _ _ ⟨rfl, rfl⟩
  go_wp2_with fail
  go_ret
  exact ⟨rfl, (below_drewN HB6.out _)⟩
end Go.Proofs.YtjmjimbhoncidaaDoor
