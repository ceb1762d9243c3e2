/-
  DecideStarts: the walk.
-/
import Derived.Test.YtjmjimbhoncidaaDoorDcOk
namespace Go.Proofs.YtjmjimbhoncidaaDoor
open Go.RowKit

set_option maxRecDepth 100000 in
set_option maxHeartbeats 4000000 in
theorem starts_law (D : DecC) (e : Bool) (a p t : Int) (noted : Bool) (w : World) (hV : PVc w) : Calls Tryd.prog 5 #[.agg #[.bool e, .int .i64 a, .int .i64 p], .int .i64 t, .bool noted] w fun r w' => r = .returned (.bool true) ∧ Below w.heap.size w w' := by
  have HV : Hid (PVc w) := hV
  clear hV
  have c1 := D.start e a p t noted
  have c2 := rStart_any e a p t noted
  have hlx := startS_len e a p t noted
  obtain ⟨x, hx⟩ : ∃ x, startS e a p t noted = x := ⟨_, rfl⟩
  rw [hx] at hlx c1 c2
  clear hx
  obtain ⟨st2, lf2, l2, at2, n2⟩ := x
  have HLx : Hid (_ ≤ 3) := hlx
  clear hlx
  go_enter Tryd.func5, Tryd.ntmps5
  go_wp2_with fail
  refine (c1 _ (HV.out.below ((Below.refl _ _).alloc (by first | omega | (simp; done) | (simp; omega)) _))).mono ?_
  rintro _ w1 ⟨v1, ev1, rfl, r1, e1, b1⟩
  have HB1 : Hid (Below w.heap.size w w1) := below_then ((Below.refl _ _).alloc (by first | omega | (simp; done) | (simp; omega)) _) b1
  have X1_0 : Hid (Box w1 w.heap.size #[.bool e, .int .i64 a, .int .i64 p]) := (Box.new' _ #[.bool e, .int .i64 a, .int .i64 p] 23 w.heap.size (by simp)).below b1
  have K1_r : Hid (ActRow w1 0 v1 l2) := r1.mono (Nat.zero_le _)
  have K1_e : Hid (Ev w1 ev1 at2 n2) := e1
  obtain ⟨l1_0, k1_0, f1_0⟩ := X1_0.out
  clear c1 b1 r1 e1
  go_wp2_with fail
  refine (c2 _).mono ?_
  rintro _ w2 ⟨v2, rfl, r2, b2⟩
  have HB2 : Hid (Below w.heap.size w w2) := below_then (HB1.out.alloc HB1.out.size _) b2
  have X2_0 : Hid (Box w2 w.heap.size #[.bool e, .int .i64 a, .int .i64 p]) := (X1_0.out.alloc _).below b2
  have X2_1 : Hid (Box w2 w1.heap.size #[.int .i64 st2, .int .i64 lf2]) := (Box.new w1 #[.int .i64 st2, .int .i64 lf2] 50).below b2
  have K2_r : Hid (ActRow w2 0 v1 l2) := (K1_r.out.below ((Below.refl _ _).alloc (Nat.le_refl _) _)).below b2
  have K2_e : Hid (Ev w2 ev1 at2 n2) := (K1_e.out.below ((Below.refl _ _).alloc (Nat.le_refl _) _)).below b2
  have K2_q : Hid (ActRow w2 0 v2 l2) := r2.mono (Nat.zero_le _)
  clear k1_0 l1_0 f1_0 X1_0 HB1 K1_r K1_e
  obtain ⟨l2_0, k2_0, f2_0⟩ := X2_0.out
  obtain ⟨l2_1, k2_1, f2_1⟩ := X2_1.out
  clear c2 b2 r2
  go_wp2_with fail
  refine (same_true ((K2_r.out.below ((Below.refl _ _).alloc (Nat.le_refl _) _)).acts) ((K2_q.out.below ((Below.refl _ _).alloc (Nat.le_refl _) _)).acts) (Nat.le_trans HLx.out (by decide))).mono ?_
  rintro _ _ ⟨rfl, m0, rfl⟩
  go_wp2_with fail
  refine (refused_any ((K2_e.out.below ((Below.refl _ _).alloc (Nat.le_refl _) _)).drewN _)).mono ?_
  rintro _ _ ⟨rfl, rfl⟩
  go_wp2_with fail
  go_ret
  exact ⟨rfl, (below_drewN (HB2.out.alloc HB2.out.size _) _)⟩
end Go.Proofs.YtjmjimbhoncidaaDoor
