/-
  The laws' heads.
-/
import Derived.Test.YtjmjimbhoncidaaDoorDcHeads
namespace Go.Proofs.YtjmjimbhoncidaaDoor
open Go.RowKit

theorem hd_mode : modeS ⟨#[65, 76]⟩ ⟨#[65, 76]⟩ = ⟨true, 1, 1, 0, 0⟩ := by
  simp [modeS, wordK, wordI, Lib.toList_data]
theorem hd_start : startS true 1 1 2 false = ⟨1, 2, [(1, nT), (2, nT)], 0, 0⟩ := by
  simp [startS, okB, caB]
theorem hd_heard1 : heardS true 1 1 1 2 ⟨#[67, 65]⟩ false = ⟨2, 2, [(3, nT)], 0, 0⟩ := by
  unfold heardS; rw [sent_1]; simp [okB, fitB, caB, aaB, Lib.toList_data]
theorem hd_heard2 : heardS true 1 1 2 2 ⟨#[65, 69]⟩ false = ⟨4, 2, [(4, ⟨#[65, 69]⟩)], 0, 0⟩ := by
  unfold heardS; rw [sent_5]; simp [okB, fitB, aaB, aeB, Lib.toList_data]
set_option maxRecDepth 100000 in
set_option maxHeartbeats 4000000 in
theorem heads_true (D : DecOk) (w : World) (hV : PV w) : Calls Tryd.prog 36 #[] w fun r w' => r = .returned (.bool true) ∧ Below w.heap.size w w' := by
  have HV : Hid (PV w) := hV
  clear hV
  have c1 := D.mode ⟨#[65, 76]⟩ ⟨#[65, 76]⟩
  have c2 := D.start true 1 1 2 false
  have c3 := D.heard true 1 1 1 2 ⟨#[67, 65]⟩ false
  have c4 := D.heard true 1 1 2 2 ⟨#[65, 69]⟩ false
  rw [hd_mode] at c1
  rw [hd_start] at c2
  rw [hd_heard1] at c3
  rw [hd_heard2] at c4
  go_enter Tryd.func36, Tryd.ntmps36
  go_wp2_with fail
  refine (c1 _ HV.out).mono ?_
  rintro _ w1 ⟨ev1, rfl, e1, b1⟩
  obtain rfl := e1.nil
  have HB1 : Hid (Below w.heap.size w w1) := b1
  clear c1 e1 b1
  go_wp2_with fail
  refine (c2 _ (HV.out.below (HB1.out.alloc HB1.out.size _))).mono ?_
  rintro _ w2 ⟨v2, ev2, rfl, r2, e2, b2⟩
  obtain rfl := e2.nil
  have HB2 : Hid (Below w.heap.size w w2) := below_then (HB1.out.alloc HB1.out.size _) b2
  have X2 : Hid (Box w2 w1.heap.size #[.bool true, .int .i64 1, .int .i64 1]) := (Box.new w1 #[.bool true, .int .i64 1, .int .i64 1] 23).below b2
  obtain ⟨l2, k2, f2⟩ := X2.out
  have K2 : Hid (ActRow w2 0 v2 [(1, nT), (2, nT)]) := r2.mono (Nat.zero_le _)
  clear c2 e2 b2 r2 HB1
  go_wp2_with fail
  refine (same_true (N := 0) (M := 0) (l := [(1, nT), (2, nT)]) (((K2.out.below ((Below.refl _ _).alloc (Nat.le_refl _) _)).below ((Below.refl _ _).alloc (Nat.le_refl _) _)).acts) ((ActRow.lit' _ 0 _ _ 2 _ (by simp) (Nat.zero_le _) rfl rfl (by simp) (by simp)).acts) (by simp)).mono ?_
  rintro _ _ ⟨rfl, m1, rfl⟩
  go_wp2_with fail
  refine (c3 _ (HV.out.below (below_drewN ((HB2.out.alloc HB2.out.size _).alloc (by have := HB2.out.size; first | omega | (simp; omega)) _) _))).mono ?_
  rintro _ w3 ⟨v3, ev3, rfl, r3, e3, b3⟩
  obtain rfl := e3.nil
  have HB3 : Hid (Below w.heap.size w w3) := below_then (below_drewN ((HB2.out.alloc HB2.out.size _).alloc (by have := HB2.out.size; first | omega | (simp; omega)) _) _) b3
  have X3 : Hid (Box w3 w1.heap.size #[.bool true, .int .i64 1, .int .i64 1]) := (((X2.out.alloc _).alloc _).drewN _).below b3
  have Y3 : Hid (Box w3 w2.heap.size #[.int .i64 1, .int .i64 2]) := (((Box.new w2 #[.int .i64 1, .int .i64 2] 50).alloc _).drewN _).below b3
  have K3 : Hid (ActRow w3 0 v3 [(3, nT)] ∧ w.heap.size ≤ w2.heap.size ∧ ∀ g, v3.ownBlock = some g → w2.heap.size < g) := ⟨r3.mono (Nat.zero_le _), HB2.out.size, fun g hg => by have := r3.ne hg; simp at this; omega⟩
  have hne : w1.heap.size ≠ w2.heap.size := by omega
  obtain ⟨l3, k3, f3⟩ := X3.out
  obtain ⟨m3, n3, o3⟩ := Y3.out
  clear c3 e3 b3 r3 HB2 X2 l2 k2 f2 K2
  have Z3 : Hid (Box ((w3.setCell ⟨w2.heap.size, 0, none⟩ (.int .i64 2)).setCell ⟨w2.heap.size, 1, none⟩ (.int .i64 2)) w2.heap.size #[.int .i64 2, .int .i64 2] ∧ Box ((w3.setCell ⟨w2.heap.size, 0, none⟩ (.int .i64 2)).setCell ⟨w2.heap.size, 1, none⟩ (.int .i64 2)) w1.heap.size #[.bool true, .int .i64 1, .int .i64 1] ∧ ActRow ((w3.setCell ⟨w2.heap.size, 0, none⟩ (.int .i64 2)).setCell ⟨w2.heap.size, 1, none⟩ (.int .i64 2)) 0 v3 [(3, nT)] ∧ Below w.heap.size w ((w3.setCell ⟨w2.heap.size, 0, none⟩ (.int .i64 2)).setCell ⟨w2.heap.size, 1, none⟩ (.int .i64 2))) :=
    ⟨Y3.out.put2 _ _, (X3.out.off _ (by simpa using hne.symm)).off _ (by simpa using hne.symm), (K3.out.1.set (fun g hg => by have := K3.out.2.2 g hg; simp; omega)).set (fun g hg => by have := K3.out.2.2 g hg; simp; omega), (HB3.out.setCell K3.out.2.1 _).setCell K3.out.2.1 _⟩
  go_wp2_with fail
  obtain ⟨W, hW⟩ : ∃ W, ((w3.setCell ⟨w2.heap.size, 0, none⟩ (.int .i64 2)).setCell ⟨w2.heap.size, 1, none⟩ (.int .i64 2)) = W := ⟨_, rfl⟩
  have hz : W.heap.size = w3.heap.size := by rw [← hW]; simp
  have HN : Hid (w.heap.size ≤ w2.heap.size ∧ w1.heap.size ≠ w2.heap.size ∧ w2.heap.size < w3.heap.size) := ⟨K3.out.2.1, hne, m3⟩
  rw [hW] at Z3 ⊢
  clear hW l3 k3 f3 m3 n3 o3 X3 Y3 K3 HB3 hne
  refine (same_true (N := 0) (M := 0) (l := [(3, nT)]) ((Z3.out.2.2.1.below ((Below.refl _ _).alloc (Nat.le_refl _) _)).acts) ((ActRow.lit' W 0 _ w3.heap.size 1 _ hz (Nat.zero_le _) rfl rfl (by simp) (by simp)).acts) (by simp)).mono ?_
  rintro _ _ ⟨rfl, m2, rfl⟩
  obtain ⟨lz, kz, fz⟩ := Z3.out.1
  obtain ⟨ly, ky, fy⟩ := Z3.out.2.1
  clear hz
  go_wp2_with fail
  refine (c4 _ (HV.out.below (below_drewN (Z3.out.2.2.2.alloc Z3.out.2.2.2.size _) _))).mono ?_
  rintro _ w4 ⟨v4, ev4, rfl, r4, e4, b4⟩
  obtain rfl := e4.nil
  have X4 : Hid (Box w4 w1.heap.size #[.bool true, .int .i64 1, .int .i64 1]) := ((Z3.out.2.1.alloc _).drewN _).below b4
  have Y4 : Hid (Box w4 w2.heap.size #[.int .i64 2, .int .i64 2]) := ((Z3.out.1.alloc _).drewN _).below b4
  have K4 : Hid (ActRow w4 0 v4 [(4, ⟨#[65, 69]⟩)] ∧ (∀ g, v4.ownBlock = some g → w2.heap.size < g) ∧ Below w.heap.size w w4) := ⟨r4.mono (Nat.zero_le _), fun g hg => by have := r4.ne hg; simp at this; omega, below_then (below_drewN (Z3.out.2.2.2.alloc Z3.out.2.2.2.size _) _) b4⟩
  clear c4 e4 b4 r4 lz kz fz ly ky fy Z3
  obtain ⟨l4, k4, f4⟩ := X4.out
  obtain ⟨m4, n4, o4⟩ := Y4.out
  have Z4 : Hid (Box ((w4.setCell ⟨w2.heap.size, 0, none⟩ (.int .i64 4)).setCell ⟨w2.heap.size, 1, none⟩ (.int .i64 2)) w2.heap.size #[.int .i64 4, .int .i64 2] ∧ ActRow ((w4.setCell ⟨w2.heap.size, 0, none⟩ (.int .i64 4)).setCell ⟨w2.heap.size, 1, none⟩ (.int .i64 2)) 0 v4 [(4, ⟨#[65, 69]⟩)] ∧ Below w.heap.size w ((w4.setCell ⟨w2.heap.size, 0, none⟩ (.int .i64 4)).setCell ⟨w2.heap.size, 1, none⟩ (.int .i64 2))) :=
    ⟨Y4.out.put2 _ _, (K4.out.1.set (fun g hg => by have := K4.out.2.1 g hg; simp; omega)).set (fun g hg => by have := K4.out.2.1 g hg; simp; omega), (K4.out.2.2.setCell HN.out.1 _).setCell HN.out.1 _⟩
  go_wp2_with fail
  obtain ⟨W, hW⟩ : ∃ W, ((w4.setCell ⟨w2.heap.size, 0, none⟩ (.int .i64 4)).setCell ⟨w2.heap.size, 1, none⟩ (.int .i64 2)) = W := ⟨_, rfl⟩
  have hz : W.heap.size = w4.heap.size := by rw [← hW]; simp
  rw [hW] at Z4 ⊢
  clear hW l4 k4 f4 m4 n4 o4 X4 Y4 K4
  refine (same_true (N := 0) (M := 0) (l := [(4, ⟨#[65, 69]⟩)]) ((Z4.out.2.1.below ((Below.refl _ _).alloc (Nat.le_refl _) _)).acts) ((ActRow.lit' W 0 _ w4.heap.size 1 _ hz (Nat.zero_le _) rfl rfl (by simp) (by simp)).acts) (by simp)).mono ?_
  rintro _ _ ⟨rfl, m5, rfl⟩
  go_wp2_with fail
  go_ret
  exact ⟨rfl, below_drewN (Z4.out.2.2.alloc Z4.out.2.2.size _) _⟩
end Go.Proofs.YtjmjimbhoncidaaDoor
