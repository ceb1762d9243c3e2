/-
  The program's standing, refused.
-/
import Derived.Test.YtoijhecphgdfnaaGreatDoorDcPe
namespace Go.Proofs.YtoijhecphgdfnaaGreatDoor
open Go.RowKit

set_option maxRecDepth 100000 in
set_option maxHeartbeats 4000000 in
theorem standing_lo (e : Bool) (a p st lf : Int) (w : World) (hV : PVc w) (ok : okB e a p = true) (s1 : st < 1) : Calls Tryz.prog 95 #[.agg #[.bool e, .int .i64 a, .int .i64 p], .agg #[.int .i64 st, .int .i64 lf]] w (StE 222 w) := by
  have c1 := fun x => refuse_ok e a p x ok
  have C2 : Hid (∀ x, PVc x → Calls Tryz.prog 88 #[.agg #[.bool e, .int .i64 a, .int .i64 p]] x fun r x' => r = .returned (.agg #[.bool (caB e a), .bool (aaB e p), .bool (earB e a p (caB e a))]) ∧ Below x.heap.size x x') := fun x hx => owedBy_any e a p x hx
  have HV : Hid (PVc w) := hV
  obtain ⟨q1, hq1⟩ : ∃ z, caB e a = z := ⟨_, rfl⟩
  obtain ⟨q2, hq2⟩ : ∃ z, aaB e p = z := ⟨_, rfl⟩
  obtain ⟨q3, hq3⟩ : ∃ z, earB e a p q1 = z := ⟨_, rfl⟩
  rw [hq1, hq2, hq3] at C2
  clear hq1 hq2 hq3 hV ok
  go_enter Tryz.func95, Tryz.ntmps95
  go_wp2_with fail
  refine (c1 _).mono ?_
  rintro _ w1 ⟨rfl, b1⟩
  have HB1 : Hid (Below w.heap.size w w1) := below_then (bl_alloc (bl_alloc (bl_alloc ((Below.refl _ _).alloc (Nat.le_refl _) _) _) _) _) b1
  have X0 : Hid (Box w1 w.heap.size #[.bool e, .int .i64 a, .int .i64 p]) := ((((Box.new' _ #[.bool e, .int .i64 a, .int .i64 p] 45 w.heap.size rfl).alloc _).alloc _).alloc _).below b1
  have X1 : Hid (Box w1 (w.heap.size + 1) #[.int .i64 st, .int .i64 lf]) := (((Box.new' _ #[.int .i64 st, .int .i64 lf] 89 (w.heap.size + 1) (by simp)).alloc _).alloc _).below b1
  have X2 : Hid (Box w1 (w.heap.size + 1 + 1) #[.bool false, .bool false, .bool false]) := ((Box.new' _ #[.bool false, .bool false, .bool false] 161 (w.heap.size + 1 + 1) (by simp)).alloc _).below b1
  have X3 : Hid (Box w1 (w.heap.size + 1 + 1 + 1) #[.nilFunc, .nilFunc, .nilFunc]) := (Box.new' _ #[.nilFunc, .nilFunc, .nilFunc] 170 (w.heap.size + 1 + 1 + 1) (by simp)).below b1
  obtain ⟨l0, k0, f0⟩ := X0.out
  clear b1 c1
  go_wp2_with fail
  refine (C2.out _ (HV.out.below HB1.out)).mono ?_
  rintro _ w2 ⟨rfl, b2⟩
  have HO5 : Hid (Below w.heap.size w (w2.alloc (.cells #[.bool q1, .bool q2, .bool q3] 161)) ∧ Box (w2.alloc (.cells #[.bool q1, .bool q2, .bool q3] 161)) (w.heap.size + 1) #[.int .i64 st, .int .i64 lf] ∧ Box (w2.alloc (.cells #[.bool q1, .bool q2, .bool q3] 161)) (w.heap.size + 1 + 1) #[.bool false, .bool false, .bool false] ∧ Box (w2.alloc (.cells #[.bool q1, .bool q2, .bool q3] 161)) (w.heap.size + 1 + 1 + 1) #[.nilFunc, .nilFunc, .nilFunc]) := ⟨bl_alloc (below_then HB1.out b2) _, (X1.out.below b2).alloc _, (X2.out.below b2).alloc _, (X3.out.below b2).alloc _⟩
  clear l0 k0 f0 X0 X1 X2 X3 HB1 b2 C2 HV
  obtain ⟨w5, hW⟩ : ∃ V, w2.alloc (.cells #[.bool q1, .bool q2, .bool q3] 161) = V := ⟨_, rfl⟩
  rw [hW] at HO5
  obtain ⟨l1, k1, f1⟩ := HO5.out.2.1
  have fl := pfault_any 0 222
  go_wp2_with fail
  refine (fl _).mono ?_
  rintro _ w6 ⟨rfl, hz, b6⟩
  have HZ : Hid (DFault w6 w5.heap.size 0 222 ∧ Below w.heap.size w w6 ∧ w.heap.size + 1 + 1 + 1 < w5.heap.size) := ⟨hz, below_then HO5.out.1 b6, HO5.out.2.2.2.lt⟩
  have Y2 : Hid (Box w6 (w.heap.size + 1 + 1) #[.bool false, .bool false, .bool false]) := HO5.out.2.2.1.below b6
  have Y3 : Hid (Box w6 (w.heap.size + 1 + 1 + 1) #[.nilFunc, .nilFunc, .nilFunc]) := HO5.out.2.2.2.below b6
  clear l1 k1 f1 hz b6 HO5 fl
  obtain ⟨lo, ko, fo⟩ := Y2.out
  obtain ⟨ls, ks, fs⟩ := Y3.out
  go_wp2_with fail
  refine bodyPost_ret (v := .tuple #[.agg #[.bool false, .bool false, .bool false], .agg #[.nilFunc, .nilFunc, .nilFunc], .iface 122 (.pointer (some ⟨w5.heap.size, 0, none⟩))]) ?_ rfl ⟨_, rfl, ?_, ?_⟩
  · simp [results, Tryz.results95, go_sem, ko, ks]
  · exact (fin33 HZ.out.2.1 HZ.out.1 (by omega) (by omega) (by have := HZ.out.2.2; omega) (by have := HZ.out.2.2; omega) _ _ _ _ _ _).1
  · exact (fin33 HZ.out.2.1 HZ.out.1 (by omega) (by omega) (by have := HZ.out.2.2; omega) (by have := HZ.out.2.2; omega) _ _ _ _ _ _).2
set_option maxRecDepth 100000 in
set_option maxHeartbeats 4000000 in
theorem standing_hi (e : Bool) (a p st lf : Int) (w : World) (hV : PVc w) (ok : okB e a p = true) (s1 : ¬ st < 1) (s6 : st > 6) : Calls Tryz.prog 95 #[.agg #[.bool e, .int .i64 a, .int .i64 p], .agg #[.int .i64 st, .int .i64 lf]] w (StE 222 w) := by
  have c1 := fun x => refuse_ok e a p x ok
  have C2 : Hid (∀ x, PVc x → Calls Tryz.prog 88 #[.agg #[.bool e, .int .i64 a, .int .i64 p]] x fun r x' => r = .returned (.agg #[.bool (caB e a), .bool (aaB e p), .bool (earB e a p (caB e a))]) ∧ Below x.heap.size x x') := fun x hx => owedBy_any e a p x hx
  have HV : Hid (PVc w) := hV
  obtain ⟨q1, hq1⟩ : ∃ z, caB e a = z := ⟨_, rfl⟩
  obtain ⟨q2, hq2⟩ : ∃ z, aaB e p = z := ⟨_, rfl⟩
  obtain ⟨q3, hq3⟩ : ∃ z, earB e a p q1 = z := ⟨_, rfl⟩
  rw [hq1, hq2, hq3] at C2
  clear hq1 hq2 hq3 hV ok
  go_enter Tryz.func95, Tryz.ntmps95
  go_wp2_with fail
  refine (c1 _).mono ?_
  rintro _ w1 ⟨rfl, b1⟩
  have HB1 : Hid (Below w.heap.size w w1) := below_then (bl_alloc (bl_alloc (bl_alloc ((Below.refl _ _).alloc (Nat.le_refl _) _) _) _) _) b1
  have X0 : Hid (Box w1 w.heap.size #[.bool e, .int .i64 a, .int .i64 p]) := ((((Box.new' _ #[.bool e, .int .i64 a, .int .i64 p] 45 w.heap.size rfl).alloc _).alloc _).alloc _).below b1
  have X1 : Hid (Box w1 (w.heap.size + 1) #[.int .i64 st, .int .i64 lf]) := (((Box.new' _ #[.int .i64 st, .int .i64 lf] 89 (w.heap.size + 1) (by simp)).alloc _).alloc _).below b1
  have X2 : Hid (Box w1 (w.heap.size + 1 + 1) #[.bool false, .bool false, .bool false]) := ((Box.new' _ #[.bool false, .bool false, .bool false] 161 (w.heap.size + 1 + 1) (by simp)).alloc _).below b1
  have X3 : Hid (Box w1 (w.heap.size + 1 + 1 + 1) #[.nilFunc, .nilFunc, .nilFunc]) := (Box.new' _ #[.nilFunc, .nilFunc, .nilFunc] 170 (w.heap.size + 1 + 1 + 1) (by simp)).below b1
  obtain ⟨l0, k0, f0⟩ := X0.out
  clear b1 c1
  go_wp2_with fail
  refine (C2.out _ (HV.out.below HB1.out)).mono ?_
  rintro _ w2 ⟨rfl, b2⟩
  have HO5 : Hid (Below w.heap.size w (w2.alloc (.cells #[.bool q1, .bool q2, .bool q3] 161)) ∧ Box (w2.alloc (.cells #[.bool q1, .bool q2, .bool q3] 161)) (w.heap.size + 1) #[.int .i64 st, .int .i64 lf] ∧ Box (w2.alloc (.cells #[.bool q1, .bool q2, .bool q3] 161)) (w.heap.size + 1 + 1) #[.bool false, .bool false, .bool false] ∧ Box (w2.alloc (.cells #[.bool q1, .bool q2, .bool q3] 161)) (w.heap.size + 1 + 1 + 1) #[.nilFunc, .nilFunc, .nilFunc]) := ⟨bl_alloc (below_then HB1.out b2) _, (X1.out.below b2).alloc _, (X2.out.below b2).alloc _, (X3.out.below b2).alloc _⟩
  clear l0 k0 f0 X0 X1 X2 X3 HB1 b2 C2 HV
  obtain ⟨w5, hW⟩ : ∃ V, w2.alloc (.cells #[.bool q1, .bool q2, .bool q3] 161) = V := ⟨_, rfl⟩
  rw [hW] at HO5
  obtain ⟨l1, k1, f1⟩ := HO5.out.2.1
  have fl := pfault_any 0 222
  go_wp2_with fail
  refine (fl _).mono ?_
  rintro _ w6 ⟨rfl, hz, b6⟩
  have HZ : Hid (DFault w6 w5.heap.size 0 222 ∧ Below w.heap.size w w6 ∧ w.heap.size + 1 + 1 + 1 < w5.heap.size) := ⟨hz, below_then HO5.out.1 b6, HO5.out.2.2.2.lt⟩
  have Y2 : Hid (Box w6 (w.heap.size + 1 + 1) #[.bool false, .bool false, .bool false]) := HO5.out.2.2.1.below b6
  have Y3 : Hid (Box w6 (w.heap.size + 1 + 1 + 1) #[.nilFunc, .nilFunc, .nilFunc]) := HO5.out.2.2.2.below b6
  clear l1 k1 f1 hz b6 HO5 fl
  obtain ⟨lo, ko, fo⟩ := Y2.out
  obtain ⟨ls, ks, fs⟩ := Y3.out
  go_wp2_with fail
  refine bodyPost_ret (v := .tuple #[.agg #[.bool false, .bool false, .bool false], .agg #[.nilFunc, .nilFunc, .nilFunc], .iface 122 (.pointer (some ⟨w5.heap.size, 0, none⟩))]) ?_ rfl ⟨_, rfl, ?_, ?_⟩
  · simp [results, Tryz.results95, go_sem, ko, ks]
  · exact (fin33 HZ.out.2.1 HZ.out.1 (by omega) (by omega) (by have := HZ.out.2.2; omega) (by have := HZ.out.2.2; omega) _ _ _ _ _ _).1
  · exact (fin33 HZ.out.2.1 HZ.out.1 (by omega) (by omega) (by have := HZ.out.2.2; omega) (by have := HZ.out.2.2; omega) _ _ _ _ _ _).2
set_option maxRecDepth 100000 in
set_option maxHeartbeats 4000000 in
theorem standing_lf (e : Bool) (a p st lf : Int) (w : World) (hV : PVc w) (ok : okB e a p = true) (s1 : ¬ st < 1) (s6 : ¬ st > 6) (lk : decide (0 ≤ lf ∧ lf ≤ 16) = false) : Calls Tryz.prog 95 #[.agg #[.bool e, .int .i64 a, .int .i64 p], .agg #[.int .i64 st, .int .i64 lf]] w (StE 222 w) := by
  have c1 := fun x => refuse_ok e a p x ok
  have C2 : Hid (∀ x, PVc x → Calls Tryz.prog 88 #[.agg #[.bool e, .int .i64 a, .int .i64 p]] x fun r x' => r = .returned (.agg #[.bool (caB e a), .bool (aaB e p), .bool (earB e a p (caB e a))]) ∧ Below x.heap.size x x') := fun x hx => owedBy_any e a p x hx
  have c3 := fun x => areTries_any lf x
  rw [lk] at c3
  clear lk
  have HV : Hid (PVc w) := hV
  obtain ⟨q1, hq1⟩ : ∃ z, caB e a = z := ⟨_, rfl⟩
  obtain ⟨q2, hq2⟩ : ∃ z, aaB e p = z := ⟨_, rfl⟩
  obtain ⟨q3, hq3⟩ : ∃ z, earB e a p q1 = z := ⟨_, rfl⟩
  rw [hq1, hq2, hq3] at C2
  clear hq1 hq2 hq3 hV ok
  go_enter Tryz.func95, Tryz.ntmps95
  go_wp2_with fail
  refine (c1 _).mono ?_
  rintro _ w1 ⟨rfl, b1⟩
  have HB1 : Hid (Below w.heap.size w w1) := below_then (bl_alloc (bl_alloc (bl_alloc ((Below.refl _ _).alloc (Nat.le_refl _) _) _) _) _) b1
  have X0 : Hid (Box w1 w.heap.size #[.bool e, .int .i64 a, .int .i64 p]) := ((((Box.new' _ #[.bool e, .int .i64 a, .int .i64 p] 45 w.heap.size rfl).alloc _).alloc _).alloc _).below b1
  have X1 : Hid (Box w1 (w.heap.size + 1) #[.int .i64 st, .int .i64 lf]) := (((Box.new' _ #[.int .i64 st, .int .i64 lf] 89 (w.heap.size + 1) (by simp)).alloc _).alloc _).below b1
  have X2 : Hid (Box w1 (w.heap.size + 1 + 1) #[.bool false, .bool false, .bool false]) := ((Box.new' _ #[.bool false, .bool false, .bool false] 161 (w.heap.size + 1 + 1) (by simp)).alloc _).below b1
  have X3 : Hid (Box w1 (w.heap.size + 1 + 1 + 1) #[.nilFunc, .nilFunc, .nilFunc]) := (Box.new' _ #[.nilFunc, .nilFunc, .nilFunc] 170 (w.heap.size + 1 + 1 + 1) (by simp)).below b1
  obtain ⟨l0, k0, f0⟩ := X0.out
  clear b1 c1
  go_wp2_with fail
  refine (C2.out _ (HV.out.below HB1.out)).mono ?_
  rintro _ w2 ⟨rfl, b2⟩
  have HO5 : Hid (Below w.heap.size w (w2.alloc (.cells #[.bool q1, .bool q2, .bool q3] 161)) ∧ Box (w2.alloc (.cells #[.bool q1, .bool q2, .bool q3] 161)) (w.heap.size + 1) #[.int .i64 st, .int .i64 lf] ∧ Box (w2.alloc (.cells #[.bool q1, .bool q2, .bool q3] 161)) (w.heap.size + 1 + 1) #[.bool false, .bool false, .bool false] ∧ Box (w2.alloc (.cells #[.bool q1, .bool q2, .bool q3] 161)) (w.heap.size + 1 + 1 + 1) #[.nilFunc, .nilFunc, .nilFunc]) := ⟨bl_alloc (below_then HB1.out b2) _, (X1.out.below b2).alloc _, (X2.out.below b2).alloc _, (X3.out.below b2).alloc _⟩
  clear l0 k0 f0 X0 X1 X2 X3 HB1 b2 C2 HV
  obtain ⟨w5, hW⟩ : ∃ V, w2.alloc (.cells #[.bool q1, .bool q2, .bool q3] 161) = V := ⟨_, rfl⟩
  rw [hW] at HO5
  obtain ⟨l1, k1, f1⟩ := HO5.out.2.1
  have fl := pfault_any 0 222
  go_wp2_with fail
  refine (c3 _).mono ?_
  rintro _ w3 ⟨rfl, hw3⟩
  have hw3' := hw3.symm
  subst hw3'
  clear hw3 c3
  go_wp2_with fail
  refine (fl _).mono ?_
  rintro _ w6 ⟨rfl, hz, b6⟩
  have HZ : Hid (DFault w6 w5.heap.size 0 222 ∧ Below w.heap.size w w6 ∧ w.heap.size + 1 + 1 + 1 < w5.heap.size) := ⟨hz, below_then HO5.out.1 b6, HO5.out.2.2.2.lt⟩
  have Y2 : Hid (Box w6 (w.heap.size + 1 + 1) #[.bool false, .bool false, .bool false]) := HO5.out.2.2.1.below b6
  have Y3 : Hid (Box w6 (w.heap.size + 1 + 1 + 1) #[.nilFunc, .nilFunc, .nilFunc]) := HO5.out.2.2.2.below b6
  clear l1 k1 f1 hz b6 HO5 fl
  obtain ⟨lo, ko, fo⟩ := Y2.out
  obtain ⟨ls, ks, fs⟩ := Y3.out
  go_wp2_with fail
  refine bodyPost_ret (v := .tuple #[.agg #[.bool false, .bool false, .bool false], .agg #[.nilFunc, .nilFunc, .nilFunc], .iface 122 (.pointer (some ⟨w5.heap.size, 0, none⟩))]) ?_ rfl ⟨_, rfl, ?_, ?_⟩
  · simp [results, Tryz.results95, go_sem, ko, ks]
  · exact (fin33 HZ.out.2.1 HZ.out.1 (by omega) (by omega) (by have := HZ.out.2.2; omega) (by have := HZ.out.2.2; omega) _ _ _ _ _ _).1
  · exact (fin33 HZ.out.2.1 HZ.out.1 (by omega) (by omega) (by have := HZ.out.2.2; omega) (by have := HZ.out.2.2; omega) _ _ _ _ _ _).2
set_option maxRecDepth 100000 in
set_option maxHeartbeats 4000000 in
theorem standing_no (e : Bool) (a p st lf : Int) (w : World) (ok : okB e a p = false) : Calls Tryz.prog 95 #[.agg #[.bool e, .int .i64 a, .int .i64 p], .agg #[.int .i64 st, .int .i64 lf]] w (StE 220 w) := by
  have c1 := fun x => refuse_no e a p x ok
  clear ok
  go_enter Tryz.func95, Tryz.ntmps95
  go_wp2_with fail
  refine (c1 _).mono ?_
  rintro _ w1 ⟨z, rfl, hz, b1⟩
  have Y2 : Hid (Box w1 (w.heap.size + 1 + 1) #[.bool false, .bool false, .bool false]) := ((Box.new' _ #[.bool false, .bool false, .bool false] 161 (w.heap.size + 1 + 1) (by simp)).alloc _).below b1
  have Y3 : Hid (Box w1 (w.heap.size + 1 + 1 + 1) #[.nilFunc, .nilFunc, .nilFunc]) := (Box.new' _ #[.nilFunc, .nilFunc, .nilFunc] 170 (w.heap.size + 1 + 1 + 1) (by simp)).below b1
  have HZ : Hid (DFault w1 z 0 220 ∧ Below w.heap.size w w1 ∧ w.heap.size + 1 + 1 ≠ z ∧ w.heap.size + 1 + 1 + 1 ≠ z) := ⟨hz, below_then (bl_alloc (bl_alloc (bl_alloc ((Below.refl _ _).alloc (Nat.le_refl _) _) _) _) _) b1, fun g => by have := Y2.out.cell 0; rw [g, hz.1] at this; simp at this, fun g => by have := Y3.out.cell 0; rw [g, hz.1] at this; simp at this⟩
  clear hz b1 c1
  obtain ⟨lo, ko, fo⟩ := Y2.out
  obtain ⟨ls, ks, fs⟩ := Y3.out
  go_wp2_with fail
  refine bodyPost_ret (v := .tuple #[.agg #[.bool false, .bool false, .bool false], .agg #[.nilFunc, .nilFunc, .nilFunc], .iface 122 (.pointer (some ⟨z, 0, none⟩))]) ?_ rfl ⟨_, rfl, ?_, ?_⟩
  · simp [results, Tryz.results95, go_sem, ko, ks]
  · exact (fin33 HZ.out.2.1 HZ.out.1 (by omega) (by omega) HZ.out.2.2.1 HZ.out.2.2.2 _ _ _ _ _ _).1
  · exact (fin33 HZ.out.2.1 HZ.out.1 (by omega) (by omega) HZ.out.2.2.1 HZ.out.2.2.2 _ _ _ _ _ _).2
end Go.Proofs.YtoijhecphgdfnaaGreatDoor
