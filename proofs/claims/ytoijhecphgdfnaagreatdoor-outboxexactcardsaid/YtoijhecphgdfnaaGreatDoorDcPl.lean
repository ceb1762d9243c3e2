import Derived.Test.YtoijhecphgdfnaaGreatDoorDcPe
import Derived.Test.YtoijhecphgdfnaaGreatDoorDcPi
/-
  The program's standing, refused.
-/
namespace Go.Proofs.YtoijhecphgdfnaaGreatDoor
open Go.RowKit

set_option maxRecDepth 100000 in
set_option maxHeartbeats 4000000 in
theorem standing_lo (e : Bool) (a p st lf : Int) (w : World) (hV : PVc w) (ok : okB e a p = true) (s1 : st < 1) : Calls Tryz.prog 95 #[.agg #[.bool e, .int .i64 a, .int .i64 p], .agg #[.int .i64 st, .int .i64 lf]] w (StE 222 w) := by
  have c1 := fun x => refuse_ok e a p x ok
  have C2 : Hid (∀ x, PVc x → Calls Tryz.prog 88 #[.agg #[.bool e, .int .i64 a, .int .i64 p]] x fun r x' => r = .returned (.agg #[.bool (caB e a), .bool (aaB e p), .bool (earB e a p (caB e a))]) ∧ Below x.heap.size x x') := fun x hx => owedBy_any e a p x hx
  have HV : Hid (PVc w) := hV
  obtain ⟨q1, hq1⟩ : ∃ z, caB e a = z := ⟨_, rfl⟩
  obtain ⟨q2, hq2⟩ : ∃ z, aaB e p = z := ⟨_, rfl⟩
  obtain ⟨q3, hq3⟩ : ∃ z, earB e a p q1 = z := ⟨_, rfl⟩
  rw [hq1, hq2, hq3] at C2
  clear hq1 hq2 hq3 hV ok
  go_enter Tryz.func95, Tryz.ntmps95
  go_wp2_with fail
  refine (c1 _).mono ?_
  rintro _ w1 ⟨rfl, b1⟩
  have HB1 : Hid (Below w.heap.size w w1) := below_then (bl_alloc (bl_alloc (bl_alloc ((Below.refl _ _).alloc (Nat.le_refl _) _) _) _) _) b1
  have X0 : Hid (Box w1 w.heap.size #[.bool e, .int .i64 a, .int .i64 p]) := ((((Box.new' _ #[.bool e, .int .i64 a, .int .i64 p] 45 w.heap.size rfl).alloc _).alloc _).alloc _).below b1
  have X1 : Hid (Box w1 (w.heap.size + 1) #[.int .i64 st, .int .i64 lf]) := (((Box.new' _ #[.int .i64 st, .int .i64 lf] 89 (w.heap.size + 1) (by simp)).alloc _).alloc _).below b1
  have X2 : Hid (Box w1 (w.heap.size + 1 + 1) #[.bool false, .bool false, .bool false]) := ((Box.new' _ #[.bool false, .bool false, .bool false] 161 (w.heap.size + 1 + 1) (by simp)).alloc _).below b1
  have X3 : Hid (Box w1 (w.heap.size + 1 + 1 + 1) #[.nilFunc, .nilFunc, .nilFunc]) := (Box.new' _ #[.nilFunc, .nilFunc, .nilFunc] 170 (w.heap.size + 1 + 1 + 1) (by simp)).below b1
  obtain ⟨l0, k0, f0⟩ := X0.out
  clear b1 c1
  go_wp2_with fail
  refine (C2.out _ (HV.out.below HB1.out)).mono ?_
  rintro _ w2 ⟨rfl, b2⟩
  have HO5 : Hid (Below w.heap.size w (w2.alloc (.cells #[.bool q1, .bool q2, .bool q3] 161)) ∧ Box (w2.alloc (.cells #[.bool q1, .bool q2, .bool q3] 161)) (w.heap.size + 1) #[.int .i64 st, .int .i64 lf] ∧ Box (w2.alloc (.cells #[.bool q1, .bool q2, .bool q3] 161)) (w.heap.size + 1 + 1) #[.bool false, .bool false, .bool false] ∧ Box (w2.alloc (.cells #[.bool q1, .bool q2, .bool q3] 161)) (w.heap.size + 1 + 1 + 1) #[.nilFunc, .nilFunc, .nilFunc]) := ⟨bl_alloc (below_then HB1.out b2) _, (X1.out.below b2).alloc _, (X2.out.below b2).alloc _, (X3.out.below b2).alloc _⟩
  clear l0 k0 f0 X0 X1 X2 X3 HB1 b2 C2 HV
  obtain ⟨w5, hW⟩ : ∃ V, w2.alloc (.cells #[.bool q1, .bool q2, .bool q3] 161) = V := ⟨_, rfl⟩
  rw [hW] at HO5
  obtain ⟨l1, k1, f1⟩ := HO5.out.2.1
  have fl := pfault_any 0 222
  go_wp2_with fail
  refine (fl _).mono ?_
  rintro _ w6 ⟨rfl, hz, b6⟩
  have HZ : Hid (DFault w6 w5.heap.size 0 222 ∧ Below w.heap.size w w6 ∧ w.heap.size + 1 + 1 + 1 < w5.heap.size) := ⟨hz, below_then HO5.out.1 b6, HO5.out.2.2.2.lt⟩
  have Y2 : Hid (Box w6 (w.heap.size + 1 + 1) #[.bool false, .bool false, .bool false]) := HO5.out.2.2.1.below b6
  have Y3 : Hid (Box w6 (w.heap.size + 1 + 1 + 1) #[.nilFunc, .nilFunc, .nilFunc]) := HO5.out.2.2.2.below b6
  clear l1 k1 f1 hz b6 HO5 fl
  obtain ⟨lo, ko, fo⟩ := Y2.out
  obtain ⟨ls, ks, fs⟩ := Y3.out
  go_wp2_with fail
  refine bodyPost_ret (v := .tuple #[.agg #[.bool false, .bool false, .bool false], .agg #[.nilFunc, .nilFunc, .nilFunc], .iface 122 (.pointer (some ⟨w5.heap.size, 0, none⟩))]) ?_ rfl ⟨_, rfl, ?_, ?_⟩
  · simp [results, Tryz.results95, go_sem, ko, ks]
  · exact (fin33 HZ.out.2.1 HZ.out.1 (by omega) (by omega) (by have := HZ.out.2.2; omega) (by have := HZ.out.2.2; omega) _ _ _ _ _ _).1
  · exact (fin33 HZ.out.2.1 HZ.out.1 (by omega) (by omega) (by have := HZ.out.2.2; omega) (by have := HZ.out.2.2; omega) _ _ _ _ _ _).2
set_option maxRecDepth 100000 in
set_option maxHeartbeats 4000000 in
theorem standing_hi (e : Bool) (a p st lf : Int) (w : World) (hV : PVc w) (ok : okB e a p = true) (s1 : ¬ st < 1) (s6 : st > 6) : Calls Tryz.prog 95 #[.agg #[.bool e, .int .i64 a, .int .i64 p], .agg #[.int .i64 st, .int .i64 lf]] w (StE 222 w) := by
  have c1 := fun x => refuse_ok e a p x ok
  have C2 : Hid (∀ x, PVc x → Calls Tryz.prog 88 #[.agg #[.bool e, .int .i64 a, .int .i64 p]] x fun r x' => r = .returned (.agg #[.bool (caB e a), .bool (aaB e p), .bool (earB e a p (caB e a))]) ∧ Below x.heap.size x x') := fun x hx => owedBy_any e a p x hx
  have HV : Hid (PVc w) := hV
  obtain ⟨q1, hq1⟩ : ∃ z, caB e a = z := ⟨_, rfl⟩
  obtain ⟨q2, hq2⟩ : ∃ z, aaB e p = z := ⟨_, rfl⟩
  obtain ⟨q3, hq3⟩ : ∃ z, earB e a p q1 = z := ⟨_, rfl⟩
  rw [hq1, hq2, hq3] at C2
  clear hq1 hq2 hq3 hV ok
  go_enter Tryz.func95, Tryz.ntmps95
  go_wp2_with fail
  refine (c1 _).mono ?_
  rintro _ w1 ⟨rfl, b1⟩
  have HB1 : Hid (Below w.heap.size w w1) := below_then (bl_alloc (bl_alloc (bl_alloc ((Below.refl _ _).alloc (Nat.le_refl _) _) _) _) _) b1
  have X0 : Hid (Box w1 w.heap.size #[.bool e, .int .i64 a, .int .i64 p]) := ((((Box.new' _ #[.bool e, .int .i64 a, .int .i64 p] 45 w.heap.size rfl).alloc _).alloc _).alloc _).below b1
  have X1 : Hid (Box w1 (w.heap.size + 1) #[.int .i64 st, .int .i64 lf]) := (((Box.new' _ #[.int .i64 st, .int .i64 lf] 89 (w.heap.size + 1) (by simp)).alloc _).alloc _).below b1
  have X2 : Hid (Box w1 (w.heap.size + 1 + 1) #[.bool false, .bool false, .bool false]) := ((Box.new' _ #[.bool false, .bool false, .bool false] 161 (w.heap.size + 1 + 1) (by simp)).alloc _).below b1
  have X3 : Hid (Box w1 (w.heap.size + 1 + 1 + 1) #[.nilFunc, .nilFunc, .nilFunc]) := (Box.new' _ #[.nilFunc, .nilFunc, .nilFunc] 170 (w.heap.size + 1 + 1 + 1) (by simp)).below b1
  obtain ⟨l0, k0, f0⟩ := X0.out
  clear b1 c1
  go_wp2_with fail
  refine (C2.out _ (HV.out.below HB1.out)).mono ?_
  rintro _ w2 ⟨rfl, b2⟩
  have HO5 : Hid (Below w.heap.size w (w2.alloc (.cells #[.bool q1, .bool q2, .bool q3] 161)) ∧ Box (w2.alloc (.cells #[.bool q1, .bool q2, .bool q3] 161)) (w.heap.size + 1) #[.int .i64 st, .int .i64 lf] ∧ Box (w2.alloc (.cells #[.bool q1, .bool q2, .bool q3] 161)) (w.heap.size + 1 + 1) #[.bool false, .bool false, .bool false] ∧ Box (w2.alloc (.cells #[.bool q1, .bool q2, .bool q3] 161)) (w.heap.size + 1 + 1 + 1) #[.nilFunc, .nilFunc, .nilFunc]) := ⟨bl_alloc (below_then HB1.out b2) _, (X1.out.below b2).alloc _, (X2.out.below b2).alloc _, (X3.out.below b2).alloc _⟩
  clear l0 k0 f0 X0 X1 X2 X3 HB1 b2 C2 HV
  obtain ⟨w5, hW⟩ : ∃ V, w2.alloc (.cells #[.bool q1, .bool q2, .bool q3] 161) = V := ⟨_, rfl⟩
  rw [hW] at HO5
  obtain ⟨l1, k1, f1⟩ := HO5.out.2.1
  have fl := pfault_any 0 222
  go_wp2_with fail
  refine (fl _).mono ?_
  rintro _ w6 ⟨rfl, hz, b6⟩
  have HZ : Hid (DFault w6 w5.heap.size 0 222 ∧ Below w.heap.size w w6 ∧ w.heap.size + 1 + 1 + 1 < w5.heap.size) := ⟨hz, below_then HO5.out.1 b6, HO5.out.2.2.2.lt⟩
  have Y2 : Hid (Box w6 (w.heap.size + 1 + 1) #[.bool false, .bool false, .bool false]) := HO5.out.2.2.1.below b6
  have Y3 : Hid (Box w6 (w.heap.size + 1 + 1 + 1) #[.nilFunc, .nilFunc, .nilFunc]) := HO5.out.2.2.2.below b6
  clear l1 k1 f1 hz b6 HO5 fl
  obtain ⟨lo, ko, fo⟩ := Y2.out
  obtain ⟨ls, ks, fs⟩ := Y3.out
  go_wp2_with fail
  refine bodyPost_ret (v := .tuple #[.agg #[.bool false, .bool false, .bool false], .agg #[.nilFunc, .nilFunc, .nilFunc], .iface 122 (.pointer (some ⟨w5.heap.size, 0, none⟩))]) ?_ rfl ⟨_, rfl, ?_, ?_⟩
  · simp [results, Tryz.results95, go_sem, ko, ks]
  · exact (fin33 HZ.out.2.1 HZ.out.1 (by omega) (by omega) (by have := HZ.out.2.2; omega) (by have := HZ.out.2.2; omega) _ _ _ _ _ _).1
  · exact (fin33 HZ.out.2.1 HZ.out.1 (by omega) (by omega) (by have := HZ.out.2.2; omega) (by have := HZ.out.2.2; omega) _ _ _ _ _ _).2
set_option maxRecDepth 100000 in
set_option maxHeartbeats 4000000 in
theorem standing_lf (e : Bool) (a p st lf : Int) (w : World) (hV : PVc w) (ok : okB e a p = true) (s1 : ¬ st < 1) (s6 : ¬ st > 6) (lk : decide (0 ≤ lf ∧ lf ≤ 16) = false) : Calls Tryz.prog 95 #[.agg #[.bool e, .int .i64 a, .int .i64 p], .agg #[.int .i64 st, .int .i64 lf]] w (StE 222 w) := by
  have c1 := fun x => refuse_ok e a p x ok
  have C2 : Hid (∀ x, PVc x → Calls Tryz.prog 88 #[.agg #[.bool e, .int .i64 a, .int .i64 p]] x fun r x' => r = .returned (.agg #[.bool (caB e a), .bool (aaB e p), .bool (earB e a p (caB e a))]) ∧ Below x.heap.size x x') := fun x hx => owedBy_any e a p x hx
  have c3 := fun x => areTries_any lf x
  rw [lk] at c3
  clear lk
  have HV : Hid (PVc w) := hV
  obtain ⟨q1, hq1⟩ : ∃ z, caB e a = z := ⟨_, rfl⟩
  obtain ⟨q2, hq2⟩ : ∃ z, aaB e p = z := ⟨_, rfl⟩
  obtain ⟨q3, hq3⟩ : ∃ z, earB e a p q1 = z := ⟨_, rfl⟩
  rw [hq1, hq2, hq3] at C2
  clear hq1 hq2 hq3 hV ok
  go_enter Tryz.func95, Tryz.ntmps95
  go_wp2_with fail
  refine (c1 _).mono ?_
  rintro _ w1 ⟨rfl, b1⟩
  have HB1 : Hid (Below w.heap.size w w1) := below_then (bl_alloc (bl_alloc (bl_alloc ((Below.refl _ _).alloc (Nat.le_refl _) _) _) _) _) b1
  have X0 : Hid (Box w1 w.heap.size #[.bool e, .int .i64 a, .int .i64 p]) := ((((Box.new' _ #[.bool e, .int .i64 a, .int .i64 p] 45 w.heap.size rfl).alloc _).alloc _).alloc _).below b1
  have X1 : Hid (Box w1 (w.heap.size + 1) #[.int .i64 st, .int .i64 lf]) := (((Box.new' _ #[.int .i64 st, .int .i64 lf] 89 (w.heap.size + 1) (by simp)).alloc _).alloc _).below b1
  have X2 : Hid (Box w1 (w.heap.size + 1 + 1) #[.bool false, .bool false, .bool false]) := ((Box.new' _ #[.bool false, .bool false, .bool false] 161 (w.heap.size + 1 + 1) (by simp)).alloc _).below b1
  have X3 : Hid (Box w1 (w.heap.size + 1 + 1 + 1) #[.nilFunc, .nilFunc, .nilFunc]) := (Box.new' _ #[.nilFunc, .nilFunc, .nilFunc] 170 (w.heap.size + 1 + 1 + 1) (by simp)).below b1
  obtain ⟨l0, k0, f0⟩ := X0.out
  clear b1 c1
  go_wp2_with fail
  refine (C2.out _ (HV.out.below HB1.out)).mono ?_
  rintro _ w2 ⟨rfl, b2⟩
  have HO5 : Hid (Below w.heap.size w (w2.alloc (.cells #[.bool q1, .bool q2, .bool q3] 161)) ∧ Box (w2.alloc (.cells #[.bool q1, .bool q2, .bool q3] 161)) (w.heap.size + 1) #[.int .i64 st, .int .i64 lf] ∧ Box (w2.alloc (.cells #[.bool q1, .bool q2, .bool q3] 161)) (w.heap.size + 1 + 1) #[.bool false, .bool false, .bool false] ∧ Box (w2.alloc (.cells #[.bool q1, .bool q2, .bool q3] 161)) (w.heap.size + 1 + 1 + 1) #[.nilFunc, .nilFunc, .nilFunc]) := ⟨bl_alloc (below_then HB1.out b2) _, (X1.out.below b2).alloc _, (X2.out.below b2).alloc _, (X3.out.below b2).alloc _⟩
  clear l0 k0 f0 X0 X1 X2 X3 HB1 b2 C2 HV
  obtain ⟨w5, hW⟩ : ∃ V, w2.alloc (.cells #[.bool q1, .bool q2, .bool q3] 161) = V := ⟨_, rfl⟩
  rw [hW] at HO5
  obtain ⟨l1, k1, f1⟩ := HO5.out.2.1
  have fl := pfault_any 0 222
  go_wp2_with fail
  refine (c3 _).mono ?_
  rintro _ w3 ⟨rfl, hw3⟩
  have hw3' := hw3.symm
  subst hw3'
  clear hw3 c3
  go_wp2_with fail
  refine (fl _).mono ?_
  rintro _ w6 ⟨rfl, hz, b6⟩
  have HZ : Hid (DFault w6 w5.heap.size 0 222 ∧ Below w.heap.size w w6 ∧ w.heap.size + 1 + 1 + 1 < w5.heap.size) := ⟨hz, below_then HO5.out.1 b6, HO5.out.2.2.2.lt⟩
  have Y2 : Hid (Box w6 (w.heap.size + 1 + 1) #[.bool false, .bool false, .bool false]) := HO5.out.2.2.1.below b6
  have Y3 : Hid (Box w6 (w.heap.size + 1 + 1 + 1) #[.nilFunc, .nilFunc, .nilFunc]) := HO5.out.2.2.2.below b6
  clear l1 k1 f1 hz b6 HO5 fl
  obtain ⟨lo, ko, fo⟩ := Y2.out
  obtain ⟨ls, ks, fs⟩ := Y3.out
  go_wp2_with fail
  refine bodyPost_ret (v := .tuple #[.agg #[.bool false, .bool false, .bool false], .agg #[.nilFunc, .nilFunc, .nilFunc], .iface 122 (.pointer (some ⟨w5.heap.size, 0, none⟩))]) ?_ rfl ⟨_, rfl, ?_, ?_⟩
  · simp [results, Tryz.results95, go_sem, ko, ks]
  · exact (fin33 HZ.out.2.1 HZ.out.1 (by omega) (by omega) (by have := HZ.out.2.2; omega) (by have := HZ.out.2.2; omega) _ _ _ _ _ _).1
  · exact (fin33 HZ.out.2.1 HZ.out.1 (by omega) (by omega) (by have := HZ.out.2.2; omega) (by have := HZ.out.2.2; omega) _ _ _ _ _ _).2
set_option maxRecDepth 100000 in
set_option maxHeartbeats 4000000 in
theorem standing_no (e : Bool) (a p st lf : Int) (w : World) (ok : okB e a p = false) : Calls Tryz.prog 95 #[.agg #[.bool e, .int .i64 a, .int .i64 p], .agg #[.int .i64 st, .int .i64 lf]] w (StE 220 w) := by
  have c1 := fun x => refuse_no e a p x ok
  clear ok
  go_enter Tryz.func95, Tryz.ntmps95
  go_wp2_with fail
  refine (c1 _).mono ?_
  rintro _ w1 ⟨z, rfl, hz, b1⟩
  have Y2 : Hid (Box w1 (w.heap.size + 1 + 1) #[.bool false, .bool false, .bool false]) := ((Box.new' _ #[.bool false, .bool false, .bool false] 161 (w.heap.size + 1 + 1) (by simp)).alloc _).below b1
  have Y3 : Hid (Box w1 (w.heap.size + 1 + 1 + 1) #[.nilFunc, .nilFunc, .nilFunc]) := (Box.new' _ #[.nilFunc, .nilFunc, .nilFunc] 170 (w.heap.size + 1 + 1 + 1) (by simp)).below b1
  have HZ : Hid (DFault w1 z 0 220 ∧ Below w.heap.size w w1 ∧ w.heap.size + 1 + 1 ≠ z ∧ w.heap.size + 1 + 1 + 1 ≠ z) := ⟨hz, below_then (bl_alloc (bl_alloc (bl_alloc ((Below.refl _ _).alloc (Nat.le_refl _) _) _) _) _) b1, fun g => by have := Y2.out.cell 0; rw [g, hz.1] at this; simp at this, fun g => by have := Y3.out.cell 0; rw [g, hz.1] at this; simp at this⟩
  clear hz b1 c1
  obtain ⟨lo, ko, fo⟩ := Y2.out
  obtain ⟨ls, ks, fs⟩ := Y3.out
  go_wp2_with fail
  refine bodyPost_ret (v := .tuple #[.agg #[.bool false, .bool false, .bool false], .agg #[.nilFunc, .nilFunc, .nilFunc], .iface 122 (.pointer (some ⟨z, 0, none⟩))]) ?_ rfl ⟨_, rfl, ?_, ?_⟩
  · simp [results, Tryz.results95, go_sem, ko, ks]
  · exact (fin33 HZ.out.2.1 HZ.out.1 (by omega) (by omega) HZ.out.2.2.1 HZ.out.2.2.2 _ _ _ _ _ _).1
  · exact (fin33 HZ.out.2.1 HZ.out.1 (by omega) (by omega) HZ.out.2.2.1 HZ.out.2.2.2 _ _ _ _ _ _).2
end Go.Proofs.YtoijhecphgdfnaaGreatDoor

/-
  The program's Due, Heard.
-/
namespace Go.Proofs.YtoijhecphgdfnaaGreatDoor
open Go.RowKit

set_option maxRecDepth 100000 in
set_option maxHeartbeats 2000000 in
theorem Due_e (e : Bool) (a p : Int) (st lf : Int) (cd : Int) (w : World) (hs : ∀ x, Below w.heap.size w x → Calls Tryz.prog 95 #[.agg #[.bool e, .int .i64 a, .int .i64 p], .agg #[.int .i64 st, .int .i64 lf]] x (StE cd x)) : Calls Tryz.prog 66 #[.agg #[.bool e, .int .i64 a, .int .i64 p], .agg #[.int .i64 st, .int .i64 lf]] w (fun r w' => ∃ z, r = .returned (.tuple #[.agg #[.int .i64 0, .int .i64 0], .slice none 0 0, .iface 122 (.pointer (some ⟨z, 0, none⟩))]) ∧ DFault w' z 0 cd ∧ Below w.heap.size w w') := by
  have HS : Hid (∀ x, Below w.heap.size w x → Calls Tryz.prog 95 #[.agg #[.bool e, .int .i64 a, .int .i64 p], .agg #[.int .i64 st, .int .i64 lf]] x (StE cd x)) := hs
  clear hs
  go_enter Tryz.func66, Tryz.ntmps66
  go_wp2_with fail
  refine (HS.out _ (bl_alloc (bl_alloc ((Below.refl _ _).alloc (Nat.le_refl _) _) _) _)).mono ?_
  rintro _ w1 ⟨z, rfl, hz, b1⟩
  have HB1 : Hid (Below w.heap.size w w1) := below_then (bl_alloc (bl_alloc ((Below.refl _ _).alloc (Nat.le_refl _) _) _) _) b1
  have X1_0 : Hid (Box w1 (w.heap.size) #[.bool e, .int .i64 a, .int .i64 p]) := (((Box.new' _ #[.bool e, .int .i64 a, .int .i64 p] 45 (w.heap.size) (by simp)).alloc _).alloc _).below b1
  have X1_1 : Hid (Box w1 (w.heap.size + 1) #[.int .i64 st, .int .i64 lf]) := ((Box.new' _ #[.int .i64 st, .int .i64 lf] 89 (w.heap.size + 1) (by simp)).alloc _).below b1
  have X1_2 : Hid (Box w1 (w.heap.size + 1 + 1) #[.int .i64 0, .int .i64 0]) := (Box.new' _ #[.int .i64 0, .int .i64 0] 89 (w.heap.size + 1 + 1) (by simp)).below b1
  obtain ⟨l1_0, k1_0, f1_0⟩ := X1_0.out
  obtain ⟨l1_1, k1_1, f1_1⟩ := X1_1.out
  obtain ⟨l1_2, k1_2, f1_2⟩ := X1_2.out
  have HZ : Hid (DFault w1 z 0 cd) := hz
  clear b1 hz
  go_wp2_with fail
  refine bodyPost_ret (v := .tuple #[.agg #[.int .i64 0, .int .i64 0], .slice none 0 0, .iface 122 (.pointer (some ⟨z, 0, none⟩))]) ?_ rfl ⟨z, rfl, ?_, ?_⟩
  · simp [results, Tryz.results66, go_sem, k1_2, l1_2, l1_1]
  · exact ((dff2 HB1.out HZ.out (by omega) (box_ne X1_2.out HZ.out (fun s => by simp)) _ _).1.below (bl_alloc ((Below.refl _ _).alloc (Nat.le_refl _) _) _))
  · exact bl_alloc (bl_alloc (dff2 HB1.out HZ.out (by omega) (box_ne X1_2.out HZ.out (fun s => by simp)) _ _).2 _) _
set_option maxRecDepth 100000 in
set_option maxHeartbeats 2000000 in
theorem Heard_e (e : Bool) (a p : Int) (st lf : Int) (s : ByteArray) (n : Bool) (cd : Int) (w : World) (hs : ∀ x, Below w.heap.size w x → Calls Tryz.prog 95 #[.agg #[.bool e, .int .i64 a, .int .i64 p], .agg #[.int .i64 st, .int .i64 lf]] x (StE cd x)) : Calls Tryz.prog 64 #[.agg #[.bool e, .int .i64 a, .int .i64 p], .agg #[.int .i64 st, .int .i64 lf], .string s, .bool n] w (fun r w' => ∃ z, r = .returned (.tuple #[.agg #[.int .i64 0, .int .i64 0], .slice none 0 0, .iface 122 (.pointer (some ⟨z, 0, none⟩))]) ∧ DFault w' z 0 cd ∧ Below w.heap.size w w') := by
  have HS : Hid (∀ x, Below w.heap.size w x → Calls Tryz.prog 95 #[.agg #[.bool e, .int .i64 a, .int .i64 p], .agg #[.int .i64 st, .int .i64 lf]] x (StE cd x)) := hs
  clear hs
  go_enter Tryz.func64, Tryz.ntmps64
  go_wp2_with fail
  refine (HS.out _ (bl_alloc (bl_alloc ((Below.refl _ _).alloc (Nat.le_refl _) _) _) _)).mono ?_
  rintro _ w1 ⟨z, rfl, hz, b1⟩
  have HB1 : Hid (Below w.heap.size w w1) := below_then (bl_alloc (bl_alloc ((Below.refl _ _).alloc (Nat.le_refl _) _) _) _) b1
  have X1_0 : Hid (Box w1 (w.heap.size) #[.bool e, .int .i64 a, .int .i64 p]) := (((Box.new' _ #[.bool e, .int .i64 a, .int .i64 p] 45 (w.heap.size) (by simp)).alloc _).alloc _).below b1
  have X1_1 : Hid (Box w1 (w.heap.size + 1) #[.int .i64 st, .int .i64 lf]) := ((Box.new' _ #[.int .i64 st, .int .i64 lf] 89 (w.heap.size + 1) (by simp)).alloc _).below b1
  have X1_2 : Hid (Box w1 (w.heap.size + 1 + 1) #[.int .i64 0, .int .i64 0]) := (Box.new' _ #[.int .i64 0, .int .i64 0] 89 (w.heap.size + 1 + 1) (by simp)).below b1
  obtain ⟨l1_0, k1_0, f1_0⟩ := X1_0.out
  obtain ⟨l1_1, k1_1, f1_1⟩ := X1_1.out
  obtain ⟨l1_2, k1_2, f1_2⟩ := X1_2.out
  have HZ : Hid (DFault w1 z 0 cd) := hz
  clear b1 hz
  go_wp2_with fail
  refine bodyPost_ret (v := .tuple #[.agg #[.int .i64 0, .int .i64 0], .slice none 0 0, .iface 122 (.pointer (some ⟨z, 0, none⟩))]) ?_ rfl ⟨z, rfl, ?_, ?_⟩
  · simp [results, Tryz.results64, go_sem, k1_2, l1_2, l1_1]
  · exact ((dff2 HB1.out HZ.out (by omega) (box_ne X1_2.out HZ.out (fun s => by simp)) _ _).1.below (bl_alloc ((Below.refl _ _).alloc (Nat.le_refl _) _) _))
  · exact bl_alloc (bl_alloc (dff2 HB1.out HZ.out (by omega) (box_ne X1_2.out HZ.out (fun s => by simp)) _ _).2 _) _
set_option maxRecDepth 100000 in
set_option maxHeartbeats 2000000 in
theorem Due_ok (e : Bool) (a p : Int) (st lf : Int) (q1 q2 q3 : Bool) (f h d : FuncId) (st' lf' : Int) (l : ActL) (w : World) (hs : ∀ x, Below w.heap.size w x → Calls Tryz.prog 95 #[.agg #[.bool e, .int .i64 a, .int .i64 p], .agg #[.int .i64 st, .int .i64 lf]] x fun r x' => r = .returned (.tuple #[.agg #[.bool q1, .bool q2, .bool q3], .agg #[.func (.func f) #[] #[], .func (.func h) #[] #[], .func (.func d) #[] #[]], .nilIface]) ∧ Below x.heap.size x x') (hen : ∀ (args : Array Value) (x : World), (callFunc d args).run Tryz.prog x = .ok (.enter d args) x) (hd : ∀ x, Calls Tryz.prog d #[.agg #[.int .i64 st, .int .i64 lf]] x (WQ st' lf' l x)) : Calls Tryz.prog 66 #[.agg #[.bool e, .int .i64 a, .int .i64 p], .agg #[.int .i64 st, .int .i64 lf]] w (fun r w' => ∃ po cap, r = .returned (.tuple #[.agg #[.int .i64 st', .int .i64 lf'], .slice po l.length cap, .nilIface]) ∧ ActRow w' w.heap.size (.slice po l.length cap) l ∧ Below w.heap.size w w') := by
  have HS : Hid (∀ x, Below w.heap.size w x → Calls Tryz.prog 95 #[.agg #[.bool e, .int .i64 a, .int .i64 p], .agg #[.int .i64 st, .int .i64 lf]] x fun r x' => r = .returned (.tuple #[.agg #[.bool q1, .bool q2, .bool q3], .agg #[.func (.func f) #[] #[], .func (.func h) #[] #[], .func (.func d) #[] #[]], .nilIface]) ∧ Below x.heap.size x x') := hs
  have HD : Hid (∀ x, Calls Tryz.prog d #[.agg #[.int .i64 st, .int .i64 lf]] x (WQ st' lf' l x)) := hd
  obtain ⟨m, hm⟩ : ∃ m, l.length = m := ⟨_, rfl⟩
  clear hs hd
  go_enter Tryz.func66, Tryz.ntmps66
  go_wp2_with fail
  refine (HS.out _ (bl_alloc (bl_alloc ((Below.refl _ _).alloc (Nat.le_refl _) _) _) _)).mono ?_
  rintro _ w1 ⟨rfl, b1⟩
  have HB1 : Hid (Below w.heap.size w w1) := below_then (bl_alloc (bl_alloc ((Below.refl _ _).alloc (Nat.le_refl _) _) _) _) b1
  have X1_0 : Hid (Box w1 (w.heap.size) #[.bool e, .int .i64 a, .int .i64 p]) := (((Box.new' _ #[.bool e, .int .i64 a, .int .i64 p] 45 (w.heap.size) (by simp)).alloc _).alloc _).below b1
  have X1_1 : Hid (Box w1 (w.heap.size + 1) #[.int .i64 st, .int .i64 lf]) := ((Box.new' _ #[.int .i64 st, .int .i64 lf] 89 (w.heap.size + 1) (by simp)).alloc _).below b1
  have X1_2 : Hid (Box w1 (w.heap.size + 1 + 1) #[.int .i64 0, .int .i64 0]) := (Box.new' _ #[.int .i64 0, .int .i64 0] 89 (w.heap.size + 1 + 1) (by simp)).below b1
  obtain ⟨l1_0, k1_0, f1_0⟩ := X1_0.out
  obtain ⟨l1_1, k1_1, f1_1⟩ := X1_1.out
  obtain ⟨l1_2, k1_2, f1_2⟩ := X1_2.out
  have HA : Hid (Below w.heap.size w ((w1.alloc (.cells #[.bool q1, .bool q2, .bool q3] 161)).alloc (.cells #[.func (.func f) #[] #[], .func (.func h) #[] #[], .func (.func d) #[] #[]] 170))) := bl_alloc (bl_alloc HB1.out _) _
  have Y0 : Hid (Box ((w1.alloc (.cells #[.bool q1, .bool q2, .bool q3] 161)).alloc (.cells #[.func (.func f) #[] #[], .func (.func h) #[] #[], .func (.func d) #[] #[]] 170)) (w.heap.size) #[.bool e, .int .i64 a, .int .i64 p]) := (X1_0.out.alloc _).alloc _
  have Y1 : Hid (Box ((w1.alloc (.cells #[.bool q1, .bool q2, .bool q3] 161)).alloc (.cells #[.func (.func f) #[] #[], .func (.func h) #[] #[], .func (.func d) #[] #[]] 170)) (w.heap.size + 1) #[.int .i64 st, .int .i64 lf]) := (X1_1.out.alloc _).alloc _
  have Y2 : Hid (Box ((w1.alloc (.cells #[.bool q1, .bool q2, .bool q3] 161)).alloc (.cells #[.func (.func f) #[] #[], .func (.func h) #[] #[], .func (.func d) #[] #[]] 170)) (w.heap.size + 1 + 1) #[.int .i64 0, .int .i64 0]) := (X1_2.out.alloc _).alloc _
  have Yo : Hid (Box ((w1.alloc (.cells #[.bool q1, .bool q2, .bool q3] 161)).alloc (.cells #[.func (.func f) #[] #[], .func (.func h) #[] #[], .func (.func d) #[] #[]] 170)) w1.heap.size #[.bool q1, .bool q2, .bool q3]) := (Box.new _ _ _).alloc _
  have Ys : Hid (Box ((w1.alloc (.cells #[.bool q1, .bool q2, .bool q3] 161)).alloc (.cells #[.func (.func f) #[] #[], .func (.func h) #[] #[], .func (.func d) #[] #[]] 170)) (w1.heap.size + 1) #[.func (.func f) #[] #[], .func (.func h) #[] #[], .func (.func d) #[] #[]]) := Box.new' _ _ _ (w1.heap.size + 1) (by simp)
  have HSz : Hid (w.heap.size + 1 + 1 + 1 ≤ w1.heap.size) := l1_2
  have HVs : Hid (((w1.alloc (.cells #[.bool q1, .bool q2, .bool q3] 161)).alloc (.cells #[.func (.func f) #[] #[], .func (.func h) #[] #[], .func (.func d) #[] #[]] 170)).heap.size = w1.heap.size + 2) := by unfold Hid; simp
  clear l1_0 k1_0 f1_0 l1_1 k1_1 f1_1 l1_2 k1_2 f1_2 b1 X1_0 X1_1 X1_2 HB1 HS
  obtain ⟨V, hW⟩ : ∃ V, ((w1.alloc (.cells #[.bool q1, .bool q2, .bool q3] 161)).alloc (.cells #[.func (.func f) #[] #[], .func (.func h) #[] #[], .func (.func d) #[] #[]] 170)) = V := ⟨_, rfl⟩
  rw [hW] at HA Y0 Y1 Y2 Yo Ys HVs
  obtain ⟨l0, k0, f0⟩ := Y0.out
  obtain ⟨l1, k1, f1⟩ := Y1.out
  obtain ⟨l2, k2, f2⟩ := Y2.out
  obtain ⟨lo, ko, fo⟩ := Yo.out
  obtain ⟨ls, ks, fs⟩ := Ys.out
  go_wp2_with fail
  refine (HD.out _).mono ?_
  rintro _ w2 ⟨po, cap, rfl, r2, b2⟩
  rw [hm] at r2 ⊢
  have HB : Hid (Below w.heap.size w w2) := below_then HA.out b2
  have Z2 : Hid (Box w2 (w.heap.size + 1 + 1) #[.int .i64 0, .int .i64 0]) := Y2.out.below b2
  have HR : Hid (ActRow w2 V.heap.size (.slice po m cap) l) := r2
  clear l0 k0 f0 l1 k1 f1 l2 k2 f2 lo ko fo ls ks fs
  clear r2 b2 HD HA Y0 Y1 Y2 Yo Ys hW
  obtain ⟨l2, k2, f2⟩ := Z2.out
  go_wp2_with fail
  refine bodyPost_ret (v := .tuple #[.agg #[.int .i64 st', .int .i64 lf'], .slice po m cap, .nilIface]) ?_ rfl ⟨po, cap, by rw [hm], ?_, ?_⟩
  · simp [results, Tryz.results66, go_sem, k2, l2]
  · rw [hm]; exact (fin2 HB.out HR.out (by omega) (by have := HSz.out; have := HVs.out; omega)).1.below ((Below.refl _ _).alloc (Nat.le_refl _) _)
  · exact bl_alloc (fin2 HB.out HR.out (by omega) (by have := HSz.out; have := HVs.out; omega)).2 _
set_option maxRecDepth 100000 in
set_option maxHeartbeats 4000000 in
theorem Heard_ok (e : Bool) (a p : Int) (st lf : Int) (s : ByteArray) (n : Bool) (q1 q2 q3 : Bool) (f h d : FuncId) (st' lf' : Int) (l : ActL) (w : World) (hV : PVc w) (hs : ∀ x, Below w.heap.size w x → Calls Tryz.prog 95 #[.agg #[.bool e, .int .i64 a, .int .i64 p], .agg #[.int .i64 st, .int .i64 lf]] x fun r x' => r = .returned (.tuple #[.agg #[.bool q1, .bool q2, .bool q3], .agg #[.func (.func f) #[] #[], .func (.func h) #[] #[], .func (.func d) #[] #[]], .nilIface]) ∧ Below x.heap.size x x') (hen : ∀ (args : Array Value) (x : World), (callFunc h args).run Tryz.prog x = .ok (.enter h args) x) (hd : ∀ x, Calls Tryz.prog h #[.agg #[.bool q1, .bool q2, .bool q3], .agg #[.int .i64 st, .int .i64 lf], .agg #[.string s, .bool n]] x (WQ st' lf' l x)) (hm1 : sentB e a p s = true) : Calls Tryz.prog 64 #[.agg #[.bool e, .int .i64 a, .int .i64 p], .agg #[.int .i64 st, .int .i64 lf], .string s, .bool n] w (fun r w' => ∃ po cap, r = .returned (.tuple #[.agg #[.int .i64 st', .int .i64 lf'], .slice po l.length cap, .nilIface]) ∧ ActRow w' w.heap.size (.slice po l.length cap) l ∧ Below w.heap.size w w') := by
  have HV : Hid (PVc w) := hV
  clear hV
  have HS : Hid (∀ x, Below w.heap.size w x → Calls Tryz.prog 95 #[.agg #[.bool e, .int .i64 a, .int .i64 p], .agg #[.int .i64 st, .int .i64 lf]] x fun r x' => r = .returned (.tuple #[.agg #[.bool q1, .bool q2, .bool q3], .agg #[.func (.func f) #[] #[], .func (.func h) #[] #[], .func (.func d) #[] #[]], .nilIface]) ∧ Below x.heap.size x x') := hs
  have HD : Hid (∀ x, Calls Tryz.prog h #[.agg #[.bool q1, .bool q2, .bool q3], .agg #[.int .i64 st, .int .i64 lf], .agg #[.string s, .bool n]] x (WQ st' lf' l x)) := hd
  obtain ⟨m, hm⟩ : ∃ m, l.length = m := ⟨_, rfl⟩
  clear hs hd
  have cm : Hid (∀ x, PVc x → Calls Tryz.prog 86 #[.agg #[.bool e, .int .i64 a, .int .i64 p], .string s] x fun r x' => r = .returned (.bool true) ∧ Below x.heap.size x x') := fun x hx => by have := may_any e a p s x hx; rw [hm1] at this; exact this
  clear hm1
  go_enter Tryz.func64, Tryz.ntmps64
  go_wp2_with fail
  refine (HS.out _ (bl_alloc (bl_alloc ((Below.refl _ _).alloc (Nat.le_refl _) _) _) _)).mono ?_
  rintro _ w1 ⟨rfl, b1⟩
  have HB1 : Hid (Below w.heap.size w w1) := below_then (bl_alloc (bl_alloc ((Below.refl _ _).alloc (Nat.le_refl _) _) _) _) b1
  have X1_0 : Hid (Box w1 (w.heap.size) #[.bool e, .int .i64 a, .int .i64 p]) := (((Box.new' _ #[.bool e, .int .i64 a, .int .i64 p] 45 (w.heap.size) (by simp)).alloc _).alloc _).below b1
  have X1_1 : Hid (Box w1 (w.heap.size + 1) #[.int .i64 st, .int .i64 lf]) := ((Box.new' _ #[.int .i64 st, .int .i64 lf] 89 (w.heap.size + 1) (by simp)).alloc _).below b1
  have X1_2 : Hid (Box w1 (w.heap.size + 1 + 1) #[.int .i64 0, .int .i64 0]) := (Box.new' _ #[.int .i64 0, .int .i64 0] 89 (w.heap.size + 1 + 1) (by simp)).below b1
  obtain ⟨l1_0, k1_0, f1_0⟩ := X1_0.out
  obtain ⟨l1_1, k1_1, f1_1⟩ := X1_1.out
  obtain ⟨l1_2, k1_2, f1_2⟩ := X1_2.out
  have HA : Hid (Below w.heap.size w ((w1.alloc (.cells #[.bool q1, .bool q2, .bool q3] 161)).alloc (.cells #[.func (.func f) #[] #[], .func (.func h) #[] #[], .func (.func d) #[] #[]] 170))) := bl_alloc (bl_alloc HB1.out _) _
  have Y0 : Hid (Box ((w1.alloc (.cells #[.bool q1, .bool q2, .bool q3] 161)).alloc (.cells #[.func (.func f) #[] #[], .func (.func h) #[] #[], .func (.func d) #[] #[]] 170)) (w.heap.size) #[.bool e, .int .i64 a, .int .i64 p]) := (X1_0.out.alloc _).alloc _
  have Y1 : Hid (Box ((w1.alloc (.cells #[.bool q1, .bool q2, .bool q3] 161)).alloc (.cells #[.func (.func f) #[] #[], .func (.func h) #[] #[], .func (.func d) #[] #[]] 170)) (w.heap.size + 1) #[.int .i64 st, .int .i64 lf]) := (X1_1.out.alloc _).alloc _
  have Y2 : Hid (Box ((w1.alloc (.cells #[.bool q1, .bool q2, .bool q3] 161)).alloc (.cells #[.func (.func f) #[] #[], .func (.func h) #[] #[], .func (.func d) #[] #[]] 170)) (w.heap.size + 1 + 1) #[.int .i64 0, .int .i64 0]) := (X1_2.out.alloc _).alloc _
  have Yo : Hid (Box ((w1.alloc (.cells #[.bool q1, .bool q2, .bool q3] 161)).alloc (.cells #[.func (.func f) #[] #[], .func (.func h) #[] #[], .func (.func d) #[] #[]] 170)) w1.heap.size #[.bool q1, .bool q2, .bool q3]) := (Box.new _ _ _).alloc _
  have Ys : Hid (Box ((w1.alloc (.cells #[.bool q1, .bool q2, .bool q3] 161)).alloc (.cells #[.func (.func f) #[] #[], .func (.func h) #[] #[], .func (.func d) #[] #[]] 170)) (w1.heap.size + 1) #[.func (.func f) #[] #[], .func (.func h) #[] #[], .func (.func d) #[] #[]]) := Box.new' _ _ _ (w1.heap.size + 1) (by simp)
  have HSz : Hid (w.heap.size + 1 + 1 + 1 ≤ w1.heap.size) := l1_2
  have HVs : Hid (((w1.alloc (.cells #[.bool q1, .bool q2, .bool q3] 161)).alloc (.cells #[.func (.func f) #[] #[], .func (.func h) #[] #[], .func (.func d) #[] #[]] 170)).heap.size = w1.heap.size + 2) := by unfold Hid; simp
  clear l1_0 k1_0 f1_0 l1_1 k1_1 f1_1 l1_2 k1_2 f1_2 b1 X1_0 X1_1 X1_2 HB1 HS
  obtain ⟨V, hW⟩ : ∃ V, ((w1.alloc (.cells #[.bool q1, .bool q2, .bool q3] 161)).alloc (.cells #[.func (.func f) #[] #[], .func (.func h) #[] #[], .func (.func d) #[] #[]] 170)) = V := ⟨_, rfl⟩
  rw [hW] at HA Y0 Y1 Y2 Yo Ys HVs
  obtain ⟨l0, k0, f0⟩ := Y0.out
  obtain ⟨l1, k1, f1⟩ := Y1.out
  obtain ⟨l2, k2, f2⟩ := Y2.out
  obtain ⟨lo, ko, fo⟩ := Yo.out
  obtain ⟨ls, ks, fs⟩ := Ys.out
  go_wp2_with fail
  refine (cm.out _ (HV.out.below HA.out)).mono ?_
  rintro _ w2 ⟨rfl, b2⟩
  have HA2 : Hid (Below w.heap.size w w2 ∧ V.heap.size ≤ w2.heap.size) := ⟨below_then HA.out b2, b2.size⟩
  have U0 : Hid (Box w2 (w.heap.size) #[.bool e, .int .i64 a, .int .i64 p]) := Y0.out.below b2
  have U1 : Hid (Box w2 (w.heap.size + 1) #[.int .i64 st, .int .i64 lf]) := Y1.out.below b2
  have U2 : Hid (Box w2 (w.heap.size + 1 + 1) #[.int .i64 0, .int .i64 0]) := Y2.out.below b2
  have Uo : Hid (Box w2 (w1.heap.size) #[.bool q1, .bool q2, .bool q3]) := Yo.out.below b2
  have Us : Hid (Box w2 (w1.heap.size + 1) #[.func (.func f) #[] #[], .func (.func h) #[] #[], .func (.func d) #[] #[]]) := Ys.out.below b2
  clear l0 k0 f0 l1 k1 f1 l2 k2 f2 lo ko fo ls ks fs
  clear b2 cm HA Y0 Y1 Y2 Yo Ys hW HV
  obtain ⟨l0, k0, f0⟩ := U0.out
  obtain ⟨l1, k1, f1⟩ := U1.out
  obtain ⟨l2, k2, f2⟩ := U2.out
  obtain ⟨lo, ko, fo⟩ := Uo.out
  obtain ⟨ls, ks, fs⟩ := Us.out
  go_wp2_with fail
  refine (HD.out _).mono ?_
  rintro _ w3 ⟨po, cap, rfl, r3, b3⟩
  rw [hm] at r3 ⊢
  have HB : Hid (Below w.heap.size w w3) := below_then HA2.out.1 b3
  have Z2 : Hid (Box w3 (w.heap.size + 1 + 1) #[.int .i64 0, .int .i64 0]) := U2.out.below b3
  have HR : Hid (ActRow w3 V.heap.size (.slice po m cap) l) := r3.mono HA2.out.2
  clear l0 k0 f0 l1 k1 f1 l2 k2 f2 lo ko fo ls ks fs
  clear r3 b3 HD HA2 U0 U1 U2 Uo Us
  obtain ⟨l2, k2, f2⟩ := Z2.out
  go_wp2_with fail
  refine bodyPost_ret (v := .tuple #[.agg #[.int .i64 st', .int .i64 lf'], .slice po m cap, .nilIface]) ?_ rfl ⟨po, cap, by rw [hm], ?_, ?_⟩
  · simp [results, Tryz.results64, go_sem, k2, l2]
  · rw [hm]; exact (fin2 HB.out HR.out (by omega) (by have := HSz.out; have := HVs.out; omega)).1.below ((Below.refl _ _).alloc (Nat.le_refl _) _)
  · exact bl_alloc (fin2 HB.out HR.out (by omega) (by have := HSz.out; have := HVs.out; omega)).2 _
set_option maxRecDepth 100000 in
set_option maxHeartbeats 4000000 in
theorem Heard_s (e : Bool) (a p : Int) (st lf : Int) (s : ByteArray) (n : Bool) (q1 q2 q3 : Bool) (f h d : FuncId) (w : World) (hV : PVc w) (hs : ∀ x, Below w.heap.size w x → Calls Tryz.prog 95 #[.agg #[.bool e, .int .i64 a, .int .i64 p], .agg #[.int .i64 st, .int .i64 lf]] x fun r x' => r = .returned (.tuple #[.agg #[.bool q1, .bool q2, .bool q3], .agg #[.func (.func f) #[] #[], .func (.func h) #[] #[], .func (.func d) #[] #[]], .nilIface]) ∧ Below x.heap.size x x') (hm1 : sentB e a p s = false) : Calls Tryz.prog 64 #[.agg #[.bool e, .int .i64 a, .int .i64 p], .agg #[.int .i64 st, .int .i64 lf], .string s, .bool n] w (fun r w' => ∃ po cap, r = .returned (.tuple #[.agg #[.int .i64 st, .int .i64 lf], .slice po 1 cap, .nilIface]) ∧ ActRow w' w.heap.size (.slice po 1 cap) [(6, nT)] ∧ Below w.heap.size w w') := by
  have HV : Hid (PVc w) := hV
  clear hV
  have HS : Hid (∀ x, Below w.heap.size w x → Calls Tryz.prog 95 #[.agg #[.bool e, .int .i64 a, .int .i64 p], .agg #[.int .i64 st, .int .i64 lf]] x fun r x' => r = .returned (.tuple #[.agg #[.bool q1, .bool q2, .bool q3], .agg #[.func (.func f) #[] #[], .func (.func h) #[] #[], .func (.func d) #[] #[]], .nilIface]) ∧ Below x.heap.size x x') := hs
  clear hs
  have cm : Hid (∀ x, PVc x → Calls Tryz.prog 86 #[.agg #[.bool e, .int .i64 a, .int .i64 p], .string s] x fun r x' => r = .returned (.bool false) ∧ Below x.heap.size x x') := fun x hx => by have := may_any e a p s x hx; rw [hm1] at this; exact this
  clear hm1
  go_enter Tryz.func64, Tryz.ntmps64
  go_wp2_with fail
  refine (HS.out _ (bl_alloc (bl_alloc ((Below.refl _ _).alloc (Nat.le_refl _) _) _) _)).mono ?_
  rintro _ w1 ⟨rfl, b1⟩
  have HB1 : Hid (Below w.heap.size w w1) := below_then (bl_alloc (bl_alloc ((Below.refl _ _).alloc (Nat.le_refl _) _) _) _) b1
  have X1_0 : Hid (Box w1 (w.heap.size) #[.bool e, .int .i64 a, .int .i64 p]) := (((Box.new' _ #[.bool e, .int .i64 a, .int .i64 p] 45 (w.heap.size) (by simp)).alloc _).alloc _).below b1
  have X1_1 : Hid (Box w1 (w.heap.size + 1) #[.int .i64 st, .int .i64 lf]) := ((Box.new' _ #[.int .i64 st, .int .i64 lf] 89 (w.heap.size + 1) (by simp)).alloc _).below b1
  have X1_2 : Hid (Box w1 (w.heap.size + 1 + 1) #[.int .i64 0, .int .i64 0]) := (Box.new' _ #[.int .i64 0, .int .i64 0] 89 (w.heap.size + 1 + 1) (by simp)).below b1
  obtain ⟨l1_0, k1_0, f1_0⟩ := X1_0.out
  obtain ⟨l1_1, k1_1, f1_1⟩ := X1_1.out
  obtain ⟨l1_2, k1_2, f1_2⟩ := X1_2.out
  have HA : Hid (Below w.heap.size w ((w1.alloc (.cells #[.bool q1, .bool q2, .bool q3] 161)).alloc (.cells #[.func (.func f) #[] #[], .func (.func h) #[] #[], .func (.func d) #[] #[]] 170))) := bl_alloc (bl_alloc HB1.out _) _
  have Y0 : Hid (Box ((w1.alloc (.cells #[.bool q1, .bool q2, .bool q3] 161)).alloc (.cells #[.func (.func f) #[] #[], .func (.func h) #[] #[], .func (.func d) #[] #[]] 170)) (w.heap.size) #[.bool e, .int .i64 a, .int .i64 p]) := (X1_0.out.alloc _).alloc _
  have Y1 : Hid (Box ((w1.alloc (.cells #[.bool q1, .bool q2, .bool q3] 161)).alloc (.cells #[.func (.func f) #[] #[], .func (.func h) #[] #[], .func (.func d) #[] #[]] 170)) (w.heap.size + 1) #[.int .i64 st, .int .i64 lf]) := (X1_1.out.alloc _).alloc _
  have Y2 : Hid (Box ((w1.alloc (.cells #[.bool q1, .bool q2, .bool q3] 161)).alloc (.cells #[.func (.func f) #[] #[], .func (.func h) #[] #[], .func (.func d) #[] #[]] 170)) (w.heap.size + 1 + 1) #[.int .i64 0, .int .i64 0]) := (X1_2.out.alloc _).alloc _
  have Yo : Hid (Box ((w1.alloc (.cells #[.bool q1, .bool q2, .bool q3] 161)).alloc (.cells #[.func (.func f) #[] #[], .func (.func h) #[] #[], .func (.func d) #[] #[]] 170)) w1.heap.size #[.bool q1, .bool q2, .bool q3]) := (Box.new _ _ _).alloc _
  have Ys : Hid (Box ((w1.alloc (.cells #[.bool q1, .bool q2, .bool q3] 161)).alloc (.cells #[.func (.func f) #[] #[], .func (.func h) #[] #[], .func (.func d) #[] #[]] 170)) (w1.heap.size + 1) #[.func (.func f) #[] #[], .func (.func h) #[] #[], .func (.func d) #[] #[]]) := Box.new' _ _ _ (w1.heap.size + 1) (by simp)
  have HSz : Hid (w.heap.size + 1 + 1 + 1 ≤ w1.heap.size) := l1_2
  have HVs : Hid (((w1.alloc (.cells #[.bool q1, .bool q2, .bool q3] 161)).alloc (.cells #[.func (.func f) #[] #[], .func (.func h) #[] #[], .func (.func d) #[] #[]] 170)).heap.size = w1.heap.size + 2) := by unfold Hid; simp
  clear l1_0 k1_0 f1_0 l1_1 k1_1 f1_1 l1_2 k1_2 f1_2 b1 X1_0 X1_1 X1_2 HB1 HS
  obtain ⟨V, hW⟩ : ∃ V, ((w1.alloc (.cells #[.bool q1, .bool q2, .bool q3] 161)).alloc (.cells #[.func (.func f) #[] #[], .func (.func h) #[] #[], .func (.func d) #[] #[]] 170)) = V := ⟨_, rfl⟩
  rw [hW] at HA Y0 Y1 Y2 Yo Ys HVs
  obtain ⟨l0, k0, f0⟩ := Y0.out
  obtain ⟨l1, k1, f1⟩ := Y1.out
  obtain ⟨l2, k2, f2⟩ := Y2.out
  obtain ⟨lo, ko, fo⟩ := Yo.out
  obtain ⟨ls, ks, fs⟩ := Ys.out
  go_wp2_with fail
  refine (cm.out _ (HV.out.below HA.out)).mono ?_
  rintro _ w2 ⟨rfl, b2⟩
  have HA2 : Hid (Below w.heap.size w w2 ∧ V.heap.size ≤ w2.heap.size) := ⟨below_then HA.out b2, b2.size⟩
  have U1 : Hid (Box w2 (w.heap.size + 1) #[.int .i64 st, .int .i64 lf]) := Y1.out.below b2
  have U2 : Hid (Box w2 (w.heap.size + 1 + 1) #[.int .i64 0, .int .i64 0]) := Y2.out.below b2
  clear l0 k0 f0 l1 k1 f1 l2 k2 f2 lo ko fo ls ks fs
  clear b2 cm HA Y0 Y1 Y2 Yo Ys hW HV
  obtain ⟨l1, k1, f1⟩ := U1.out
  obtain ⟨l2, k2, f2⟩ := U2.out
  go_upto_region 5 with fail
  go_region_law (go_simp; go_at_call 96; refine (passOver_any _).mono ?_; rintro _ w5 ⟨b, rfl, r5, b5⟩; have hb5 : Hid (Below w2.heap.size w2 w5) := (by first | exact b5 | exact below_then (Below.drew (Below.refl _ _)) b5); have HR5 : Hid (ActRow w5 w2.heap.size (.slice (some ⟨b, 0, none⟩) 1 1) [(6, nT)]) := r5; obtain ⟨l15, k15, f15⟩ := U1.out.below hb5.out; obtain ⟨l25, k25, f25⟩ := U2.out.below hb5.out; clear r5 b5; go_wp2_with fail)
  all_goals
    go_wp2_with fail
    refine bodyPost_ret (v := .tuple #[.agg #[.int .i64 st, .int .i64 lf], .slice (some ⟨b, 0, none⟩) 1 1, .nilIface]) ?_ rfl ⟨_, _, rfl, ?_, ?_⟩
    · simp [results, Tryz.results64, go_sem, k25]
    · exact (fin2 (below_then HA2.out.1 hb5.out) HR5.out (by omega) (by have := HSz.out; have := HVs.out; have := HA2.out.2; omega)).1
    · exact (fin2 (below_then HA2.out.1 hb5.out) HR5.out (by omega) (by have := HSz.out; have := HVs.out; have := HA2.out.2; omega)).2
end Go.Proofs.YtoijhecphgdfnaaGreatDoor
