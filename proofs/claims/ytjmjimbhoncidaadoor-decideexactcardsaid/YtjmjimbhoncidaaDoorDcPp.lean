import Derived.Test.YtjmjimbhoncidaaDoorDcPj
import Derived.Test.YtjmjimbhoncidaaDoorDcPi
import Derived.Test.YtjmjimbhoncidaaDoorDcOk
import Derived.Shelf.Abstract
/-
  The program's standing, refused.
-/
namespace Go.Proofs.YtjmjimbhoncidaaDoor
open Go.RowKit

set_option maxRecDepth 100000 in
set_option maxHeartbeats 4000000 in
theorem standing_lo (e : Bool) (a p st lf : Int) (w : World) (hV : PVc w) (ok : okB e a p = true) (s1 : st < 1) : Calls Tryd.prog 60 #[.agg #[.bool e, .int .i64 a, .int .i64 p], .agg #[.int .i64 st, .int .i64 lf]] w (StE 222 w) := by
  have c1 := fun x => refuse_ok e a p x ok
  have C2 : Hid (∀ x, PVc x → Calls Tryd.prog 49 #[.agg #[.bool e, .int .i64 a, .int .i64 p]] x fun r x' => r = .returned (.agg #[.bool (caB e a), .bool (aaB e p), .bool (earB e a p (caB e a))]) ∧ Below x.heap.size x x') := fun x hx => owedBy_any e a p x hx
  have HV : Hid (PVc w) := hV
  obtain ⟨q1, hq1⟩ : ∃ z, caB e a = z := ⟨_, rfl⟩
  obtain ⟨q2, hq2⟩ : ∃ z, aaB e p = z := ⟨_, rfl⟩
  obtain ⟨q3, hq3⟩ : ∃ z, earB e a p q1 = z := ⟨_, rfl⟩
  rw [hq1, hq2, hq3] at C2
  clear hq1 hq2 hq3 hV ok
  go_enter Tryd.func60, Tryd.ntmps60
  go_wp2_with fail
  refine (c1 _).mono ?_
  rintro _ w1 ⟨rfl, b1⟩
  have HB1 : Hid (Below w.heap.size w w1) := below_then (bl_alloc (bl_alloc (bl_alloc ((Below.refl _ _).alloc (Nat.le_refl _) _) _) _) _) b1
  have X0 : Hid (Box w1 w.heap.size #[.bool e, .int .i64 a, .int .i64 p]) := ((((Box.new' _ #[.bool e, .int .i64 a, .int .i64 p] 23 w.heap.size rfl).alloc _).alloc _).alloc _).below b1
  have X1 : Hid (Box w1 (w.heap.size + 1) #[.int .i64 st, .int .i64 lf]) := (((Box.new' _ #[.int .i64 st, .int .i64 lf] 50 (w.heap.size + 1) (by simp)).alloc _).alloc _).below b1
  have X2 : Hid (Box w1 (w.heap.size + 1 + 1) #[.bool false, .bool false, .bool false]) := ((Box.new' _ #[.bool false, .bool false, .bool false] 115 (w.heap.size + 1 + 1) (by simp)).alloc _).below b1
  have X3 : Hid (Box w1 (w.heap.size + 1 + 1 + 1) #[.nilFunc, .nilFunc, .nilFunc]) := (Box.new' _ #[.nilFunc, .nilFunc, .nilFunc] 128 (w.heap.size + 1 + 1 + 1) (by simp)).below b1
  obtain ⟨l0, k0, f0⟩ := X0.out
  clear b1 c1
  go_wp2_with fail
  refine (C2.out _ (HV.out.below HB1.out)).mono ?_
  rintro _ w2 ⟨rfl, b2⟩
  have HO5 : Hid (Below w.heap.size w (w2.alloc (.cells #[.bool q1, .bool q2, .bool q3] 115)) ∧ Box (w2.alloc (.cells #[.bool q1, .bool q2, .bool q3] 115)) (w.heap.size + 1) #[.int .i64 st, .int .i64 lf] ∧ Box (w2.alloc (.cells #[.bool q1, .bool q2, .bool q3] 115)) (w.heap.size + 1 + 1) #[.bool false, .bool false, .bool false] ∧ Box (w2.alloc (.cells #[.bool q1, .bool q2, .bool q3] 115)) (w.heap.size + 1 + 1 + 1) #[.nilFunc, .nilFunc, .nilFunc]) := ⟨bl_alloc (below_then HB1.out b2) _, (X1.out.below b2).alloc _, (X2.out.below b2).alloc _, (X3.out.below b2).alloc _⟩
  clear l0 k0 f0 X0 X1 X2 X3 HB1 b2 C2 HV
  obtain ⟨w5, hW⟩ : ∃ V, w2.alloc (.cells #[.bool q1, .bool q2, .bool q3] 115) = V := ⟨_, rfl⟩
  rw [hW] at HO5
  obtain ⟨l1, k1, f1⟩ := HO5.out.2.1
  have fl := pfault_any 0 222
  go_wp2_with fail
  refine (fl _).mono ?_
  rintro _ w6 ⟨rfl, hz, b6⟩
  have HZ : Hid (DFault w6 w5.heap.size 0 222 ∧ Below w.heap.size w w6 ∧ w.heap.size + 1 + 1 + 1 < w5.heap.size) := ⟨hz, below_then HO5.out.1 b6, HO5.out.2.2.2.lt⟩
  have Y2 : Hid (Box w6 (w.heap.size + 1 + 1) #[.bool false, .bool false, .bool false]) := HO5.out.2.2.1.below b6
  have Y3 : Hid (Box w6 (w.heap.size + 1 + 1 + 1) #[.nilFunc, .nilFunc, .nilFunc]) := HO5.out.2.2.2.below b6
  clear l1 k1 f1 hz b6 HO5 fl
  obtain ⟨lo, ko, fo⟩ := Y2.out
  obtain ⟨ls, ks, fs⟩ := Y3.out
  go_wp2_with fail
  refine bodyPost_ret (v := .tuple #[.agg #[.bool false, .bool false, .bool false], .agg #[.nilFunc, .nilFunc, .nilFunc], .iface 108 (.pointer (some ⟨w5.heap.size, 0, none⟩))]) ?_ rfl ⟨_, rfl, ?_, ?_⟩
  · simp [results, Tryd.results60, go_sem, ko, ks]
  · exact (fin33 HZ.out.2.1 HZ.out.1 (by omega) (by omega) (by have := HZ.out.2.2; omega) (by have := HZ.out.2.2; omega) _ _ _ _ _ _).1
  · exact (fin33 HZ.out.2.1 HZ.out.1 (by omega) (by omega) (by have := HZ.out.2.2; omega) (by have := HZ.out.2.2; omega) _ _ _ _ _ _).2
set_option maxRecDepth 100000 in
set_option maxHeartbeats 4000000 in
theorem standing_hi (e : Bool) (a p st lf : Int) (w : World) (hV : PVc w) (ok : okB e a p = true) (s1 : ¬ st < 1) (s6 : st > 6) : Calls Tryd.prog 60 #[.agg #[.bool e, .int .i64 a, .int .i64 p], .agg #[.int .i64 st, .int .i64 lf]] w (StE 222 w) := by
  have c1 := fun x => refuse_ok e a p x ok
  have C2 : Hid (∀ x, PVc x → Calls Tryd.prog 49 #[.agg #[.bool e, .int .i64 a, .int .i64 p]] x fun r x' => r = .returned (.agg #[.bool (caB e a), .bool (aaB e p), .bool (earB e a p (caB e a))]) ∧ Below x.heap.size x x') := fun x hx => owedBy_any e a p x hx
  have HV : Hid (PVc w) := hV
  obtain ⟨q1, hq1⟩ : ∃ z, caB e a = z := ⟨_, rfl⟩
  obtain ⟨q2, hq2⟩ : ∃ z, aaB e p = z := ⟨_, rfl⟩
  obtain ⟨q3, hq3⟩ : ∃ z, earB e a p q1 = z := ⟨_, rfl⟩
  rw [hq1, hq2, hq3] at C2
  clear hq1 hq2 hq3 hV ok
  go_enter Tryd.func60, Tryd.ntmps60
  go_wp2_with fail
  refine (c1 _).mono ?_
  rintro _ w1 ⟨rfl, b1⟩
  have HB1 : Hid (Below w.heap.size w w1) := below_then (bl_alloc (bl_alloc (bl_alloc ((Below.refl _ _).alloc (Nat.le_refl _) _) _) _) _) b1
  have X0 : Hid (Box w1 w.heap.size #[.bool e, .int .i64 a, .int .i64 p]) := ((((Box.new' _ #[.bool e, .int .i64 a, .int .i64 p] 23 w.heap.size rfl).alloc _).alloc _).alloc _).below b1
  have X1 : Hid (Box w1 (w.heap.size + 1) #[.int .i64 st, .int .i64 lf]) := (((Box.new' _ #[.int .i64 st, .int .i64 lf] 50 (w.heap.size + 1) (by simp)).alloc _).alloc _).below b1
  have X2 : Hid (Box w1 (w.heap.size + 1 + 1) #[.bool false, .bool false, .bool false]) := ((Box.new' _ #[.bool false, .bool false, .bool false] 115 (w.heap.size + 1 + 1) (by simp)).alloc _).below b1
  have X3 : Hid (Box w1 (w.heap.size + 1 + 1 + 1) #[.nilFunc, .nilFunc, .nilFunc]) := (Box.new' _ #[.nilFunc, .nilFunc, .nilFunc] 128 (w.heap.size + 1 + 1 + 1) (by simp)).below b1
  obtain ⟨l0, k0, f0⟩ := X0.out
  clear b1 c1
  go_wp2_with fail
  refine (C2.out _ (HV.out.below HB1.out)).mono ?_
  rintro _ w2 ⟨rfl, b2⟩
  have HO5 : Hid (Below w.heap.size w (w2.alloc (.cells #[.bool q1, .bool q2, .bool q3] 115)) ∧ Box (w2.alloc (.cells #[.bool q1, .bool q2, .bool q3] 115)) (w.heap.size + 1) #[.int .i64 st, .int .i64 lf] ∧ Box (w2.alloc (.cells #[.bool q1, .bool q2, .bool q3] 115)) (w.heap.size + 1 + 1) #[.bool false, .bool false, .bool false] ∧ Box (w2.alloc (.cells #[.bool q1, .bool q2, .bool q3] 115)) (w.heap.size + 1 + 1 + 1) #[.nilFunc, .nilFunc, .nilFunc]) := ⟨bl_alloc (below_then HB1.out b2) _, (X1.out.below b2).alloc _, (X2.out.below b2).alloc _, (X3.out.below b2).alloc _⟩
  clear l0 k0 f0 X0 X1 X2 X3 HB1 b2 C2 HV
  obtain ⟨w5, hW⟩ : ∃ V, w2.alloc (.cells #[.bool q1, .bool q2, .bool q3] 115) = V := ⟨_, rfl⟩
  rw [hW] at HO5
  obtain ⟨l1, k1, f1⟩ := HO5.out.2.1
  have fl := pfault_any 0 222
  go_wp2_with fail
  refine (fl _).mono ?_
  rintro _ w6 ⟨rfl, hz, b6⟩
  have HZ : Hid (DFault w6 w5.heap.size 0 222 ∧ Below w.heap.size w w6 ∧ w.heap.size + 1 + 1 + 1 < w5.heap.size) := ⟨hz, below_then HO5.out.1 b6, HO5.out.2.2.2.lt⟩
  have Y2 : Hid (Box w6 (w.heap.size + 1 + 1) #[.bool false, .bool false, .bool false]) := HO5.out.2.2.1.below b6
  have Y3 : Hid (Box w6 (w.heap.size + 1 + 1 + 1) #[.nilFunc, .nilFunc, .nilFunc]) := HO5.out.2.2.2.below b6
  clear l1 k1 f1 hz b6 HO5 fl
  obtain ⟨lo, ko, fo⟩ := Y2.out
  obtain ⟨ls, ks, fs⟩ := Y3.out
  go_wp2_with fail
  refine bodyPost_ret (v := .tuple #[.agg #[.bool false, .bool false, .bool false], .agg #[.nilFunc, .nilFunc, .nilFunc], .iface 108 (.pointer (some ⟨w5.heap.size, 0, none⟩))]) ?_ rfl ⟨_, rfl, ?_, ?_⟩
  · simp [results, Tryd.results60, go_sem, ko, ks]
  · exact (fin33 HZ.out.2.1 HZ.out.1 (by omega) (by omega) (by have := HZ.out.2.2; omega) (by have := HZ.out.2.2; omega) _ _ _ _ _ _).1
  · exact (fin33 HZ.out.2.1 HZ.out.1 (by omega) (by omega) (by have := HZ.out.2.2; omega) (by have := HZ.out.2.2; omega) _ _ _ _ _ _).2
set_option maxRecDepth 100000 in
set_option maxHeartbeats 4000000 in
theorem standing_lf (e : Bool) (a p st lf : Int) (w : World) (hV : PVc w) (ok : okB e a p = true) (s1 : ¬ st < 1) (s6 : ¬ st > 6) (lk : decide (0 ≤ lf ∧ lf ≤ 16) = false) : Calls Tryd.prog 60 #[.agg #[.bool e, .int .i64 a, .int .i64 p], .agg #[.int .i64 st, .int .i64 lf]] w (StE 222 w) := by
  have c1 := fun x => refuse_ok e a p x ok
  have C2 : Hid (∀ x, PVc x → Calls Tryd.prog 49 #[.agg #[.bool e, .int .i64 a, .int .i64 p]] x fun r x' => r = .returned (.agg #[.bool (caB e a), .bool (aaB e p), .bool (earB e a p (caB e a))]) ∧ Below x.heap.size x x') := fun x hx => owedBy_any e a p x hx
  have c3 := fun x => areTries_any lf x
  rw [lk] at c3
  clear lk
  have HV : Hid (PVc w) := hV
  obtain ⟨q1, hq1⟩ : ∃ z, caB e a = z := ⟨_, rfl⟩
  obtain ⟨q2, hq2⟩ : ∃ z, aaB e p = z := ⟨_, rfl⟩
  obtain ⟨q3, hq3⟩ : ∃ z, earB e a p q1 = z := ⟨_, rfl⟩
  rw [hq1, hq2, hq3] at C2
  clear hq1 hq2 hq3 hV ok
  go_enter Tryd.func60, Tryd.ntmps60
  go_wp2_with fail
  refine (c1 _).mono ?_
  rintro _ w1 ⟨rfl, b1⟩
  have HB1 : Hid (Below w.heap.size w w1) := below_then (bl_alloc (bl_alloc (bl_alloc ((Below.refl _ _).alloc (Nat.le_refl _) _) _) _) _) b1
  have X0 : Hid (Box w1 w.heap.size #[.bool e, .int .i64 a, .int .i64 p]) := ((((Box.new' _ #[.bool e, .int .i64 a, .int .i64 p] 23 w.heap.size rfl).alloc _).alloc _).alloc _).below b1
  have X1 : Hid (Box w1 (w.heap.size + 1) #[.int .i64 st, .int .i64 lf]) := (((Box.new' _ #[.int .i64 st, .int .i64 lf] 50 (w.heap.size + 1) (by simp)).alloc _).alloc _).below b1
  have X2 : Hid (Box w1 (w.heap.size + 1 + 1) #[.bool false, .bool false, .bool false]) := ((Box.new' _ #[.bool false, .bool false, .bool false] 115 (w.heap.size + 1 + 1) (by simp)).alloc _).below b1
  have X3 : Hid (Box w1 (w.heap.size + 1 + 1 + 1) #[.nilFunc, .nilFunc, .nilFunc]) := (Box.new' _ #[.nilFunc, .nilFunc, .nilFunc] 128 (w.heap.size + 1 + 1 + 1) (by simp)).below b1
  obtain ⟨l0, k0, f0⟩ := X0.out
  clear b1 c1
  go_wp2_with fail
  refine (C2.out _ (HV.out.below HB1.out)).mono ?_
  rintro _ w2 ⟨rfl, b2⟩
  have HO5 : Hid (Below w.heap.size w (w2.alloc (.cells #[.bool q1, .bool q2, .bool q3] 115)) ∧ Box (w2.alloc (.cells #[.bool q1, .bool q2, .bool q3] 115)) (w.heap.size + 1) #[.int .i64 st, .int .i64 lf] ∧ Box (w2.alloc (.cells #[.bool q1, .bool q2, .bool q3] 115)) (w.heap.size + 1 + 1) #[.bool false, .bool false, .bool false] ∧ Box (w2.alloc (.cells #[.bool q1, .bool q2, .bool q3] 115)) (w.heap.size + 1 + 1 + 1) #[.nilFunc, .nilFunc, .nilFunc]) := ⟨bl_alloc (below_then HB1.out b2) _, (X1.out.below b2).alloc _, (X2.out.below b2).alloc _, (X3.out.below b2).alloc _⟩
  clear l0 k0 f0 X0 X1 X2 X3 HB1 b2 C2 HV
  obtain ⟨w5, hW⟩ : ∃ V, w2.alloc (.cells #[.bool q1, .bool q2, .bool q3] 115) = V := ⟨_, rfl⟩
  rw [hW] at HO5
  obtain ⟨l1, k1, f1⟩ := HO5.out.2.1
  have fl := pfault_any 0 222
  go_wp2_with fail
  refine (c3 _).mono ?_
  rintro _ w3 ⟨rfl, hw3⟩
  have hw3' := hw3.symm
  subst hw3'
  clear hw3 c3
  go_wp2_with fail
  refine (fl _).mono ?_
  rintro _ w6 ⟨rfl, hz, b6⟩
  have HZ : Hid (DFault w6 w5.heap.size 0 222 ∧ Below w.heap.size w w6 ∧ w.heap.size + 1 + 1 + 1 < w5.heap.size) := ⟨hz, below_then HO5.out.1 b6, HO5.out.2.2.2.lt⟩
  have Y2 : Hid (Box w6 (w.heap.size + 1 + 1) #[.bool false, .bool false, .bool false]) := HO5.out.2.2.1.below b6
  have Y3 : Hid (Box w6 (w.heap.size + 1 + 1 + 1) #[.nilFunc, .nilFunc, .nilFunc]) := HO5.out.2.2.2.below b6
  clear l1 k1 f1 hz b6 HO5 fl
  obtain ⟨lo, ko, fo⟩ := Y2.out
  obtain ⟨ls, ks, fs⟩ := Y3.out
  go_wp2_with fail
  refine bodyPost_ret (v := .tuple #[.agg #[.bool false, .bool false, .bool false], .agg #[.nilFunc, .nilFunc, .nilFunc], .iface 108 (.pointer (some ⟨w5.heap.size, 0, none⟩))]) ?_ rfl ⟨_, rfl, ?_, ?_⟩
  · simp [results, Tryd.results60, go_sem, ko, ks]
  · exact (fin33 HZ.out.2.1 HZ.out.1 (by omega) (by omega) (by have := HZ.out.2.2; omega) (by have := HZ.out.2.2; omega) _ _ _ _ _ _).1
  · exact (fin33 HZ.out.2.1 HZ.out.1 (by omega) (by omega) (by have := HZ.out.2.2; omega) (by have := HZ.out.2.2; omega) _ _ _ _ _ _).2
set_option maxRecDepth 100000 in
set_option maxHeartbeats 4000000 in
theorem standing_no (e : Bool) (a p st lf : Int) (w : World) (ok : okB e a p = false) : Calls Tryd.prog 60 #[.agg #[.bool e, .int .i64 a, .int .i64 p], .agg #[.int .i64 st, .int .i64 lf]] w (StE 220 w) := by
  have c1 := fun x => refuse_no e a p x ok
  clear ok
  go_enter Tryd.func60, Tryd.ntmps60
  go_wp2_with fail
  refine (c1 _).mono ?_
  rintro _ w1 ⟨z, rfl, hz, b1⟩
  have Y2 : Hid (Box w1 (w.heap.size + 1 + 1) #[.bool false, .bool false, .bool false]) := ((Box.new' _ #[.bool false, .bool false, .bool false] 115 (w.heap.size + 1 + 1) (by simp)).alloc _).below b1
  have Y3 : Hid (Box w1 (w.heap.size + 1 + 1 + 1) #[.nilFunc, .nilFunc, .nilFunc]) := (Box.new' _ #[.nilFunc, .nilFunc, .nilFunc] 128 (w.heap.size + 1 + 1 + 1) (by simp)).below b1
  have HZ : Hid (DFault w1 z 0 220 ∧ Below w.heap.size w w1 ∧ w.heap.size + 1 + 1 ≠ z ∧ w.heap.size + 1 + 1 + 1 ≠ z) := ⟨hz, below_then (bl_alloc (bl_alloc (bl_alloc ((Below.refl _ _).alloc (Nat.le_refl _) _) _) _) _) b1, fun g => by have := Y2.out.cell 0; rw [g, hz.1] at this; simp at this, fun g => by have := Y3.out.cell 0; rw [g, hz.1] at this; simp at this⟩
  clear hz b1 c1
  obtain ⟨lo, ko, fo⟩ := Y2.out
  obtain ⟨ls, ks, fs⟩ := Y3.out
  go_wp2_with fail
  refine bodyPost_ret (v := .tuple #[.agg #[.bool false, .bool false, .bool false], .agg #[.nilFunc, .nilFunc, .nilFunc], .iface 108 (.pointer (some ⟨z, 0, none⟩))]) ?_ rfl ⟨_, rfl, ?_, ?_⟩
  · simp [results, Tryd.results60, go_sem, ko, ks]
  · exact (fin33 HZ.out.2.1 HZ.out.1 (by omega) (by omega) HZ.out.2.2.1 HZ.out.2.2.2 _ _ _ _ _ _).1
  · exact (fin33 HZ.out.2.1 HZ.out.1 (by omega) (by omega) HZ.out.2.2.1 HZ.out.2.2.2 _ _ _ _ _ _).2
end Go.Proofs.YtjmjimbhoncidaaDoor

/-
  The program's Due, Heard.
-/
namespace Go.Proofs.YtjmjimbhoncidaaDoor
open Go.RowKit

set_option maxRecDepth 100000 in
set_option maxHeartbeats 2000000 in
theorem Due_e (e : Bool) (a p : Int) (st lf : Int) (cd : Int) (w : World) (hs : ∀ x, Below w.heap.size w x → Calls Tryd.prog 60 #[.agg #[.bool e, .int .i64 a, .int .i64 p], .agg #[.int .i64 st, .int .i64 lf]] x (StE cd x)) : Calls Tryd.prog 32 #[.agg #[.bool e, .int .i64 a, .int .i64 p], .agg #[.int .i64 st, .int .i64 lf]] w (fun r w' => ∃ z, r = .returned (.tuple #[.agg #[.int .i64 0, .int .i64 0], .slice none 0 0, .iface 108 (.pointer (some ⟨z, 0, none⟩))]) ∧ DFault w' z 0 cd ∧ Below w.heap.size w w') := by
  have HS : Hid (∀ x, Below w.heap.size w x → Calls Tryd.prog 60 #[.agg #[.bool e, .int .i64 a, .int .i64 p], .agg #[.int .i64 st, .int .i64 lf]] x (StE cd x)) := hs
  clear hs
  go_enter Tryd.func32, Tryd.ntmps32
  go_wp2_with fail
  refine (HS.out _ (bl_alloc (bl_alloc ((Below.refl _ _).alloc (Nat.le_refl _) _) _) _)).mono ?_
  rintro _ w1 ⟨z, rfl, hz, b1⟩
  have HB1 : Hid (Below w.heap.size w w1) := below_then (bl_alloc (bl_alloc ((Below.refl _ _).alloc (Nat.le_refl _) _) _) _) b1
  have X1_0 : Hid (Box w1 (w.heap.size) #[.bool e, .int .i64 a, .int .i64 p]) := (((Box.new' _ #[.bool e, .int .i64 a, .int .i64 p] 23 (w.heap.size) (by simp)).alloc _).alloc _).below b1
  have X1_1 : Hid (Box w1 (w.heap.size + 1) #[.int .i64 st, .int .i64 lf]) := ((Box.new' _ #[.int .i64 st, .int .i64 lf] 50 (w.heap.size + 1) (by simp)).alloc _).below b1
  have X1_2 : Hid (Box w1 (w.heap.size + 1 + 1) #[.int .i64 0, .int .i64 0]) := (Box.new' _ #[.int .i64 0, .int .i64 0] 50 (w.heap.size + 1 + 1) (by simp)).below b1
  obtain ⟨l1_0, k1_0, f1_0⟩ := X1_0.out
  obtain ⟨l1_1, k1_1, f1_1⟩ := X1_1.out
  obtain ⟨l1_2, k1_2, f1_2⟩ := X1_2.out
  have HZ : Hid (DFault w1 z 0 cd) := hz
  clear b1 hz
  go_wp2_with fail
  refine bodyPost_ret (v := .tuple #[.agg #[.int .i64 0, .int .i64 0], .slice none 0 0, .iface 108 (.pointer (some ⟨z, 0, none⟩))]) ?_ rfl ⟨z, rfl, ?_, ?_⟩
  · simp [results, Tryd.results32, go_sem, k1_2, l1_2, l1_1]
  · exact ((dff2 HB1.out HZ.out (by omega) (box_ne X1_2.out HZ.out (fun s => by simp)) _ _).1.below (bl_alloc ((Below.refl _ _).alloc (Nat.le_refl _) _) _))
  · exact bl_alloc (bl_alloc (dff2 HB1.out HZ.out (by omega) (box_ne X1_2.out HZ.out (fun s => by simp)) _ _).2 _) _
set_option maxRecDepth 100000 in
set_option maxHeartbeats 2000000 in
theorem Heard_e (e : Bool) (a p : Int) (st lf : Int) (s : ByteArray) (n : Bool) (cd : Int) (w : World) (hs : ∀ x, Below w.heap.size w x → Calls Tryd.prog 60 #[.agg #[.bool e, .int .i64 a, .int .i64 p], .agg #[.int .i64 st, .int .i64 lf]] x (StE cd x)) : Calls Tryd.prog 34 #[.agg #[.bool e, .int .i64 a, .int .i64 p], .agg #[.int .i64 st, .int .i64 lf], .string s, .bool n] w (fun r w' => ∃ z, r = .returned (.tuple #[.agg #[.int .i64 0, .int .i64 0], .slice none 0 0, .iface 108 (.pointer (some ⟨z, 0, none⟩))]) ∧ DFault w' z 0 cd ∧ Below w.heap.size w w') := by
  have HS : Hid (∀ x, Below w.heap.size w x → Calls Tryd.prog 60 #[.agg #[.bool e, .int .i64 a, .int .i64 p], .agg #[.int .i64 st, .int .i64 lf]] x (StE cd x)) := hs
  clear hs
  go_enter Tryd.func34, Tryd.ntmps34
  go_wp2_with fail
  refine (HS.out _ (bl_alloc (bl_alloc ((Below.refl _ _).alloc (Nat.le_refl _) _) _) _)).mono ?_
  rintro _ w1 ⟨z, rfl, hz, b1⟩
  have HB1 : Hid (Below w.heap.size w w1) := below_then (bl_alloc (bl_alloc ((Below.refl _ _).alloc (Nat.le_refl _) _) _) _) b1
  have X1_0 : Hid (Box w1 (w.heap.size) #[.bool e, .int .i64 a, .int .i64 p]) := (((Box.new' _ #[.bool e, .int .i64 a, .int .i64 p] 23 (w.heap.size) (by simp)).alloc _).alloc _).below b1
  have X1_1 : Hid (Box w1 (w.heap.size + 1) #[.int .i64 st, .int .i64 lf]) := ((Box.new' _ #[.int .i64 st, .int .i64 lf] 50 (w.heap.size + 1) (by simp)).alloc _).below b1
  have X1_2 : Hid (Box w1 (w.heap.size + 1 + 1) #[.int .i64 0, .int .i64 0]) := (Box.new' _ #[.int .i64 0, .int .i64 0] 50 (w.heap.size + 1 + 1) (by simp)).below b1
  obtain ⟨l1_0, k1_0, f1_0⟩ := X1_0.out
  obtain ⟨l1_1, k1_1, f1_1⟩ := X1_1.out
  obtain ⟨l1_2, k1_2, f1_2⟩ := X1_2.out
  have HZ : Hid (DFault w1 z 0 cd) := hz
  clear b1 hz
  go_wp2_with fail
  refine bodyPost_ret (v := .tuple #[.agg #[.int .i64 0, .int .i64 0], .slice none 0 0, .iface 108 (.pointer (some ⟨z, 0, none⟩))]) ?_ rfl ⟨z, rfl, ?_, ?_⟩
  · simp [results, Tryd.results34, go_sem, k1_2, l1_2, l1_1]
  · exact ((dff2 HB1.out HZ.out (by omega) (box_ne X1_2.out HZ.out (fun s => by simp)) _ _).1.below (bl_alloc ((Below.refl _ _).alloc (Nat.le_refl _) _) _))
  · exact bl_alloc (bl_alloc (dff2 HB1.out HZ.out (by omega) (box_ne X1_2.out HZ.out (fun s => by simp)) _ _).2 _) _
set_option maxRecDepth 100000 in
set_option maxHeartbeats 2000000 in
theorem Due_ok (e : Bool) (a p : Int) (st lf : Int) (q1 q2 q3 : Bool) (f h d : FuncId) (st' lf' : Int) (l : ActL) (w : World) (hs : ∀ x, Below w.heap.size w x → Calls Tryd.prog 60 #[.agg #[.bool e, .int .i64 a, .int .i64 p], .agg #[.int .i64 st, .int .i64 lf]] x fun r x' => r = .returned (.tuple #[.agg #[.bool q1, .bool q2, .bool q3], .agg #[.func (.func f) #[] #[], .func (.func h) #[] #[], .func (.func d) #[] #[]], .nilIface]) ∧ Below x.heap.size x x') (hen : ∀ (args : Array Value) (x : World), (callFunc d args).run Tryd.prog x = .ok (.enter d args) x) (hd : ∀ x, Calls Tryd.prog d #[.agg #[.int .i64 st, .int .i64 lf]] x (WQ st' lf' l x)) : Calls Tryd.prog 32 #[.agg #[.bool e, .int .i64 a, .int .i64 p], .agg #[.int .i64 st, .int .i64 lf]] w (fun r w' => ∃ po cap, r = .returned (.tuple #[.agg #[.int .i64 st', .int .i64 lf'], .slice po l.length cap, .nilIface]) ∧ ActRow w' w.heap.size (.slice po l.length cap) l ∧ Below w.heap.size w w') := by
  have HS : Hid (∀ x, Below w.heap.size w x → Calls Tryd.prog 60 #[.agg #[.bool e, .int .i64 a, .int .i64 p], .agg #[.int .i64 st, .int .i64 lf]] x fun r x' => r = .returned (.tuple #[.agg #[.bool q1, .bool q2, .bool q3], .agg #[.func (.func f) #[] #[], .func (.func h) #[] #[], .func (.func d) #[] #[]], .nilIface]) ∧ Below x.heap.size x x') := hs
  have HD : Hid (∀ x, Calls Tryd.prog d #[.agg #[.int .i64 st, .int .i64 lf]] x (WQ st' lf' l x)) := hd
  obtain ⟨m, hm⟩ : ∃ m, l.length = m := ⟨_, rfl⟩
  clear hs hd
  go_enter Tryd.func32, Tryd.ntmps32
  go_wp2_with fail
  refine (HS.out _ (bl_alloc (bl_alloc ((Below.refl _ _).alloc (Nat.le_refl _) _) _) _)).mono ?_
  rintro _ w1 ⟨rfl, b1⟩
  have HB1 : Hid (Below w.heap.size w w1) := below_then (bl_alloc (bl_alloc ((Below.refl _ _).alloc (Nat.le_refl _) _) _) _) b1
  have X1_0 : Hid (Box w1 (w.heap.size) #[.bool e, .int .i64 a, .int .i64 p]) := (((Box.new' _ #[.bool e, .int .i64 a, .int .i64 p] 23 (w.heap.size) (by simp)).alloc _).alloc _).below b1
  have X1_1 : Hid (Box w1 (w.heap.size + 1) #[.int .i64 st, .int .i64 lf]) := ((Box.new' _ #[.int .i64 st, .int .i64 lf] 50 (w.heap.size + 1) (by simp)).alloc _).below b1
  have X1_2 : Hid (Box w1 (w.heap.size + 1 + 1) #[.int .i64 0, .int .i64 0]) := (Box.new' _ #[.int .i64 0, .int .i64 0] 50 (w.heap.size + 1 + 1) (by simp)).below b1
  obtain ⟨l1_0, k1_0, f1_0⟩ := X1_0.out
  obtain ⟨l1_1, k1_1, f1_1⟩ := X1_1.out
  obtain ⟨l1_2, k1_2, f1_2⟩ := X1_2.out
  have HA : Hid (Below w.heap.size w ((w1.alloc (.cells #[.bool q1, .bool q2, .bool q3] 115)).alloc (.cells #[.func (.func f) #[] #[], .func (.func h) #[] #[], .func (.func d) #[] #[]] 128))) := bl_alloc (bl_alloc HB1.out _) _
  have Y0 : Hid (Box ((w1.alloc (.cells #[.bool q1, .bool q2, .bool q3] 115)).alloc (.cells #[.func (.func f) #[] #[], .func (.func h) #[] #[], .func (.func d) #[] #[]] 128)) (w.heap.size) #[.bool e, .int .i64 a, .int .i64 p]) := (X1_0.out.alloc _).alloc _
  have Y1 : Hid (Box ((w1.alloc (.cells #[.bool q1, .bool q2, .bool q3] 115)).alloc (.cells #[.func (.func f) #[] #[], .func (.func h) #[] #[], .func (.func d) #[] #[]] 128)) (w.heap.size + 1) #[.int .i64 st, .int .i64 lf]) := (X1_1.out.alloc _).alloc _
  have Y2 : Hid (Box ((w1.alloc (.cells #[.bool q1, .bool q2, .bool q3] 115)).alloc (.cells #[.func (.func f) #[] #[], .func (.func h) #[] #[], .func (.func d) #[] #[]] 128)) (w.heap.size + 1 + 1) #[.int .i64 0, .int .i64 0]) := (X1_2.out.alloc _).alloc _
  have Yo : Hid (Box ((w1.alloc (.cells #[.bool q1, .bool q2, .bool q3] 115)).alloc (.cells #[.func (.func f) #[] #[], .func (.func h) #[] #[], .func (.func d) #[] #[]] 128)) w1.heap.size #[.bool q1, .bool q2, .bool q3]) := (Box.new _ _ _).alloc _
  have Ys : Hid (Box ((w1.alloc (.cells #[.bool q1, .bool q2, .bool q3] 115)).alloc (.cells #[.func (.func f) #[] #[], .func (.func h) #[] #[], .func (.func d) #[] #[]] 128)) (w1.heap.size + 1) #[.func (.func f) #[] #[], .func (.func h) #[] #[], .func (.func d) #[] #[]]) := Box.new' _ _ _ (w1.heap.size + 1) (by simp)
  have HSz : Hid (w.heap.size + 1 + 1 + 1 ≤ w1.heap.size) := l1_2
  have HVs : Hid (((w1.alloc (.cells #[.bool q1, .bool q2, .bool q3] 115)).alloc (.cells #[.func (.func f) #[] #[], .func (.func h) #[] #[], .func (.func d) #[] #[]] 128)).heap.size = w1.heap.size + 2) := by unfold Hid; simp
  clear l1_0 k1_0 f1_0 l1_1 k1_1 f1_1 l1_2 k1_2 f1_2 b1 X1_0 X1_1 X1_2 HB1 HS
  obtain ⟨V, hW⟩ : ∃ V, ((w1.alloc (.cells #[.bool q1, .bool q2, .bool q3] 115)).alloc (.cells #[.func (.func f) #[] #[], .func (.func h) #[] #[], .func (.func d) #[] #[]] 128)) = V := ⟨_, rfl⟩
  rw [hW] at HA Y0 Y1 Y2 Yo Ys HVs
  obtain ⟨l0, k0, f0⟩ := Y0.out
  obtain ⟨l1, k1, f1⟩ := Y1.out
  obtain ⟨l2, k2, f2⟩ := Y2.out
  obtain ⟨lo, ko, fo⟩ := Yo.out
  obtain ⟨ls, ks, fs⟩ := Ys.out
  go_wp2_with fail
  refine (HD.out _).mono ?_
  rintro _ w2 ⟨po, cap, rfl, r2, b2⟩
  rw [hm] at r2 ⊢
  have HB : Hid (Below w.heap.size w w2) := below_then HA.out b2
  have Z2 : Hid (Box w2 (w.heap.size + 1 + 1) #[.int .i64 0, .int .i64 0]) := Y2.out.below b2
  have HR : Hid (ActRow w2 V.heap.size (.slice po m cap) l) := r2
  clear l0 k0 f0 l1 k1 f1 l2 k2 f2 lo ko fo ls ks fs
  clear r2 b2 HD HA Y0 Y1 Y2 Yo Ys hW
  obtain ⟨l2, k2, f2⟩ := Z2.out
  go_wp2_with fail
  refine bodyPost_ret (v := .tuple #[.agg #[.int .i64 st', .int .i64 lf'], .slice po m cap, .nilIface]) ?_ rfl ⟨po, cap, by rw [hm], ?_, ?_⟩
  · simp [results, Tryd.results32, go_sem, k2, l2]
  · rw [hm]; exact (fin2 HB.out HR.out (by omega) (by have := HSz.out; have := HVs.out; omega)).1.below ((Below.refl _ _).alloc (Nat.le_refl _) _)
  · exact bl_alloc (fin2 HB.out HR.out (by omega) (by have := HSz.out; have := HVs.out; omega)).2 _
set_option maxRecDepth 100000 in
set_option maxHeartbeats 4000000 in
theorem Heard_ok (e : Bool) (a p : Int) (st lf : Int) (s : ByteArray) (n : Bool) (q1 q2 q3 : Bool) (f h d : FuncId) (st' lf' : Int) (l : ActL) (w : World) (hV : PVc w) (hs : ∀ x, Below w.heap.size w x → Calls Tryd.prog 60 #[.agg #[.bool e, .int .i64 a, .int .i64 p], .agg #[.int .i64 st, .int .i64 lf]] x fun r x' => r = .returned (.tuple #[.agg #[.bool q1, .bool q2, .bool q3], .agg #[.func (.func f) #[] #[], .func (.func h) #[] #[], .func (.func d) #[] #[]], .nilIface]) ∧ Below x.heap.size x x') (hen : ∀ (args : Array Value) (x : World), (callFunc h args).run Tryd.prog x = .ok (.enter h args) x) (hd : ∀ x, Calls Tryd.prog h #[.agg #[.bool q1, .bool q2, .bool q3], .agg #[.int .i64 st, .int .i64 lf], .agg #[.string s, .bool n]] x (WQ st' lf' l x)) (hm1 : sentB e a p s = true) : Calls Tryd.prog 34 #[.agg #[.bool e, .int .i64 a, .int .i64 p], .agg #[.int .i64 st, .int .i64 lf], .string s, .bool n] w (fun r w' => ∃ po cap, r = .returned (.tuple #[.agg #[.int .i64 st', .int .i64 lf'], .slice po l.length cap, .nilIface]) ∧ ActRow w' w.heap.size (.slice po l.length cap) l ∧ Below w.heap.size w w') := by
  have HV : Hid (PVc w) := hV
  clear hV
  have HS : Hid (∀ x, Below w.heap.size w x → Calls Tryd.prog 60 #[.agg #[.bool e, .int .i64 a, .int .i64 p], .agg #[.int .i64 st, .int .i64 lf]] x fun r x' => r = .returned (.tuple #[.agg #[.bool q1, .bool q2, .bool q3], .agg #[.func (.func f) #[] #[], .func (.func h) #[] #[], .func (.func d) #[] #[]], .nilIface]) ∧ Below x.heap.size x x') := hs
  have HD : Hid (∀ x, Calls Tryd.prog h #[.agg #[.bool q1, .bool q2, .bool q3], .agg #[.int .i64 st, .int .i64 lf], .agg #[.string s, .bool n]] x (WQ st' lf' l x)) := hd
  obtain ⟨m, hm⟩ : ∃ m, l.length = m := ⟨_, rfl⟩
  clear hs hd
  have cm : Hid (∀ x, PVc x → Calls Tryd.prog 47 #[.agg #[.bool e, .int .i64 a, .int .i64 p], .string s] x fun r x' => r = .returned (.bool true) ∧ Below x.heap.size x x') := fun x hx => by have := may_any e a p s x hx; rw [hm1] at this; exact this
  clear hm1
  go_enter Tryd.func34, Tryd.ntmps34
  go_wp2_with fail
  refine (HS.out _ (bl_alloc (bl_alloc ((Below.refl _ _).alloc (Nat.le_refl _) _) _) _)).mono ?_
  rintro _ w1 ⟨rfl, b1⟩
  have HB1 : Hid (Below w.heap.size w w1) := below_then (bl_alloc (bl_alloc ((Below.refl _ _).alloc (Nat.le_refl _) _) _) _) b1
  have X1_0 : Hid (Box w1 (w.heap.size) #[.bool e, .int .i64 a, .int .i64 p]) := (((Box.new' _ #[.bool e, .int .i64 a, .int .i64 p] 23 (w.heap.size) (by simp)).alloc _).alloc _).below b1
  have X1_1 : Hid (Box w1 (w.heap.size + 1) #[.int .i64 st, .int .i64 lf]) := ((Box.new' _ #[.int .i64 st, .int .i64 lf] 50 (w.heap.size + 1) (by simp)).alloc _).below b1
  have X1_2 : Hid (Box w1 (w.heap.size + 1 + 1) #[.int .i64 0, .int .i64 0]) := (Box.new' _ #[.int .i64 0, .int .i64 0] 50 (w.heap.size + 1 + 1) (by simp)).below b1
  obtain ⟨l1_0, k1_0, f1_0⟩ := X1_0.out
  obtain ⟨l1_1, k1_1, f1_1⟩ := X1_1.out
  obtain ⟨l1_2, k1_2, f1_2⟩ := X1_2.out
  have HA : Hid (Below w.heap.size w ((w1.alloc (.cells #[.bool q1, .bool q2, .bool q3] 115)).alloc (.cells #[.func (.func f) #[] #[], .func (.func h) #[] #[], .func (.func d) #[] #[]] 128))) := bl_alloc (bl_alloc HB1.out _) _
  have Y0 : Hid (Box ((w1.alloc (.cells #[.bool q1, .bool q2, .bool q3] 115)).alloc (.cells #[.func (.func f) #[] #[], .func (.func h) #[] #[], .func (.func d) #[] #[]] 128)) (w.heap.size) #[.bool e, .int .i64 a, .int .i64 p]) := (X1_0.out.alloc _).alloc _
  have Y1 : Hid (Box ((w1.alloc (.cells #[.bool q1, .bool q2, .bool q3] 115)).alloc (.cells #[.func (.func f) #[] #[], .func (.func h) #[] #[], .func (.func d) #[] #[]] 128)) (w.heap.size + 1) #[.int .i64 st, .int .i64 lf]) := (X1_1.out.alloc _).alloc _
  have Y2 : Hid (Box ((w1.alloc (.cells #[.bool q1, .bool q2, .bool q3] 115)).alloc (.cells #[.func (.func f) #[] #[], .func (.func h) #[] #[], .func (.func d) #[] #[]] 128)) (w.heap.size + 1 + 1) #[.int .i64 0, .int .i64 0]) := (X1_2.out.alloc _).alloc _
  have Yo : Hid (Box ((w1.alloc (.cells #[.bool q1, .bool q2, .bool q3] 115)).alloc (.cells #[.func (.func f) #[] #[], .func (.func h) #[] #[], .func (.func d) #[] #[]] 128)) w1.heap.size #[.bool q1, .bool q2, .bool q3]) := (Box.new _ _ _).alloc _
  have Ys : Hid (Box ((w1.alloc (.cells #[.bool q1, .bool q2, .bool q3] 115)).alloc (.cells #[.func (.func f) #[] #[], .func (.func h) #[] #[], .func (.func d) #[] #[]] 128)) (w1.heap.size + 1) #[.func (.func f) #[] #[], .func (.func h) #[] #[], .func (.func d) #[] #[]]) := Box.new' _ _ _ (w1.heap.size + 1) (by simp)
  have HSz : Hid (w.heap.size + 1 + 1 + 1 ≤ w1.heap.size) := l1_2
  have HVs : Hid (((w1.alloc (.cells #[.bool q1, .bool q2, .bool q3] 115)).alloc (.cells #[.func (.func f) #[] #[], .func (.func h) #[] #[], .func (.func d) #[] #[]] 128)).heap.size = w1.heap.size + 2) := by unfold Hid; simp
  clear l1_0 k1_0 f1_0 l1_1 k1_1 f1_1 l1_2 k1_2 f1_2 b1 X1_0 X1_1 X1_2 HB1 HS
  obtain ⟨V, hW⟩ : ∃ V, ((w1.alloc (.cells #[.bool q1, .bool q2, .bool q3] 115)).alloc (.cells #[.func (.func f) #[] #[], .func (.func h) #[] #[], .func (.func d) #[] #[]] 128)) = V := ⟨_, rfl⟩
  rw [hW] at HA Y0 Y1 Y2 Yo Ys HVs
  obtain ⟨l0, k0, f0⟩ := Y0.out
  obtain ⟨l1, k1, f1⟩ := Y1.out
  obtain ⟨l2, k2, f2⟩ := Y2.out
  obtain ⟨lo, ko, fo⟩ := Yo.out
  obtain ⟨ls, ks, fs⟩ := Ys.out
  go_wp2_with fail
  refine (cm.out _ (HV.out.below HA.out)).mono ?_
  rintro _ w2 ⟨rfl, b2⟩
  have HA2 : Hid (Below w.heap.size w w2 ∧ V.heap.size ≤ w2.heap.size) := ⟨below_then HA.out b2, b2.size⟩
  have U0 : Hid (Box w2 (w.heap.size) #[.bool e, .int .i64 a, .int .i64 p]) := Y0.out.below b2
  have U1 : Hid (Box w2 (w.heap.size + 1) #[.int .i64 st, .int .i64 lf]) := Y1.out.below b2
  have U2 : Hid (Box w2 (w.heap.size + 1 + 1) #[.int .i64 0, .int .i64 0]) := Y2.out.below b2
  have Uo : Hid (Box w2 (w1.heap.size) #[.bool q1, .bool q2, .bool q3]) := Yo.out.below b2
  have Us : Hid (Box w2 (w1.heap.size + 1) #[.func (.func f) #[] #[], .func (.func h) #[] #[], .func (.func d) #[] #[]]) := Ys.out.below b2
  clear l0 k0 f0 l1 k1 f1 l2 k2 f2 lo ko fo ls ks fs
  clear b2 cm HA Y0 Y1 Y2 Yo Ys hW HV
  obtain ⟨l0, k0, f0⟩ := U0.out
  obtain ⟨l1, k1, f1⟩ := U1.out
  obtain ⟨l2, k2, f2⟩ := U2.out
  obtain ⟨lo, ko, fo⟩ := Uo.out
  obtain ⟨ls, ks, fs⟩ := Us.out
  go_wp2_with fail
  refine (HD.out _).mono ?_
  rintro _ w3 ⟨po, cap, rfl, r3, b3⟩
  rw [hm] at r3 ⊢
  have HB : Hid (Below w.heap.size w w3) := below_then HA2.out.1 b3
  have Z2 : Hid (Box w3 (w.heap.size + 1 + 1) #[.int .i64 0, .int .i64 0]) := U2.out.below b3
  have HR : Hid (ActRow w3 V.heap.size (.slice po m cap) l) := r3.mono HA2.out.2
  clear l0 k0 f0 l1 k1 f1 l2 k2 f2 lo ko fo ls ks fs
  clear r3 b3 HD HA2 U0 U1 U2 Uo Us
  obtain ⟨l2, k2, f2⟩ := Z2.out
  go_wp2_with fail
  refine bodyPost_ret (v := .tuple #[.agg #[.int .i64 st', .int .i64 lf'], .slice po m cap, .nilIface]) ?_ rfl ⟨po, cap, by rw [hm], ?_, ?_⟩
  · simp [results, Tryd.results34, go_sem, k2, l2]
  · rw [hm]; exact (fin2 HB.out HR.out (by omega) (by have := HSz.out; have := HVs.out; omega)).1.below ((Below.refl _ _).alloc (Nat.le_refl _) _)
  · exact bl_alloc (fin2 HB.out HR.out (by omega) (by have := HSz.out; have := HVs.out; omega)).2 _
set_option maxRecDepth 100000 in
set_option maxHeartbeats 4000000 in
theorem Heard_s (e : Bool) (a p : Int) (st lf : Int) (s : ByteArray) (n : Bool) (q1 q2 q3 : Bool) (f h d : FuncId) (w : World) (hV : PVc w) (hs : ∀ x, Below w.heap.size w x → Calls Tryd.prog 60 #[.agg #[.bool e, .int .i64 a, .int .i64 p], .agg #[.int .i64 st, .int .i64 lf]] x fun r x' => r = .returned (.tuple #[.agg #[.bool q1, .bool q2, .bool q3], .agg #[.func (.func f) #[] #[], .func (.func h) #[] #[], .func (.func d) #[] #[]], .nilIface]) ∧ Below x.heap.size x x') (hm1 : sentB e a p s = false) : Calls Tryd.prog 34 #[.agg #[.bool e, .int .i64 a, .int .i64 p], .agg #[.int .i64 st, .int .i64 lf], .string s, .bool n] w (fun r w' => ∃ po cap, r = .returned (.tuple #[.agg #[.int .i64 st, .int .i64 lf], .slice po 1 cap, .nilIface]) ∧ ActRow w' w.heap.size (.slice po 1 cap) [(6, nT)] ∧ Below w.heap.size w w') := by
  have HV : Hid (PVc w) := hV
  clear hV
  have HS : Hid (∀ x, Below w.heap.size w x → Calls Tryd.prog 60 #[.agg #[.bool e, .int .i64 a, .int .i64 p], .agg #[.int .i64 st, .int .i64 lf]] x fun r x' => r = .returned (.tuple #[.agg #[.bool q1, .bool q2, .bool q3], .agg #[.func (.func f) #[] #[], .func (.func h) #[] #[], .func (.func d) #[] #[]], .nilIface]) ∧ Below x.heap.size x x') := hs
  clear hs
  have cm : Hid (∀ x, PVc x → Calls Tryd.prog 47 #[.agg #[.bool e, .int .i64 a, .int .i64 p], .string s] x fun r x' => r = .returned (.bool false) ∧ Below x.heap.size x x') := fun x hx => by have := may_any e a p s x hx; rw [hm1] at this; exact this
  clear hm1
  go_enter Tryd.func34, Tryd.ntmps34
  go_wp2_with fail
  refine (HS.out _ (bl_alloc (bl_alloc ((Below.refl _ _).alloc (Nat.le_refl _) _) _) _)).mono ?_
  rintro _ w1 ⟨rfl, b1⟩
  have HB1 : Hid (Below w.heap.size w w1) := below_then (bl_alloc (bl_alloc ((Below.refl _ _).alloc (Nat.le_refl _) _) _) _) b1
  have X1_0 : Hid (Box w1 (w.heap.size) #[.bool e, .int .i64 a, .int .i64 p]) := (((Box.new' _ #[.bool e, .int .i64 a, .int .i64 p] 23 (w.heap.size) (by simp)).alloc _).alloc _).below b1
  have X1_1 : Hid (Box w1 (w.heap.size + 1) #[.int .i64 st, .int .i64 lf]) := ((Box.new' _ #[.int .i64 st, .int .i64 lf] 50 (w.heap.size + 1) (by simp)).alloc _).below b1
  have X1_2 : Hid (Box w1 (w.heap.size + 1 + 1) #[.int .i64 0, .int .i64 0]) := (Box.new' _ #[.int .i64 0, .int .i64 0] 50 (w.heap.size + 1 + 1) (by simp)).below b1
  obtain ⟨l1_0, k1_0, f1_0⟩ := X1_0.out
  obtain ⟨l1_1, k1_1, f1_1⟩ := X1_1.out
  obtain ⟨l1_2, k1_2, f1_2⟩ := X1_2.out
  have HA : Hid (Below w.heap.size w ((w1.alloc (.cells #[.bool q1, .bool q2, .bool q3] 115)).alloc (.cells #[.func (.func f) #[] #[], .func (.func h) #[] #[], .func (.func d) #[] #[]] 128))) := bl_alloc (bl_alloc HB1.out _) _
  have Y0 : Hid (Box ((w1.alloc (.cells #[.bool q1, .bool q2, .bool q3] 115)).alloc (.cells #[.func (.func f) #[] #[], .func (.func h) #[] #[], .func (.func d) #[] #[]] 128)) (w.heap.size) #[.bool e, .int .i64 a, .int .i64 p]) := (X1_0.out.alloc _).alloc _
  have Y1 : Hid (Box ((w1.alloc (.cells #[.bool q1, .bool q2, .bool q3] 115)).alloc (.cells #[.func (.func f) #[] #[], .func (.func h) #[] #[], .func (.func d) #[] #[]] 128)) (w.heap.size + 1) #[.int .i64 st, .int .i64 lf]) := (X1_1.out.alloc _).alloc _
  have Y2 : Hid (Box ((w1.alloc (.cells #[.bool q1, .bool q2, .bool q3] 115)).alloc (.cells #[.func (.func f) #[] #[], .func (.func h) #[] #[], .func (.func d) #[] #[]] 128)) (w.heap.size + 1 + 1) #[.int .i64 0, .int .i64 0]) := (X1_2.out.alloc _).alloc _
  have Yo : Hid (Box ((w1.alloc (.cells #[.bool q1, .bool q2, .bool q3] 115)).alloc (.cells #[.func (.func f) #[] #[], .func (.func h) #[] #[], .func (.func d) #[] #[]] 128)) w1.heap.size #[.bool q1, .bool q2, .bool q3]) := (Box.new _ _ _).alloc _
  have Ys : Hid (Box ((w1.alloc (.cells #[.bool q1, .bool q2, .bool q3] 115)).alloc (.cells #[.func (.func f) #[] #[], .func (.func h) #[] #[], .func (.func d) #[] #[]] 128)) (w1.heap.size + 1) #[.func (.func f) #[] #[], .func (.func h) #[] #[], .func (.func d) #[] #[]]) := Box.new' _ _ _ (w1.heap.size + 1) (by simp)
  have HSz : Hid (w.heap.size + 1 + 1 + 1 ≤ w1.heap.size) := l1_2
  have HVs : Hid (((w1.alloc (.cells #[.bool q1, .bool q2, .bool q3] 115)).alloc (.cells #[.func (.func f) #[] #[], .func (.func h) #[] #[], .func (.func d) #[] #[]] 128)).heap.size = w1.heap.size + 2) := by unfold Hid; simp
  clear l1_0 k1_0 f1_0 l1_1 k1_1 f1_1 l1_2 k1_2 f1_2 b1 X1_0 X1_1 X1_2 HB1 HS
  obtain ⟨V, hW⟩ : ∃ V, ((w1.alloc (.cells #[.bool q1, .bool q2, .bool q3] 115)).alloc (.cells #[.func (.func f) #[] #[], .func (.func h) #[] #[], .func (.func d) #[] #[]] 128)) = V := ⟨_, rfl⟩
  rw [hW] at HA Y0 Y1 Y2 Yo Ys HVs
  obtain ⟨l0, k0, f0⟩ := Y0.out
  obtain ⟨l1, k1, f1⟩ := Y1.out
  obtain ⟨l2, k2, f2⟩ := Y2.out
  obtain ⟨lo, ko, fo⟩ := Yo.out
  obtain ⟨ls, ks, fs⟩ := Ys.out
  go_wp2_with fail
  refine (cm.out _ (HV.out.below HA.out)).mono ?_
  rintro _ w2 ⟨rfl, b2⟩
  have HA2 : Hid (Below w.heap.size w w2 ∧ V.heap.size ≤ w2.heap.size) := ⟨below_then HA.out b2, b2.size⟩
  have U1 : Hid (Box w2 (w.heap.size + 1) #[.int .i64 st, .int .i64 lf]) := Y1.out.below b2
  have U2 : Hid (Box w2 (w.heap.size + 1 + 1) #[.int .i64 0, .int .i64 0]) := Y2.out.below b2
  clear l0 k0 f0 l1 k1 f1 l2 k2 f2 lo ko fo ls ks fs
  clear b2 cm HA Y0 Y1 Y2 Yo Ys hW HV
  obtain ⟨l1, k1, f1⟩ := U1.out
  obtain ⟨l2, k2, f2⟩ := U2.out
  go_upto_region 5 with fail
  go_region_law (go_simp; go_at_call 62; refine (passOver_any _).mono ?_; rintro _ w5 ⟨b, rfl, r5, b5⟩; have hb5 : Hid (Below w2.heap.size w2 w5) := (by first | exact b5 | exact below_then (Below.drew (Below.refl _ _)) b5); have HR5 : Hid (ActRow w5 w2.heap.size (.slice (some ⟨b, 0, none⟩) 1 1) [(6, nT)]) := r5; obtain ⟨l15, k15, f15⟩ := U1.out.below hb5.out; obtain ⟨l25, k25, f25⟩ := U2.out.below hb5.out; clear r5 b5; go_wp2_with fail)
  all_goals
    go_wp2_with fail
    refine bodyPost_ret (v := .tuple #[.agg #[.int .i64 st, .int .i64 lf], .slice (some ⟨b, 0, none⟩) 1 1, .nilIface]) ?_ rfl ⟨_, _, rfl, ?_, ?_⟩
    · simp [results, Tryd.results34, go_sem, k25]
    · exact (fin2 (below_then HA2.out.1 hb5.out) HR5.out (by omega) (by have := HSz.out; have := HVs.out; have := HA2.out.2; omega)).1
    · exact (fin2 (below_then HA2.out.1 hb5.out) HR5.out (by omega) (by have := HSz.out; have := HVs.out; have := HA2.out.2; omega)).2
end Go.Proofs.YtjmjimbhoncidaaDoor

/-
  The program's standing, whole; Due, Heard as the document says them.
-/
namespace Go.Proofs.YtjmjimbhoncidaaDoor
open Go.RowKit

theorem en_1 : Enters Tryd.prog 66 := enters_of Tryd.func66 (by kernel_rfl) rfl
theorem en_2 : Enters Tryd.prog 67 := enters_of Tryd.func67 (by kernel_rfl) rfl
theorem en_3 : Enters Tryd.prog 70 := enters_of Tryd.func70 (by kernel_rfl) rfl
theorem en_4 : Enters Tryd.prog 72 := enters_of Tryd.func72 (by kernel_rfl) rfl
theorem en_5 : Enters Tryd.prog 76 := enters_of Tryd.func76 (by kernel_rfl) rfl
theorem en_ahead : Enters Tryd.prog 68 := enters_of Tryd.func68 (by kernel_rfl) rfl
theorem en_behind : Enters Tryd.prog 71 := enters_of Tryd.func71 (by kernel_rfl) rfl
theorem en_again : Enters Tryd.prog 69 := enters_of Tryd.func69 (by kernel_rfl) rfl
theorem en_closed : Enters Tryd.prog 73 := enters_of Tryd.func73 (by kernel_rfl) rfl
theorem en_strange : Enters Tryd.prog 74 := enters_of Tryd.func74 (by kernel_rfl) rfl
theorem en_stay : Enters Tryd.prog 75 := enters_of Tryd.func75 (by kernel_rfl) rfl
/-- standing that answers a state. -/
def StOk (e : Bool) (a p st lf : Int) (f h d : FuncId) (w : World) : Prop := ∀ x, Below w.heap.size w x → Calls Tryd.prog 60 #[.agg #[.bool e, .int .i64 a, .int .i64 p], .agg #[.int .i64 st, .int .i64 lf]] x fun r x' => r = .returned (.tuple #[.agg #[.bool (caB e a), .bool (aaB e p), .bool (earB e a p (caB e a))], .agg #[.func (.func f) #[] #[], .func (.func h) #[] #[], .func (.func d) #[] #[]], .nilIface]) ∧ Below x.heap.size x x'
def StNo (e : Bool) (a p st lf cd : Int) (w : World) : Prop := ∀ x, Below w.heap.size w x → Calls Tryd.prog 60 #[.agg #[.bool e, .int .i64 a, .int .i64 p], .agg #[.int .i64 st, .int .i64 lf]] x (StE cd x)
section
variable {e : Bool} {a p lf : Int} {w : World} (hV : PVc w) (ok : okB e a p = true) (lk : decide (0 ≤ lf ∧ lf ≤ 16) = true)
include hV ok lk
theorem st_1 (h : caB e a = true) : StOk e a p 1 lf 67 68 69 w := fun x hx => standing_at e a p 1 lf _ _ _ true x (hV.below hx) ok (by decide) (by decide) lk idx_1 en_2 (fun y => by have := pfit_1 (caB e a) (aaB e p) (earB e a p (caB e a)) y; rw [h] at this ⊢; exact this)
theorem no_1 (h : caB e a = false) : StNo e a p 1 lf 222 w := fun x hx => standing_at e a p 1 lf _ _ _ false x (hV.below hx) ok (by decide) (by decide) lk idx_1 en_2 (fun y => by have := pfit_1 (caB e a) (aaB e p) (earB e a p (caB e a)) y; rw [h] at this ⊢; exact this)
theorem st_2 (h : aaB e p = true) : StOk e a p 2 lf 70 71 69 w := fun x hx => standing_at e a p 2 lf _ _ _ true x (hV.below hx) ok (by decide) (by decide) lk idx_2 en_3 (fun y => by have := pfit_2 (caB e a) (aaB e p) (earB e a p (caB e a)) y; rw [h] at this ⊢; exact this)
theorem no_2 (h : aaB e p = false) : StNo e a p 2 lf 222 w := fun x hx => standing_at e a p 2 lf _ _ _ false x (hV.below hx) ok (by decide) (by decide) lk idx_2 en_3 (fun y => by have := pfit_2 (caB e a) (aaB e p) (earB e a p (caB e a)) y; rw [h] at this ⊢; exact this)
theorem st_3 (h : earB e a p (caB e a) = true) : StOk e a p 3 lf 72 71 73 w := fun x hx => standing_at e a p 3 lf _ _ _ true x (hV.below hx) ok (by decide) (by decide) lk idx_3 en_4 (fun y => by have := pfit_3 (caB e a) (aaB e p) (earB e a p (caB e a)) y; rw [h] at this ⊢; exact this)
theorem no_3 (h : earB e a p (caB e a) = false) : StNo e a p 3 lf 222 w := fun x hx => standing_at e a p 3 lf _ _ _ false x (hV.below hx) ok (by decide) (by decide) lk idx_3 en_4 (fun y => by have := pfit_3 (caB e a) (aaB e p) (earB e a p (caB e a)) y; rw [h] at this ⊢; exact this)
theorem st_4 : StOk e a p 4 lf 66 74 75 w := fun x hx => standing_at e a p 4 lf _ _ _ true x (hV.below hx) ok (by decide) (by decide) lk idx_4 en_1 (fun y => pfit_4 _ _ _ y)
theorem st_5 : StOk e a p 5 lf 66 74 75 w := fun x hx => standing_at e a p 5 lf _ _ _ true x (hV.below hx) ok (by decide) (by decide) lk idx_5 en_1 (fun y => pfit_4 _ _ _ y)
theorem st_6 (h : (caB e a || aaB e p) = true) : StOk e a p 6 lf 76 74 75 w := fun x hx => standing_at e a p 6 lf _ _ _ true x (hV.below hx) ok (by decide) (by decide) lk idx_6 en_5 (fun y => by have := pfit_6 (caB e a) (aaB e p) (earB e a p (caB e a)) y; rw [h] at this; exact this)
theorem no_6 (h : (caB e a || aaB e p) = false) : StNo e a p 6 lf 222 w := fun x hx => standing_at e a p 6 lf _ _ _ false x (hV.below hx) ok (by decide) (by decide) lk idx_6 en_5 (fun y => by have := pfit_6 (caB e a) (aaB e p) (earB e a p (caB e a)) y; rw [h] at this; exact this)
end
/-- A want that does not fit. -/
theorem st_bad {e : Bool} {a p st lf : Int} {w : World} (hV : PVc w) (ok : okB e a p = true) (hf : fitB e a p st lf = false) : StNo e a p st lf 222 w := by
  by_cases s1 : st < 1
  · exact fun x hx => standing_lo e a p st lf x (hV.below hx) ok s1
  by_cases s6 : st > 6
  · exact fun x hx => standing_hi e a p st lf x (hV.below hx) ok s1 s6
  cases lk : decide (0 ≤ lf ∧ lf ≤ 16) with
  | false => exact fun x hx => standing_lf e a p st lf x (hV.below hx) ok s1 s6 lk
  | true =>
    have lk' : 0 ≤ lf ∧ lf ≤ 16 := of_decide_eq_true lk
    unfold fitB at hf
    rw [show decide (1 ≤ st ∧ st ≤ 6 ∧ 0 ≤ lf ∧ lf ≤ 16) = true from decide_eq_true (by omega), Bool.true_and] at hf
    rcases (by omega : st = 1 ∨ st = 2 ∨ st = 3 ∨ st = 4 ∨ st = 5 ∨ st = 6) with rfl | rfl | rfl | rfl | rfl | rfl
    · exact no_1 hV ok lk (by simpa using hf)
    · exact no_2 hV ok lk (by simpa using hf)
    · exact no_3 hV ok lk (by simpa using hf)
    · simp at hf
    · simp at hf
    · exact no_6 hV ok lk (by simpa using hf)
theorem fit_of {e : Bool} {a p st lf : Int} (hf : fitB e a p st lf = true) : (1 ≤ st ∧ st ≤ 6 ∧ 0 ≤ lf ∧ lf ≤ 16) ∧ (if st = 1 then caB e a else if st = 2 then aaB e p else if st = 3 then earB e a p (caB e a) else if st = 6 then caB e a || aaB e p else true) = true := by
  unfold fitB at hf
  rw [Bool.and_eq_true] at hf
  exact ⟨of_decide_eq_true hf.1, hf.2⟩
theorem ev_ok (w : World) (a : Int) : Ev w .nilIface a 0 := Or.inl ⟨rfl, rfl⟩
theorem ev_no {w : World} {z : Nat} {a c : Int} (h : DFault w z a c) (hc : c ≠ 0) : Ev w (.iface 108 (.pointer (some ⟨z, 0, none⟩))) a c := Or.inr ⟨hc, z, rfl, h⟩
/-- An answer of acts, as the law asks it. -/
theorem pans {st lf : Int} {l : ActL} {w : World} {r : Ending} {w' : World} {n : Nat} (hn : l.length = n) (h : ∃ po cap, r = .returned (.tuple #[.agg #[.int .i64 st, .int .i64 lf], .slice po n cap, .nilIface]) ∧ ActRow w' w.heap.size (.slice po n cap) l ∧ Below w.heap.size w w') : PAnsQ ⟨st, lf, l, 0, 0⟩ w r w' := by
  subst hn
  obtain ⟨po, cap, h1, h2, h3⟩ := h
  exact ⟨_, _, h1, h2, ev_ok _ _, h3⟩
theorem pansE {w : World} {r : Ending} {w' : World} {at_ cd : Int} (hc : cd ≠ 0) (h : ∃ z, r = .returned (.tuple #[.agg #[.int .i64 0, .int .i64 0], .slice none 0 0, .iface 108 (.pointer (some ⟨z, 0, none⟩))]) ∧ DFault w' z at_ cd ∧ Below w.heap.size w w') : PAnsQ ⟨0, 0, [], at_, cd⟩ w r w' := by
  obtain ⟨z, h1, h2, h3⟩ := h
  exact ⟨_, _, h1, ActRow.nil _ _, ev_no h2 hc, h3⟩
theorem due_ok (e : Bool) (a p st lf : Int) (w : World) (hV : PVc w) : Calls Tryd.prog 32 #[.agg #[.bool e, .int .i64 a, .int .i64 p], .agg #[.int .i64 st, .int .i64 lf]] w (PAnsQ (dueS e a p st lf) w) := by
  unfold dueS
  cases ok : okB e a p with
  | false =>
    rw [if_pos rfl]
    exact (Due_e e a p st lf 220 w (fun x _ => standing_no e a p st lf x ok)).mono fun _ _ h => pansE (by decide) h
  | true =>
    rw [if_neg (by simp)]
    cases hf : fitB e a p st lf with
    | false =>
      rw [if_pos rfl]
      exact (Due_e e a p st lf 222 w (st_bad hV ok hf)).mono fun _ _ h => pansE (by decide) h
    | true =>
      rw [if_neg (by simp)]
      obtain ⟨⟨g1, g2, g3, g4⟩, hq⟩ := fit_of hf
      have lk : decide (0 ≤ lf ∧ lf ≤ 16) = true := decide_eq_true ⟨g3, g4⟩
      rcases (by omega : st = 1 ∨ st = 2 ∨ st = 3 ∨ st = 4 ∨ st = 5 ∨ st = 6) with rfl | rfl | rfl | rfl | rfl | rfl
      · rw [if_neg (by decide), if_neg (by decide)]
        by_cases h0 : 0 < lf
        · rw [if_pos h0]; exact (Due_ok e a p 1 lf _ _ _ _ _ _ 1 (lf - 1) [(1, nT), (2, nT)] w (st_1 hV ok lk (by simpa using hq)) en_again (fun x => again_1 1 lf x h0 g4)).mono fun _ _ h => pans rfl h
        · rw [if_neg h0]; obtain rfl : lf = 0 := by omega
          exact (Due_ok e a p 1 0 _ _ _ _ _ _ 6 0 [(4, nT)] w (st_1 hV ok lk (by simpa using hq)) en_again (fun x => again_0 1 x)).mono fun _ _ h => pans rfl h
      · rw [if_neg (by decide), if_neg (by decide)]
        by_cases h0 : 0 < lf
        · rw [if_pos h0]; exact (Due_ok e a p 2 lf _ _ _ _ _ _ 2 (lf - 1) [(1, nT), (2, nT)] w (st_2 hV ok lk (by simpa using hq)) en_again (fun x => again_1 2 lf x h0 g4)).mono fun _ _ h => pans rfl h
        · rw [if_neg h0]; obtain rfl : lf = 0 := by omega
          exact (Due_ok e a p 2 0 _ _ _ _ _ _ 6 0 [(4, nT)] w (st_2 hV ok lk (by simpa using hq)) en_again (fun x => again_0 2 x)).mono fun _ _ h => pans rfl h
      · rw [if_neg (by decide), if_pos rfl]
        exact (Due_ok e a p 3 lf _ _ _ _ _ _ 5 lf [(4, nT)] w (st_3 hV ok lk (by simpa using hq)) en_closed (fun x => closed_any 3 lf x)).mono fun _ _ h => pans rfl h
      · rw [if_pos (by decide)]
        exact (Due_ok e a p 4 lf _ _ _ _ _ _ 4 lf [] w (st_4 hV ok lk) en_stay (fun x => stay_any 4 lf x)).mono fun _ _ h => pans rfl h
      · rw [if_pos (by decide)]
        exact (Due_ok e a p 5 lf _ _ _ _ _ _ 5 lf [] w (st_5 hV ok lk) en_stay (fun x => stay_any 5 lf x)).mono fun _ _ h => pans rfl h
      · rw [if_pos (by decide)]
        exact (Due_ok e a p 6 lf _ _ _ _ _ _ 6 lf [] w (st_6 hV ok lk (by simpa using hq)) en_stay (fun x => stay_any 6 lf x)).mono fun _ _ h => pans rfl h
end Go.Proofs.YtjmjimbhoncidaaDoor

/-
  The program's Heard as the document says it.
-/
namespace Go.Proofs.YtjmjimbhoncidaaDoor
open Go.RowKit

theorem h_two {e : Bool} {a p st lf : Int} {s : ByteArray} {n : Bool} {f h d : FuncId} {w : World} {x : Ans} (hV : PVc w) (hs : StOk e a p st lf f h d w) (hen : Enters Tryd.prog h)
    (hx : sentB e a p s = true → ∃ st' lf' l, x = ⟨st', lf', l, 0, 0⟩ ∧ ∀ y, Calls Tryd.prog h #[.agg #[.bool (caB e a), .bool (aaB e p), .bool (earB e a p (caB e a))], .agg #[.int .i64 st, .int .i64 lf], .agg #[.string s, .bool n]] y (WQ st' lf' l y))
    (hy : sentB e a p s = false → x = ⟨st, lf, [(6, nT)], 0, 0⟩) : Calls Tryd.prog 34 #[.agg #[.bool e, .int .i64 a, .int .i64 p], .agg #[.int .i64 st, .int .i64 lf], .string s, .bool n] w (PAnsQ x w) := by
  cases hm : sentB e a p s with
  | true =>
    obtain ⟨st', lf', l, rfl, hd⟩ := hx hm
    exact (Heard_ok e a p st lf s n _ _ _ _ _ _ st' lf' l w hV hs hen hd hm).mono fun _ _ h => pans rfl h
  | false =>
    rw [hy hm]
    exact (Heard_s e a p st lf s n _ _ _ _ _ _ w hV hs hm).mono fun _ _ h => pans rfl h
theorem heard_ok (e : Bool) (a p st lf : Int) (s : ByteArray) (n : Bool) (w : World) (hV : PVc w) : Calls Tryd.prog 34 #[.agg #[.bool e, .int .i64 a, .int .i64 p], .agg #[.int .i64 st, .int .i64 lf], .string s, .bool n] w (PAnsQ (heardS e a p st lf s n) w) := by
  cases ok : okB e a p with
  | false =>
    unfold heardS
    rw [ok, if_pos rfl]
    exact (Heard_e e a p st lf s n 220 w (fun x _ => standing_no e a p st lf x ok)).mono fun _ _ h => pansE (by decide) h
  | true =>
    cases hf : fitB e a p st lf with
    | false =>
      unfold heardS
      rw [ok, hf, if_neg (by simp), if_pos rfl]
      exact (Heard_e e a p st lf s n 222 w (st_bad hV ok hf)).mono fun _ _ h => pansE (by decide) h
    | true =>
      have hS : heardS e a p st lf s n = (if (decide (4 ≤ st) || !sentB e a p s) = true then ⟨st, lf, [(6, nT)], 0, 0⟩ else
        if (s.toList == [67, 65]) = true then (if st = 1 then (if aaB e p = true then ⟨2, lf, [(3, nT)], 0, 0⟩ else if p = 2 then ⟨3, lf, [(3, nT), (2, nT)], 0, 0⟩ else ⟨4, lf, [(4, kCA)], 0, 0⟩) else ⟨st, lf, [], 0, 0⟩)
        else if numB s n = true then (if (caB e a && !decide (st = 1)) = true then ⟨st, lf, [(6, nT)], 0, 0⟩ else if 0 < lf then ⟨st, lf - 1, [(5, nT), (1, nT), (2, nT)], 0, 0⟩ else ⟨4, lf, [(4, s)], 0, 0⟩)
        else ⟨4, lf, [(4, s)], 0, 0⟩) := by
        unfold heardS numB
        rw [ok, hf, if_neg (by simp), if_neg (by simp)]
      obtain ⟨⟨g1, g2, g3, g4⟩, hq⟩ := fit_of hf
      have lk : decide (0 ≤ lf ∧ lf ≤ 16) = true := decide_eq_true ⟨g3, g4⟩
      have hca : (s.toList == [67, 65]) = true → s = kCA := fun g => by
        rcases code_cases s with h | h | h | h | h | h | ⟨h, _⟩
        · exact h
        all_goals first | (subst h; simp [Lib.toList_data] at g; done) | (rw [h.h1] at g; cases g)
      rw [hS]
      clear hS hf
      rcases (by omega : st = 1 ∨ st = 2 ∨ st = 3 ∨ st = 4 ∨ st = 5 ∨ st = 6) with rfl | rfl | rfl | rfl | rfl | rfl
      · have hc : caB e a = true := by simpa using hq
        refine h_two hV (st_1 hV ok lk hc) en_ahead (fun hm => ?_) (fun hm => by rw [hm, if_pos (by simp)])
        rw [hm, if_neg (by simp)]
        cases g : (s.toList == [67, 65]) with
        | true =>
          rw [if_pos rfl, if_pos rfl]
          cases h1 : aaB e p with
          | true => rw [if_pos rfl]; exact ⟨_, _, _, rfl, fun y => ha_1 _ _ _ 1 lf s n y g rfl⟩
          | false =>
            rw [if_neg (by simp)]
            have he : earB e a p (caB e a) = decide (p = 2) := by unfold earB; rw [h1, hc]; simp
            by_cases h2 : p = 2
            · rw [if_pos h2]; exact ⟨_, _, _, rfl, fun y => ha_2 _ _ _ 1 lf s n y g rfl (by rw [he]; exact decide_eq_true h2)⟩
            · rw [if_neg h2, ← hca g]; exact ⟨_, _, _, rfl, fun y => ha_3 _ _ _ 1 lf s n y g rfl (by rw [he]; exact decide_eq_false h2)⟩
        | false =>
          rw [if_neg (by simp)]
          cases hn : numB s n with
          | false => rw [if_neg (by simp)]; exact ⟨_, _, _, rfl, fun y => ha_4x _ _ _ 1 lf s n y g hn⟩
          | true =>
            rw [if_pos rfl, if_neg (by simp)]
            by_cases h0 : 0 < lf
            · rw [if_pos h0]; exact ⟨_, _, _, rfl, fun y => ha_4z _ _ _ 1 lf s n y g hn h0 g4⟩
            · rw [if_neg h0]; exact ⟨_, _, _, rfl, fun y => ha_4y _ _ _ 1 lf s n y g hn (show lf = 0 by omega)⟩
      · refine h_two hV (st_2 hV ok lk (by simpa using hq)) en_behind (fun hm => ?_) (fun hm => by rw [hm, if_pos (by simp)])
        rw [hm, if_neg (by simp)]
        cases g : (s.toList == [67, 65]) with
        | true => rw [if_pos rfl, if_neg (by decide)]; exact ⟨_, _, _, rfl, fun y => hb_1 _ _ _ 2 lf s n y g⟩
        | false =>
          rw [if_neg (by simp)]
          cases hn : numB s n with
          | false => rw [if_neg (by simp)]; exact ⟨_, _, _, rfl, fun y => hb_3x _ _ _ 2 lf s n y g hn⟩
          | true =>
            rw [if_pos rfl]
            cases hc : caB e a with
            | true => rw [if_pos (by simp)]; exact ⟨_, _, _, rfl, fun y => hb_2 _ _ _ 2 lf s n y g hn rfl⟩
            | false =>
              rw [if_neg (by simp)]
              by_cases h0 : 0 < lf
              · rw [if_pos h0]; exact ⟨_, _, _, rfl, fun y => hb_3z _ _ _ 2 lf s n y g hn h0 g4 rfl⟩
              · rw [if_neg h0]; exact ⟨_, _, _, rfl, fun y => hb_3y _ _ _ 2 lf s n y g hn (show lf = 0 by omega) rfl⟩
      · refine h_two hV (st_3 hV ok lk (by simpa using hq)) en_behind (fun hm => ?_) (fun hm => by rw [hm, if_pos (by simp)])
        rw [hm, if_neg (by simp)]
        cases g : (s.toList == [67, 65]) with
        | true => rw [if_pos rfl, if_neg (by decide)]; exact ⟨_, _, _, rfl, fun y => hb_1 _ _ _ 3 lf s n y g⟩
        | false =>
          rw [if_neg (by simp)]
          cases hn : numB s n with
          | false => rw [if_neg (by simp)]; exact ⟨_, _, _, rfl, fun y => hb_3x _ _ _ 3 lf s n y g hn⟩
          | true =>
            rw [if_pos rfl]
            cases hc : caB e a with
            | true => rw [if_pos (by simp)]; exact ⟨_, _, _, rfl, fun y => hb_2 _ _ _ 3 lf s n y g hn rfl⟩
            | false =>
              rw [if_neg (by simp)]
              by_cases h0 : 0 < lf
              · rw [if_pos h0]; exact ⟨_, _, _, rfl, fun y => hb_3z _ _ _ 3 lf s n y g hn h0 g4 rfl⟩
              · rw [if_neg h0]; exact ⟨_, _, _, rfl, fun y => hb_3y _ _ _ 3 lf s n y g hn (show lf = 0 by omega) rfl⟩
      · rw [if_pos (by simp)]
        exact h_two hV (st_4 hV ok lk) en_strange (fun _ => ⟨_, _, _, rfl, fun y => strange_any _ _ _ 4 lf s n y⟩) (fun _ => rfl)
      · rw [if_pos (by simp)]
        exact h_two hV (st_5 hV ok lk) en_strange (fun _ => ⟨_, _, _, rfl, fun y => strange_any _ _ _ 5 lf s n y⟩) (fun _ => rfl)
      · rw [if_pos (by simp)]
        exact h_two hV (st_6 hV ok lk (by simpa using hq)) en_strange (fun _ => ⟨_, _, _, rfl, fun y => strange_any _ _ _ 6 lf s n y⟩) (fun _ => rfl)
theorem start_ok (e : Bool) (a p t : Int) (noted : Bool) (w : World) (hV : PVc w) : Calls Tryd.prog 23 #[.agg #[.bool e, .int .i64 a, .int .i64 p], .int .i64 t, .bool noted] w (PAnsQ (startS e a p t noted) w) := by
  unfold startS
  cases ok : okB e a p with
  | false =>
    rw [if_pos rfl]
    exact (Start_no e a p t noted w ok).mono fun _ _ h => pansE (by decide) h
  | true =>
    rw [if_neg (by simp)]
    by_cases ht : 0 ≤ t ∧ t ≤ 16
    · rw [if_neg (by simpa using ht)]
      have tr : decide (0 ≤ t ∧ t ≤ 16) = true := decide_eq_true ht
      cases hc : caB e a with
      | false =>
        cases noted with
        | true => rw [if_pos rfl]; exact (Start_nt e a p t true w hV ok tr rfl hc).mono fun _ _ h => pansE (by decide) h
        | false =>
          rw [if_neg (by simp), if_neg (by simp)]
          have he : earB e a p (caB e a) = earB e a p false := by rw [hc]
          cases h1 : aaB e p with
          | true => rw [if_pos rfl]; exact (Start_oka e a p t false 2 2 nT w hV ok tr rfl (fun x => by rw [hc]; exact begin_2a _ _ _ _ x rfl h1)).mono fun _ _ h => pans rfl h
          | false =>
            rw [if_neg (by simp)]
            cases h2 : earB e a p false with
            | true => rw [if_pos rfl]; exact (Start_oka e a p t false 3 2 nT w hV ok tr rfl (fun x => by rw [hc, h2]; exact begin_3a _ _ _ _ x rfl h1 rfl)).mono fun _ _ h => pans rfl h
            | false => rw [if_neg (by simp), if_neg (by simp)]; exact (Start_oka e a p t false 5 4 nT w hV ok tr rfl (fun x => by rw [hc, h2]; exact begin_5 _ _ _ _ x rfl rfl h1 rfl)).mono fun _ _ h => pans rfl h
      | true =>
        rw [if_neg (by simp)]
        cases noted with
        | false => rw [if_pos (by simp)]; exact (Start_oka e a p t false 1 2 nT w hV ok tr rfl (fun x => by rw [hc]; exact begin_1 _ _ _ _ x rfl rfl)).mono fun _ _ h => pans rfl h
        | true =>
          rw [if_neg (by simp)]
          cases h1 : aaB e p with
          | true => rw [if_pos rfl]; exact (Start_okb e a p t true 2 2 nT w hV ok tr rfl hc (fun x => by rw [hc]; exact begin_2b _ _ _ _ x rfl rfl h1)).mono fun _ _ h => pans rfl h
          | false =>
            rw [if_neg (by simp)]
            cases h2 : earB e a p true with
            | true => rw [if_pos rfl]; exact (Start_okb e a p t true 3 2 nT w hV ok tr rfl hc (fun x => by rw [hc, h2]; exact begin_3b _ _ _ _ x rfl rfl h1 rfl)).mono fun _ _ h => pans rfl h
            | false => rw [if_neg (by simp), if_pos rfl]; exact (Start_okb e a p t true 4 4 kCA w hV ok tr rfl hc (fun x => by rw [hc, h2]; exact begin_4b _ _ _ _ x rfl rfl h1 rfl)).mono fun _ _ h => pans rfl h
    · rw [if_pos ht]
      exact (Start_tr e a p t noted w ok (decide_eq_false ht)).mono fun _ _ h => pansE (by decide) h
end Go.Proofs.YtjmjimbhoncidaaDoor
