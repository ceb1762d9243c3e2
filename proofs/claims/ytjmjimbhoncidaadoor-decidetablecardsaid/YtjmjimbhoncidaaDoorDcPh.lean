/-
  The program's May, Refuse, Owes, Texts, Mode.
-/
import Derived.Test.YtjmjimbhoncidaaDoorDcPd
import Derived.Test.YtjmjimbhoncidaaDoorDcPc
namespace Go.Proofs.YtjmjimbhoncidaaDoor
open Go.RowKit

set_option maxRecDepth 100000 in
set_option maxHeartbeats 2000000 in
theorem May_no (e : Bool) (a p : Int) (s : ByteArray) (w : World) (ok : okB e a p = false) : Calls Tryd.prog 21 #[.agg #[.bool e, .int .i64 a, .int .i64 p], .string s] w (fun r w' => ∃ z, r = .returned (.tuple #[.bool false, .iface 108 (.pointer (some ⟨z, 0, none⟩))]) ∧ DFault w' z 0 220 ∧ Below w.heap.size w w') := by
  have c1 := fun x => refuse_no e a p x ok
  go_enter Tryd.func21, Tryd.ntmps21
  go_wp2_with fail
  refine (c1 _).mono ?_
  rintro _ w1 ⟨z, rfl, hz, b1⟩
  have HB1 : Hid (Below w.heap.size w w1) := below_then ((Below.refl _ _).alloc (Nat.le_refl _) _) b1
  have X1_0 : Hid (Box w1 (w.heap.size) #[.bool e, .int .i64 a, .int .i64 p]) := (Box.new' _ #[.bool e, .int .i64 a, .int .i64 p] 23 (w.heap.size) (by simp)).below b1
  obtain ⟨l1_0, k1_0, f1_0⟩ := X1_0.out
  have HZ : Hid (DFault w1 z 0 220) := hz
  clear b1 hz
  go_wp2_with fail
  refine bodyPost_ret (v := .tuple #[.bool false, .iface 108 (.pointer (some ⟨z, 0, none⟩))]) ?_ rfl ⟨z, rfl, HZ.out, HB1.out⟩
  simp [results, Tryd.results21, go_sem]
set_option maxRecDepth 100000 in
set_option maxHeartbeats 4000000 in
theorem May_ok (e : Bool) (a p : Int) (s : ByteArray) (w : World) (hV : PVc w) (ok : okB e a p = true) : Calls Tryd.prog 21 #[.agg #[.bool e, .int .i64 a, .int .i64 p], .string s] w (fun r w' => r = .returned (.tuple #[.bool (sentB e a p s), .nilIface]) ∧ Below w.heap.size w w') := by
  have HV : Hid (PVc w) := hV
  clear hV
  have c1 := fun x => refuse_ok e a p x ok
  go_enter Tryd.func21, Tryd.ntmps21
  go_wp2_with fail
  refine (c1 _).mono ?_
  rintro _ w1 ⟨rfl, b1⟩
  have HB1 : Hid (Below w.heap.size w w1) := below_then ((Below.refl _ _).alloc (Nat.le_refl _) _) b1
  have X1_0 : Hid (Box w1 (w.heap.size) #[.bool e, .int .i64 a, .int .i64 p]) := (Box.new' _ #[.bool e, .int .i64 a, .int .i64 p] 23 (w.heap.size) (by simp)).below b1
  obtain ⟨l1_0, k1_0, f1_0⟩ := X1_0.out
  clear b1
  go_wp2_with fail
  refine (may_any e a p s _ (HV.out.below HB1.out)).mono ?_
  rintro _ w2 ⟨rfl, b2⟩
  have HB2 : Hid (Below w.heap.size w w2) := below_then HB1.out b2
  have X2_0 : Hid (Box w2 (w.heap.size) #[.bool e, .int .i64 a, .int .i64 p]) := X1_0.out.below b2
  clear k1_0 l1_0 f1_0 X1_0 HB1
  obtain ⟨l2_0, k2_0, f2_0⟩ := X2_0.out
  clear b2
  go_wp2_with fail
  refine bodyPost_ret (v := .tuple #[.bool (sentB e a p s), .nilIface]) ?_ rfl ⟨rfl, HB2.out⟩
  simp [results, Tryd.results21, go_sem]
set_option maxRecDepth 100000 in
set_option maxHeartbeats 2000000 in
theorem Refuse_no (e : Bool) (a p : Int) (h : Bool) (w : World) (ok : okB e a p = false) : Calls Tryd.prog 17 #[.agg #[.bool e, .int .i64 a, .int .i64 p], .bool h] w (fun r w' => ∃ z, r = .returned (.tuple #[.string ⟨#[]⟩, .bool false, .iface 108 (.pointer (some ⟨z, 0, none⟩))]) ∧ DFault w' z 0 220 ∧ Below w.heap.size w w') := by
  have c1 := fun x => refuse_no e a p x ok
  go_enter Tryd.func17, Tryd.ntmps17
  go_wp2_with fail
  refine (c1 _).mono ?_
  rintro _ w1 ⟨z, rfl, hz, b1⟩
  have HB1 : Hid (Below w.heap.size w w1) := below_then ((Below.refl _ _).alloc (Nat.le_refl _) _) b1
  have X1_0 : Hid (Box w1 (w.heap.size) #[.bool e, .int .i64 a, .int .i64 p]) := (Box.new' _ #[.bool e, .int .i64 a, .int .i64 p] 23 (w.heap.size) (by simp)).below b1
  obtain ⟨l1_0, k1_0, f1_0⟩ := X1_0.out
  have HZ : Hid (DFault w1 z 0 220) := hz
  clear b1 hz
  go_wp2_with fail
  refine bodyPost_ret (v := .tuple #[.string ⟨#[]⟩, .bool false, .iface 108 (.pointer (some ⟨z, 0, none⟩))]) ?_ rfl ⟨z, rfl, HZ.out, HB1.out⟩
  simp [results, Tryd.results17, go_sem]
set_option maxRecDepth 100000 in
set_option maxHeartbeats 4000000 in
theorem Refuse_ok (e : Bool) (a p : Int) (h : Bool) (w : World) (hV : PVc w) (ok : okB e a p = true) : Calls Tryd.prog 17 #[.agg #[.bool e, .int .i64 a, .int .i64 p], .bool h] w (fun r w' => r = .returned (.tuple #[.string (refC e h), .bool (sentB e a p (refC e h)), .nilIface]) ∧ Below w.heap.size w w') := by
  have HV : Hid (PVc w) := hV
  clear hV
  have c1 := fun x => refuse_ok e a p x ok
  obtain ⟨rc, hrc⟩ : ∃ z, refC e h = z := ⟨_, rfl⟩
  have c2 : ∀ x, Calls Tryd.prog 46 #[.bool e, .bool h] x fun r x' => r = .returned (.string rc) ∧ Below x.heap.size x x' := fun x => (refusal_any e h x).mono fun _ _ ⟨h1, h2⟩ => ⟨by rw [h1, hrc], h2 ▸ Below.refl _ _⟩
  rw [hrc]
  clear hrc
  go_enter Tryd.func17, Tryd.ntmps17
  go_wp2_with fail
  refine (c1 _).mono ?_
  rintro _ w1 ⟨rfl, b1⟩
  have HB1 : Hid (Below w.heap.size w w1) := below_then ((Below.refl _ _).alloc (Nat.le_refl _) _) b1
  have X1_0 : Hid (Box w1 (w.heap.size) #[.bool e, .int .i64 a, .int .i64 p]) := (Box.new' _ #[.bool e, .int .i64 a, .int .i64 p] 23 (w.heap.size) (by simp)).below b1
  obtain ⟨l1_0, k1_0, f1_0⟩ := X1_0.out
  clear b1
  go_wp2_with fail
  refine (c2 _).mono ?_
  rintro _ w2 ⟨rfl, b2⟩
  have HB2 : Hid (Below w.heap.size w w2) := below_then HB1.out b2
  have X2_0 : Hid (Box w2 (w.heap.size) #[.bool e, .int .i64 a, .int .i64 p]) := X1_0.out.below b2
  clear k1_0 l1_0 f1_0 X1_0 HB1
  obtain ⟨l2_0, k2_0, f2_0⟩ := X2_0.out
  clear b2
  go_wp2_with fail
  refine (may_any e a p rc _ (HV.out.below HB2.out)).mono ?_
  rintro _ w3 ⟨rfl, b3⟩
  have HB3 : Hid (Below w.heap.size w w3) := below_then HB2.out b3
  have X3_0 : Hid (Box w3 (w.heap.size) #[.bool e, .int .i64 a, .int .i64 p]) := X2_0.out.below b3
  clear k2_0 l2_0 f2_0 X2_0 HB2
  obtain ⟨l3_0, k3_0, f3_0⟩ := X3_0.out
  clear b3
  go_wp2_with fail
  refine bodyPost_ret (v := .tuple #[.string rc, .bool (sentB e a p rc), .nilIface]) ?_ rfl ⟨rfl, HB3.out⟩
  simp [results, Tryd.results17, go_sem]
set_option maxRecDepth 100000 in
set_option maxHeartbeats 2000000 in
theorem Owes_no (e : Bool) (a p : Int) (w : World) (ok : okB e a p = false) : Calls Tryd.prog 19 #[.agg #[.bool e, .int .i64 a, .int .i64 p]] w (fun r w' => ∃ z, r = .returned (.tuple #[.bool false, .bool false, .bool false, .iface 108 (.pointer (some ⟨z, 0, none⟩))]) ∧ DFault w' z 0 220 ∧ Below w.heap.size w w') := by
  have c1 := fun x => refuse_no e a p x ok
  go_enter Tryd.func19, Tryd.ntmps19
  go_wp2_with fail
  refine (c1 _).mono ?_
  rintro _ w1 ⟨z, rfl, hz, b1⟩
  have HB1 : Hid (Below w.heap.size w w1) := below_then ((Below.refl _ _).alloc (Nat.le_refl _) _) b1
  have X1_0 : Hid (Box w1 (w.heap.size) #[.bool e, .int .i64 a, .int .i64 p]) := (Box.new' _ #[.bool e, .int .i64 a, .int .i64 p] 23 (w.heap.size) (by simp)).below b1
  obtain ⟨l1_0, k1_0, f1_0⟩ := X1_0.out
  have HZ : Hid (DFault w1 z 0 220) := hz
  clear b1 hz
  go_wp2_with fail
  refine bodyPost_ret (v := .tuple #[.bool false, .bool false, .bool false, .iface 108 (.pointer (some ⟨z, 0, none⟩))]) ?_ rfl ⟨z, rfl, HZ.out, HB1.out⟩
  simp [results, Tryd.results19, go_sem]
set_option maxRecDepth 100000 in
set_option maxHeartbeats 4000000 in
theorem Owes_ok (e : Bool) (a p : Int) (w : World) (hV : PVc w) (ok : okB e a p = true) : Calls Tryd.prog 19 #[.agg #[.bool e, .int .i64 a, .int .i64 p]] w (fun r w' => r = .returned (.tuple #[.bool (caB e a), .bool (aaB e p), .bool (earB e a p (caB e a)), .nilIface]) ∧ Below w.heap.size w w') := by
  have HV : Hid (PVc w) := hV
  clear hV
  have c1 := fun x => refuse_ok e a p x ok
  have C2 : Hid (∀ x, PVc x → Calls Tryd.prog 49 #[.agg #[.bool e, .int .i64 a, .int .i64 p]] x fun r x' => r = .returned (.agg #[.bool (caB e a), .bool (aaB e p), .bool (earB e a p (caB e a))]) ∧ Below x.heap.size x x') := fun x hx => owedBy_any e a p x hx
  obtain ⟨q1, hq1⟩ : ∃ z, caB e a = z := ⟨_, rfl⟩
  obtain ⟨q2, hq2⟩ : ∃ z, aaB e p = z := ⟨_, rfl⟩
  obtain ⟨q3, hq3⟩ : ∃ z, earB e a p q1 = z := ⟨_, rfl⟩
  rw [hq1, hq2, hq3] at C2 ⊢
  clear hq1 hq2 hq3
  go_enter Tryd.func19, Tryd.ntmps19
  go_wp2_with fail
  refine (c1 _).mono ?_
  rintro _ w1 ⟨rfl, b1⟩
  have HB1 : Hid (Below w.heap.size w w1) := below_then ((Below.refl _ _).alloc (Nat.le_refl _) _) b1
  have X1_0 : Hid (Box w1 (w.heap.size) #[.bool e, .int .i64 a, .int .i64 p]) := (Box.new' _ #[.bool e, .int .i64 a, .int .i64 p] 23 (w.heap.size) (by simp)).below b1
  obtain ⟨l1_0, k1_0, f1_0⟩ := X1_0.out
  clear b1
  go_wp2_with fail
  refine (C2.out _ (HV.out.below HB1.out)).mono ?_
  rintro _ w2 ⟨rfl, b2⟩
  have HB2 : Hid (Below w.heap.size w w2) := below_then HB1.out b2
  have X2_0 : Hid (Box w2 (w.heap.size) #[.bool e, .int .i64 a, .int .i64 p]) := X1_0.out.below b2
  clear k1_0 l1_0 f1_0 X1_0 HB1
  obtain ⟨l2_0, k2_0, f2_0⟩ := X2_0.out
  clear b2
  go_upto_region 5 with fail
  go_region
  go_wp2_with fail
  refine bodyPost_ret (v := .tuple #[.bool q1, .bool q2, .bool q3, .nilIface]) ?_ rfl ⟨rfl, Below.drew (bl_alloc HB2.out _)⟩
  simp [results, Tryd.results19, go_sem]
set_option maxRecDepth 100000 in
set_option maxHeartbeats 2000000 in
theorem Texts_no (e : Bool) (a p : Int) (w : World) (ok : okB e a p = false) : Calls Tryd.prog 14 #[.agg #[.bool e, .int .i64 a, .int .i64 p]] w (fun r w' => ∃ z, r = .returned (.tuple #[.string ⟨#[]⟩, .string ⟨#[]⟩, .iface 108 (.pointer (some ⟨z, 0, none⟩))]) ∧ DFault w' z 0 220 ∧ Below w.heap.size w w') := by
  have c1 := fun x => refuse_no e a p x ok
  go_enter Tryd.func14, Tryd.ntmps14
  go_wp2_with fail
  refine (c1 _).mono ?_
  rintro _ w1 ⟨z, rfl, hz, b1⟩
  have HB1 : Hid (Below w.heap.size w w1) := below_then ((Below.refl _ _).alloc (Nat.le_refl _) _) b1
  have X1_0 : Hid (Box w1 (w.heap.size) #[.bool e, .int .i64 a, .int .i64 p]) := (Box.new' _ #[.bool e, .int .i64 a, .int .i64 p] 23 (w.heap.size) (by simp)).below b1
  obtain ⟨l1_0, k1_0, f1_0⟩ := X1_0.out
  have HZ : Hid (DFault w1 z 0 220) := hz
  clear b1 hz
  go_wp2_with fail
  refine bodyPost_ret (v := .tuple #[.string ⟨#[]⟩, .string ⟨#[]⟩, .iface 108 (.pointer (some ⟨z, 0, none⟩))]) ?_ rfl ⟨z, rfl, HZ.out, HB1.out⟩
  simp [results, Tryd.results14, go_sem]
set_option maxRecDepth 100000 in
set_option maxHeartbeats 2000000 in
theorem Texts_f (a p : Int) (w : World) (ok : okB false a p = true) : Calls Tryd.prog 14 #[.agg #[.bool false, .int .i64 a, .int .i64 p]] w (fun r w' => r = .returned (.tuple #[.string ⟨#[]⟩, .string ⟨#[]⟩, .nilIface]) ∧ Below w.heap.size w w') := by
  have c1 := fun x => refuse_ok false a p x ok
  go_enter Tryd.func14, Tryd.ntmps14
  go_wp2_with fail
  refine (c1 _).mono ?_
  rintro _ w1 ⟨rfl, b1⟩
  have HB1 : Hid (Below w.heap.size w w1) := below_then ((Below.refl _ _).alloc (Nat.le_refl _) _) b1
  have X1_0 : Hid (Box w1 (w.heap.size) #[.bool false, .int .i64 a, .int .i64 p]) := (Box.new' _ #[.bool false, .int .i64 a, .int .i64 p] 23 (w.heap.size) (by simp)).below b1
  obtain ⟨l1_0, k1_0, f1_0⟩ := X1_0.out
  clear b1
  go_wp2_with fail
  refine bodyPost_ret (v := .tuple #[.string ⟨#[]⟩, .string ⟨#[]⟩, .nilIface]) ?_ rfl ⟨rfl, HB1.out⟩
  simp [results, Tryd.results14, go_sem]
set_option maxRecDepth 100000 in
set_option maxHeartbeats 4000000 in
theorem Texts_t (x y : Nat) (w : World) (hV : PVw w) (hx : x < 4) (hy : y < 4) (ok : okB true x y = true) : Calls Tryd.prog 14 #[.agg #[.bool true, .int .i64 (x : Int), .int .i64 (y : Int)]] w (fun r w' => r = .returned (.tuple #[.string (wB x), .string (wB y), .nilIface]) ∧ Below w.heap.size w w') := by
  have HV : Hid (PVw w) := hV
  clear hV
  have c1 := fun z => refuse_ok true x y z ok
  have gx : WV[x]? = some (.string (wB x)) := by rcases (by omega : x = 0 ∨ x = 1 ∨ x = 2 ∨ x = 3) with rfl | rfl | rfl | rfl <;> rfl
  have gy : WV[y]? = some (.string (wB y)) := by rcases (by omega : y = 0 ∨ y = 1 ∨ y = 2 ∨ y = 3) with rfl | rfl | rfl | rfl <;> rfl
  have HG : Hid (WV[x]? = some (.string (wB x)) ∧ WV[y]? = some (.string (wB y))) := ⟨gx, gy⟩
  clear gx gy ok
  go_enter Tryd.func14, Tryd.ntmps14
  go_wp2_with fail
  refine (c1 _).mono ?_
  rintro _ w1 ⟨rfl, b1⟩
  have HB1 : Hid (Below w.heap.size w w1) := below_then ((Below.refl _ _).alloc (Nat.le_refl _) _) b1
  have X1_0 : Hid (Box w1 (w.heap.size) #[.bool true, .int .i64 (x : Int), .int .i64 (y : Int)]) := (Box.new' _ #[.bool true, .int .i64 (x : Int), .int .i64 (y : Int)] 23 (w.heap.size) (by simp)).below b1
  obtain ⟨l1_0, k1_0, f1_0⟩ := X1_0.out
  clear b1
  have V1 := HV.out.below HB1.out
  have kx : w1.cell? ⟨0, x, none⟩ = some (.string (wB x)) := V1 x _ HG.out.1
  have ky : w1.cell? ⟨0, y, none⟩ = some (.string (wB y)) := V1 y _ HG.out.2
  have ix : (x : Int) < 4 := by omega
  have iy : (y : Int) < 4 := by omega
  clear V1
  go_upto_region 6 with fail
  go_region
  go_wp2_with fail
  refine bodyPost_ret (v := .tuple #[.string (wB x), .string (wB y), .nilIface]) ?_ rfl ⟨rfl, Below.drew HB1.out⟩
  simp [results, Tryd.results14, go_sem]
end Go.Proofs.YtjmjimbhoncidaaDoor
