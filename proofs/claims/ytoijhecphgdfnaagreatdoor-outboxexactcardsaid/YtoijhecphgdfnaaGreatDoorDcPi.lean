/-
  The program's Mode, begin, Start.
-/
import Derived.Test.YtoijhecphgdfnaaGreatDoorDcPe
import Derived.Test.YtoijhecphgdfnaaGreatDoorDcPf
namespace Go.Proofs.YtoijhecphgdfnaaGreatDoor
open Go.RowKit

theorem box_ne {x : World} {R z : Nat} {cs : Array Value} {a c : Int} (h : Box x R cs) (hf : DFault x z a c) (h0 : ∀ s, cs[0]? ≠ some (.string s)) : R ≠ z := fun g => h0 _ (by rw [← h.cell 0, g]; exact hf.1)
theorem dff2 {w x : World} {R z : Nat} {a cd : Int} (hb : Below w.heap.size w x) (hf : DFault x z a cd) (hR : w.heap.size ≤ R) (n : R ≠ z) (u0 u1 : Value) : DFault ((x.setCell ⟨R, 0, none⟩ u0).setCell ⟨R, 1, none⟩ u1) z a cd ∧ Below w.heap.size w ((x.setCell ⟨R, 0, none⟩ u0).setCell ⟨R, 1, none⟩ u1) :=
  ⟨(hf.pOff (p := ⟨R, 0, none⟩) n _).pOff (p := ⟨R, 1, none⟩) n _, (hb.setCell (p := ⟨R, 0, none⟩) hR _).setCell (p := ⟨R, 1, none⟩) hR _⟩
theorem bel2 {w x : World} {R : Nat} (hb : Below w.heap.size w x) (hR : w.heap.size ≤ R) (u0 u1 : Value) : Below w.heap.size w ((x.setCell ⟨R, 0, none⟩ u0).setCell ⟨R, 1, none⟩ u1) := (hb.setCell (p := ⟨R, 0, none⟩) hR _).setCell (p := ⟨R, 1, none⟩) hR _
set_option maxRecDepth 100000 in
set_option maxHeartbeats 2000000 in
theorem begin_1 (c ap ea noted : Bool) (w : World) (h1 : c = true) (h2 : noted = false) : Calls Tryz.prog 87 #[.agg #[.bool c, .bool ap, .bool ea], .bool noted] w (fun r w' => r = .returned (.tuple #[.int .i64 1, .agg #[.int .i64 2, .string nT]]) ∧ Below w.heap.size w w') := by
  subst h1
  subst h2
  go_enter Tryz.func87, Tryz.ntmps87
  go_upto_region 3 with fail
  go_region
  go_wp2_with fail
  refine bodyPost_ret (v := .tuple #[.int .i64 1, .agg #[.int .i64 2, .string nT]]) ?_ rfl ⟨rfl, Below.drew (bl_alloc (bl_alloc ((Below.refl _ _).alloc (Nat.le_refl _) _) _) _)⟩
  simp [results, Tryz.results87, go_sem]
set_option maxRecDepth 100000 in
set_option maxHeartbeats 2000000 in
theorem begin_2a (c ap ea noted : Bool) (w : World) (h1 : c = false) (h3 : ap = true) : Calls Tryz.prog 87 #[.agg #[.bool c, .bool ap, .bool ea], .bool noted] w (fun r w' => r = .returned (.tuple #[.int .i64 2, .agg #[.int .i64 2, .string nT]]) ∧ Below w.heap.size w w') := by
  subst h1
  subst h3
  go_enter Tryz.func87, Tryz.ntmps87
  go_upto_region 5 with fail
  go_region
  go_wp2_with fail
  refine bodyPost_ret (v := .tuple #[.int .i64 2, .agg #[.int .i64 2, .string nT]]) ?_ rfl ⟨rfl, Below.drew (bl_alloc (bl_alloc ((Below.refl _ _).alloc (Nat.le_refl _) _) _) _)⟩
  simp [results, Tryz.results87, go_sem]
set_option maxRecDepth 100000 in
set_option maxHeartbeats 2000000 in
theorem begin_3a (c ap ea noted : Bool) (w : World) (h1 : c = false) (h3 : ap = false) (h4 : ea = true) : Calls Tryz.prog 87 #[.agg #[.bool c, .bool ap, .bool ea], .bool noted] w (fun r w' => r = .returned (.tuple #[.int .i64 3, .agg #[.int .i64 2, .string nT]]) ∧ Below w.heap.size w w') := by
  subst h1
  subst h3
  subst h4
  go_enter Tryz.func87, Tryz.ntmps87
  go_upto_region 7 with fail
  go_region
  go_wp2_with fail
  refine bodyPost_ret (v := .tuple #[.int .i64 3, .agg #[.int .i64 2, .string nT]]) ?_ rfl ⟨rfl, Below.drew (bl_alloc (bl_alloc ((Below.refl _ _).alloc (Nat.le_refl _) _) _) _)⟩
  simp [results, Tryz.results87, go_sem]
set_option maxRecDepth 100000 in
set_option maxHeartbeats 2000000 in
theorem begin_2b (c ap ea noted : Bool) (w : World) (h1 : c = true) (h2 : noted = true) (h3 : ap = true) : Calls Tryz.prog 87 #[.agg #[.bool c, .bool ap, .bool ea], .bool noted] w (fun r w' => r = .returned (.tuple #[.int .i64 2, .agg #[.int .i64 2, .string nT]]) ∧ Below w.heap.size w w') := by
  subst h1
  subst h2
  subst h3
  go_enter Tryz.func87, Tryz.ntmps87
  go_upto_region 5 with fail
  go_region
  go_wp2_with fail
  refine bodyPost_ret (v := .tuple #[.int .i64 2, .agg #[.int .i64 2, .string nT]]) ?_ rfl ⟨rfl, Below.drew (bl_alloc (bl_alloc ((Below.refl _ _).alloc (Nat.le_refl _) _) _) _)⟩
  simp [results, Tryz.results87, go_sem]
set_option maxRecDepth 100000 in
set_option maxHeartbeats 2000000 in
theorem begin_3b (c ap ea noted : Bool) (w : World) (h1 : c = true) (h2 : noted = true) (h3 : ap = false) (h4 : ea = true) : Calls Tryz.prog 87 #[.agg #[.bool c, .bool ap, .bool ea], .bool noted] w (fun r w' => r = .returned (.tuple #[.int .i64 3, .agg #[.int .i64 2, .string nT]]) ∧ Below w.heap.size w w') := by
  subst h1
  subst h2
  subst h3
  subst h4
  go_enter Tryz.func87, Tryz.ntmps87
  go_upto_region 7 with fail
  go_region
  go_wp2_with fail
  refine bodyPost_ret (v := .tuple #[.int .i64 3, .agg #[.int .i64 2, .string nT]]) ?_ rfl ⟨rfl, Below.drew (bl_alloc (bl_alloc ((Below.refl _ _).alloc (Nat.le_refl _) _) _) _)⟩
  simp [results, Tryz.results87, go_sem]
set_option maxRecDepth 100000 in
set_option maxHeartbeats 2000000 in
theorem begin_4b (c ap ea noted : Bool) (w : World) (h1 : c = true) (h2 : noted = true) (h3 : ap = false) (h4 : ea = false) : Calls Tryz.prog 87 #[.agg #[.bool c, .bool ap, .bool ea], .bool noted] w (fun r w' => r = .returned (.tuple #[.int .i64 4, .agg #[.int .i64 4, .string kCA]]) ∧ Below w.heap.size w w') := by
  subst h1
  subst h2
  subst h3
  subst h4
  go_enter Tryz.func87, Tryz.ntmps87
  go_wp2_with fail
  refine bodyPost_ret (v := .tuple #[.int .i64 4, .agg #[.int .i64 4, .string kCA]]) ?_ rfl ⟨rfl, bl_alloc (bl_alloc ((Below.refl _ _).alloc (Nat.le_refl _) _) _) _⟩
  simp [results, Tryz.results87, go_sem]
set_option maxRecDepth 100000 in
set_option maxHeartbeats 2000000 in
theorem begin_5 (c ap ea noted : Bool) (w : World) (h1 : c = false) (h2 : noted = false) (h3 : ap = false) (h4 : ea = false) : Calls Tryz.prog 87 #[.agg #[.bool c, .bool ap, .bool ea], .bool noted] w (fun r w' => r = .returned (.tuple #[.int .i64 5, .agg #[.int .i64 4, .string nT]]) ∧ Below w.heap.size w w') := by
  subst h1
  subst h2
  subst h3
  subst h4
  go_enter Tryz.func87, Tryz.ntmps87
  go_wp2_with fail
  refine bodyPost_ret (v := .tuple #[.int .i64 5, .agg #[.int .i64 4, .string nT]]) ?_ rfl ⟨rfl, bl_alloc (bl_alloc ((Below.refl _ _).alloc (Nat.le_refl _) _) _) _⟩
  simp [results, Tryz.results87, go_sem]
set_option maxRecDepth 100000 in
set_option maxHeartbeats 2000000 in
theorem Start_no (e : Bool) (a p : Int) (t : Int) (noted : Bool) (w : World) (ok : okB e a p = false) : Calls Tryz.prog 59 #[.agg #[.bool e, .int .i64 a, .int .i64 p], .int .i64 t, .bool noted] w (fun r w' => ∃ z, r = .returned (.tuple #[.agg #[.int .i64 0, .int .i64 0], .slice none 0 0, .iface 122 (.pointer (some ⟨z, 0, none⟩))]) ∧ DFault w' z 0 220 ∧ Below w.heap.size w w') := by
  have c1 := fun x => refuse_no e a p x ok
  go_enter Tryz.func59, Tryz.ntmps59
  go_wp2_with fail
  refine (c1 _).mono ?_
  rintro _ w1 ⟨z, rfl, hz, b1⟩
  have HB1 : Hid (Below w.heap.size w w1) := below_then (bl_alloc ((Below.refl _ _).alloc (Nat.le_refl _) _) _) b1
  have X1_0 : Hid (Box w1 (w.heap.size) #[.bool e, .int .i64 a, .int .i64 p]) := ((Box.new' _ #[.bool e, .int .i64 a, .int .i64 p] 45 (w.heap.size) (by simp)).alloc _).below b1
  have X1_1 : Hid (Box w1 (w.heap.size + 1) #[.int .i64 0, .int .i64 0]) := (Box.new' _ #[.int .i64 0, .int .i64 0] 89 (w.heap.size + 1) (by simp)).below b1
  obtain ⟨l1_0, k1_0, f1_0⟩ := X1_0.out
  obtain ⟨l1_1, k1_1, f1_1⟩ := X1_1.out
  have HZ : Hid (DFault w1 z 0 220) := hz
  clear b1 hz
  go_wp2_with fail
  refine bodyPost_ret (v := .tuple #[.agg #[.int .i64 0, .int .i64 0], .slice none 0 0, .iface 122 (.pointer (some ⟨z, 0, none⟩))]) ?_ rfl ⟨z, rfl, ?_, ?_⟩
  · simp [results, Tryz.results59, go_sem, k1_1]
  · exact (dff2 HB1.out HZ.out (by omega) (box_ne X1_1.out HZ.out (fun s => by simp)) _ _).1
  · exact (dff2 HB1.out HZ.out (by omega) (box_ne X1_1.out HZ.out (fun s => by simp)) _ _).2
set_option maxRecDepth 100000 in
set_option maxHeartbeats 2000000 in
theorem Start_tr (e : Bool) (a p : Int) (t : Int) (noted : Bool) (w : World) (ok : okB e a p = true) (tr : decide (0 ≤ t ∧ t ≤ 16) = false) : Calls Tryz.prog 59 #[.agg #[.bool e, .int .i64 a, .int .i64 p], .int .i64 t, .bool noted] w (fun r w' => ∃ z, r = .returned (.tuple #[.agg #[.int .i64 0, .int .i64 0], .slice none 0 0, .iface 122 (.pointer (some ⟨z, 0, none⟩))]) ∧ DFault w' z 0 224 ∧ Below w.heap.size w w') := by
  have c1 := fun x => refuse_ok e a p x ok
  have ct : ∀ x, Calls Tryz.prog 84 #[.int .i64 t] x fun r x' => r = .returned (.bool false) ∧ Below x.heap.size x x' := fun x => (areTries_any t x).mono fun _ _ ⟨h1, h2⟩ => ⟨by rw [h1, tr], h2 ▸ Below.refl _ _⟩
  clear tr
  have c3 := fun x => pfault_ex 0 224 x
  go_enter Tryz.func59, Tryz.ntmps59
  go_wp2_with fail
  refine (c1 _).mono ?_
  rintro _ w1 ⟨rfl, b1⟩
  have HB1 : Hid (Below w.heap.size w w1) := below_then (bl_alloc ((Below.refl _ _).alloc (Nat.le_refl _) _) _) b1
  have X1_0 : Hid (Box w1 (w.heap.size) #[.bool e, .int .i64 a, .int .i64 p]) := ((Box.new' _ #[.bool e, .int .i64 a, .int .i64 p] 45 (w.heap.size) (by simp)).alloc _).below b1
  have X1_1 : Hid (Box w1 (w.heap.size + 1) #[.int .i64 0, .int .i64 0]) := (Box.new' _ #[.int .i64 0, .int .i64 0] 89 (w.heap.size + 1) (by simp)).below b1
  obtain ⟨l1_0, k1_0, f1_0⟩ := X1_0.out
  obtain ⟨l1_1, k1_1, f1_1⟩ := X1_1.out
  clear b1
  go_wp2_with fail
  refine (ct _).mono ?_
  rintro _ w2 ⟨rfl, b2⟩
  have HB2 : Hid (Below w.heap.size w w2) := below_then HB1.out b2
  have X2_0 : Hid (Box w2 (w.heap.size) #[.bool e, .int .i64 a, .int .i64 p]) := X1_0.out.below b2
  have X2_1 : Hid (Box w2 (w.heap.size + 1) #[.int .i64 0, .int .i64 0]) := X1_1.out.below b2
  clear k1_0 l1_0 f1_0 X1_0 k1_1 l1_1 f1_1 X1_1 HB1
  obtain ⟨l2_0, k2_0, f2_0⟩ := X2_0.out
  obtain ⟨l2_1, k2_1, f2_1⟩ := X2_1.out
  clear b2
  go_wp2_with fail
  refine (c3 _).mono ?_
  rintro _ w3 ⟨z, rfl, hz, b3⟩
  have HB3 : Hid (Below w.heap.size w w3) := below_then HB2.out b3
  have X3_0 : Hid (Box w3 (w.heap.size) #[.bool e, .int .i64 a, .int .i64 p]) := X2_0.out.below b3
  have X3_1 : Hid (Box w3 (w.heap.size + 1) #[.int .i64 0, .int .i64 0]) := X2_1.out.below b3
  clear k2_0 l2_0 f2_0 X2_0 k2_1 l2_1 f2_1 X2_1 HB2
  obtain ⟨l3_0, k3_0, f3_0⟩ := X3_0.out
  obtain ⟨l3_1, k3_1, f3_1⟩ := X3_1.out
  have HZ : Hid (DFault w3 z _ _) := hz
  clear b3 hz
  go_wp2_with fail
  refine bodyPost_ret (v := .tuple #[.agg #[.int .i64 0, .int .i64 0], .slice none 0 0, .iface 122 (.pointer (some ⟨z, 0, none⟩))]) ?_ rfl ⟨z, rfl, ?_, ?_⟩
  · simp [results, Tryz.results59, go_sem, k3_1]
  · exact (dff2 HB3.out HZ.out (by omega) (box_ne X3_1.out HZ.out (fun s => by simp)) _ _).1
  · exact (dff2 HB3.out HZ.out (by omega) (box_ne X3_1.out HZ.out (fun s => by simp)) _ _).2
set_option maxRecDepth 100000 in
set_option maxHeartbeats 4000000 in
theorem Start_nt (e : Bool) (a p : Int) (t : Int) (noted : Bool) (w : World) (hV : PVc w) (ok : okB e a p = true) (tr : decide (0 ≤ t ∧ t ≤ 16) = true) (hn : noted = true) (hm : caB e a = false) : Calls Tryz.prog 59 #[.agg #[.bool e, .int .i64 a, .int .i64 p], .int .i64 t, .bool noted] w (fun r w' => ∃ z, r = .returned (.tuple #[.agg #[.int .i64 0, .int .i64 0], .slice none 0 0, .iface 122 (.pointer (some ⟨z, 0, none⟩))]) ∧ DFault w' z 1 220 ∧ Below w.heap.size w w') := by
  have HV : Hid (PVc w) := hV
  clear hV
  have c1 := fun x => refuse_ok e a p x ok
  have ct : ∀ x, Calls Tryz.prog 84 #[.int .i64 t] x fun r x' => r = .returned (.bool true) ∧ Below x.heap.size x x' := fun x => (areTries_any t x).mono fun _ _ ⟨h1, h2⟩ => ⟨by rw [h1, tr], h2 ▸ Below.refl _ _⟩
  have cm : Hid (∀ x, PVc x → Calls Tryz.prog 86 #[.agg #[.bool e, .int .i64 a, .int .i64 p], .string ⟨#[67, 65]⟩] x fun r x' => r = .returned (.bool false) ∧ Below x.heap.size x x') := fun x hx => by have := may_any e a p ⟨#[67, 65]⟩ x hx; rw [sent_1, hm] at this; exact this
  subst hn
  clear tr hm
  have c3 := fun x => pfault_ex 1 220 x
  go_enter Tryz.func59, Tryz.ntmps59
  go_wp2_with fail
  refine (c1 _).mono ?_
  rintro _ w1 ⟨rfl, b1⟩
  have HB1 : Hid (Below w.heap.size w w1) := below_then (bl_alloc ((Below.refl _ _).alloc (Nat.le_refl _) _) _) b1
  have X1_0 : Hid (Box w1 (w.heap.size) #[.bool e, .int .i64 a, .int .i64 p]) := ((Box.new' _ #[.bool e, .int .i64 a, .int .i64 p] 45 (w.heap.size) (by simp)).alloc _).below b1
  have X1_1 : Hid (Box w1 (w.heap.size + 1) #[.int .i64 0, .int .i64 0]) := (Box.new' _ #[.int .i64 0, .int .i64 0] 89 (w.heap.size + 1) (by simp)).below b1
  obtain ⟨l1_0, k1_0, f1_0⟩ := X1_0.out
  obtain ⟨l1_1, k1_1, f1_1⟩ := X1_1.out
  clear b1
  go_wp2_with fail
  refine (ct _).mono ?_
  rintro _ w2 ⟨rfl, b2⟩
  have HB2 : Hid (Below w.heap.size w w2) := below_then HB1.out b2
  have X2_0 : Hid (Box w2 (w.heap.size) #[.bool e, .int .i64 a, .int .i64 p]) := X1_0.out.below b2
  have X2_1 : Hid (Box w2 (w.heap.size + 1) #[.int .i64 0, .int .i64 0]) := X1_1.out.below b2
  clear k1_0 l1_0 f1_0 X1_0 k1_1 l1_1 f1_1 X1_1 HB1
  obtain ⟨l2_0, k2_0, f2_0⟩ := X2_0.out
  obtain ⟨l2_1, k2_1, f2_1⟩ := X2_1.out
  clear b2
  go_wp2_with fail
  refine (cm.out _ (HV.out.below HB2.out)).mono ?_
  rintro _ w3 ⟨rfl, b3⟩
  have HB3 : Hid (Below w.heap.size w w3) := below_then HB2.out b3
  have X3_0 : Hid (Box w3 (w.heap.size) #[.bool e, .int .i64 a, .int .i64 p]) := X2_0.out.below b3
  have X3_1 : Hid (Box w3 (w.heap.size + 1) #[.int .i64 0, .int .i64 0]) := X2_1.out.below b3
  clear k2_0 l2_0 f2_0 X2_0 k2_1 l2_1 f2_1 X2_1 HB2
  obtain ⟨l3_0, k3_0, f3_0⟩ := X3_0.out
  obtain ⟨l3_1, k3_1, f3_1⟩ := X3_1.out
  clear b3
  go_wp2_with fail
  refine (c3 _).mono ?_
  rintro _ w4 ⟨z, rfl, hz, b4⟩
  have HB4 : Hid (Below w.heap.size w w4) := below_then HB3.out b4
  have X4_0 : Hid (Box w4 (w.heap.size) #[.bool e, .int .i64 a, .int .i64 p]) := X3_0.out.below b4
  have X4_1 : Hid (Box w4 (w.heap.size + 1) #[.int .i64 0, .int .i64 0]) := X3_1.out.below b4
  clear k3_0 l3_0 f3_0 X3_0 k3_1 l3_1 f3_1 X3_1 HB3
  obtain ⟨l4_0, k4_0, f4_0⟩ := X4_0.out
  obtain ⟨l4_1, k4_1, f4_1⟩ := X4_1.out
  have HZ : Hid (DFault w4 z _ _) := hz
  clear b4 hz
  go_wp2_with fail
  refine bodyPost_ret (v := .tuple #[.agg #[.int .i64 0, .int .i64 0], .slice none 0 0, .iface 122 (.pointer (some ⟨z, 0, none⟩))]) ?_ rfl ⟨z, rfl, ?_, ?_⟩
  · simp [results, Tryz.results59, go_sem, k4_1]
  · exact (dff2 HB4.out HZ.out (by omega) (box_ne X4_1.out HZ.out (fun s => by simp)) _ _).1
  · exact (dff2 HB4.out HZ.out (by omega) (box_ne X4_1.out HZ.out (fun s => by simp)) _ _).2
set_option maxRecDepth 100000 in
set_option maxHeartbeats 4000000 in
theorem Start_oka (e : Bool) (a p : Int) (t : Int) (noted : Bool) (k ak : Int) (ac : ByteArray) (w : World) (hV : PVc w) (ok : okB e a p = true) (tr : decide (0 ≤ t ∧ t ≤ 16) = true) (hn : noted = false) (hb : ∀ x, Calls Tryz.prog 87 #[.agg #[.bool (caB e a), .bool (aaB e p), .bool (earB e a p (caB e a))], .bool noted] x fun r x' => r = .returned (.tuple #[.int .i64 k, .agg #[.int .i64 ak, .string ac]]) ∧ Below x.heap.size x x') : Calls Tryz.prog 59 #[.agg #[.bool e, .int .i64 a, .int .i64 p], .int .i64 t, .bool noted] w (fun r w' => ∃ po cap, r = .returned (.tuple #[.agg #[.int .i64 k, .int .i64 t], .slice po 2 cap, .nilIface]) ∧ ActRow w' w.heap.size (.slice po 2 cap) [(1, nT), (ak, ac)] ∧ Below w.heap.size w w') := by
  have HV : Hid (PVc w) := hV
  clear hV
  have c1 := fun x => refuse_ok e a p x ok
  have ct : ∀ x, Calls Tryz.prog 84 #[.int .i64 t] x fun r x' => r = .returned (.bool true) ∧ Below x.heap.size x x' := fun x => (areTries_any t x).mono fun _ _ ⟨h1, h2⟩ => ⟨by rw [h1, tr], h2 ▸ Below.refl _ _⟩
  have C2 : Hid (∀ x, PVc x → Calls Tryz.prog 88 #[.agg #[.bool e, .int .i64 a, .int .i64 p]] x fun r x' => r = .returned (.agg #[.bool (caB e a), .bool (aaB e p), .bool (earB e a p (caB e a))]) ∧ Below x.heap.size x x') := fun x hx => owedBy_any e a p x hx
  have CB : Hid (∀ x, Calls Tryz.prog 87 #[.agg #[.bool (caB e a), .bool (aaB e p), .bool (earB e a p (caB e a))], .bool noted] x fun r x' => r = .returned (.tuple #[.int .i64 k, .agg #[.int .i64 ak, .string ac]]) ∧ Below x.heap.size x x') := hb
  clear hb tr
  obtain ⟨q1, hq1⟩ : ∃ z, caB e a = z := ⟨_, rfl⟩
  obtain ⟨q2, hq2⟩ : ∃ z, aaB e p = z := ⟨_, rfl⟩
  obtain ⟨q3, hq3⟩ : ∃ z, earB e a p q1 = z := ⟨_, rfl⟩
  rw [hq1, hq2, hq3] at C2 CB
  clear hq1 hq2 hq3
  subst hn
  go_enter Tryz.func59, Tryz.ntmps59
  go_wp2_with fail
  refine (c1 _).mono ?_
  rintro _ w1 ⟨rfl, b1⟩
  have HB1 : Hid (Below w.heap.size w w1) := below_then (bl_alloc ((Below.refl _ _).alloc (Nat.le_refl _) _) _) b1
  have X1_0 : Hid (Box w1 (w.heap.size) #[.bool e, .int .i64 a, .int .i64 p]) := ((Box.new' _ #[.bool e, .int .i64 a, .int .i64 p] 45 (w.heap.size) (by simp)).alloc _).below b1
  have X1_1 : Hid (Box w1 (w.heap.size + 1) #[.int .i64 0, .int .i64 0]) := (Box.new' _ #[.int .i64 0, .int .i64 0] 89 (w.heap.size + 1) (by simp)).below b1
  obtain ⟨l1_0, k1_0, f1_0⟩ := X1_0.out
  obtain ⟨l1_1, k1_1, f1_1⟩ := X1_1.out
  clear b1
  go_wp2_with fail
  refine (ct _).mono ?_
  rintro _ w2 ⟨rfl, b2⟩
  have HB2 : Hid (Below w.heap.size w w2) := below_then HB1.out b2
  have X2_0 : Hid (Box w2 (w.heap.size) #[.bool e, .int .i64 a, .int .i64 p]) := X1_0.out.below b2
  have X2_1 : Hid (Box w2 (w.heap.size + 1) #[.int .i64 0, .int .i64 0]) := X1_1.out.below b2
  clear k1_0 l1_0 f1_0 X1_0 k1_1 l1_1 f1_1 X1_1 HB1
  obtain ⟨l2_0, k2_0, f2_0⟩ := X2_0.out
  obtain ⟨l2_1, k2_1, f2_1⟩ := X2_1.out
  clear b2
  go_wp2_with fail
  refine (C2.out _ (HV.out.below HB2.out)).mono ?_
  rintro _ w3 ⟨rfl, b3⟩
  have HB3 : Hid (Below w.heap.size w w3) := below_then HB2.out b3
  have X3_0 : Hid (Box w3 (w.heap.size) #[.bool e, .int .i64 a, .int .i64 p]) := X2_0.out.below b3
  have X3_1 : Hid (Box w3 (w.heap.size + 1) #[.int .i64 0, .int .i64 0]) := X2_1.out.below b3
  clear k2_0 l2_0 f2_0 X2_0 k2_1 l2_1 f2_1 X2_1 HB2
  obtain ⟨l3_0, k3_0, f3_0⟩ := X3_0.out
  obtain ⟨l3_1, k3_1, f3_1⟩ := X3_1.out
  clear b3
  go_wp2_with fail
  refine (CB.out _).mono ?_
  rintro _ w4 ⟨rfl, b4⟩
  have HB4 : Hid (Below w.heap.size w w4) := below_then HB3.out b4
  have X4_0 : Hid (Box w4 (w.heap.size) #[.bool e, .int .i64 a, .int .i64 p]) := X3_0.out.below b4
  have X4_1 : Hid (Box w4 (w.heap.size + 1) #[.int .i64 0, .int .i64 0]) := X3_1.out.below b4
  clear k3_0 l3_0 f3_0 X3_0 k3_1 l3_1 f3_1 X3_1 HB3
  obtain ⟨l4_0, k4_0, f4_0⟩ := X4_0.out
  obtain ⟨l4_1, k4_1, f4_1⟩ := X4_1.out
  clear b4
  go_upto_region 9 with fail
  go_region
  go_wp2_with fail
  have HSz : Hid (w.heap.size ≤ w4.heap.size) := HB4.out.size
  refine bodyPost_ret (v := .tuple #[.agg #[.int .i64 k, .int .i64 t], .slice (some ⟨w4.heap.size + 1, 0, none⟩) 2 2, .nilIface]) ?_ rfl ⟨_, _, rfl, ActRow.drew' (ActRow.lit' _ _ [(1, nT), (ak, ac)] (w4.heap.size + 1) 2 _ (by simp) (by have := HSz.out; omega) rfl rfl (by simp) (by simp)), Below.drew (bl_alloc (bl_alloc (bel2 HB4.out (by omega) _ _) _) _)⟩
  simp [results, Tryz.results59, go_sem, k4_1, l4_1, l4_0]
set_option maxRecDepth 100000 in
set_option maxHeartbeats 4000000 in
theorem Start_okb (e : Bool) (a p : Int) (t : Int) (noted : Bool) (k ak : Int) (ac : ByteArray) (w : World) (hV : PVc w) (ok : okB e a p = true) (tr : decide (0 ≤ t ∧ t ≤ 16) = true) (hn : noted = true) (hm : caB e a = true) (hb : ∀ x, Calls Tryz.prog 87 #[.agg #[.bool (caB e a), .bool (aaB e p), .bool (earB e a p (caB e a))], .bool noted] x fun r x' => r = .returned (.tuple #[.int .i64 k, .agg #[.int .i64 ak, .string ac]]) ∧ Below x.heap.size x x') : Calls Tryz.prog 59 #[.agg #[.bool e, .int .i64 a, .int .i64 p], .int .i64 t, .bool noted] w (fun r w' => ∃ po cap, r = .returned (.tuple #[.agg #[.int .i64 k, .int .i64 t], .slice po 2 cap, .nilIface]) ∧ ActRow w' w.heap.size (.slice po 2 cap) [(1, nT), (ak, ac)] ∧ Below w.heap.size w w') := by
  have HV : Hid (PVc w) := hV
  clear hV
  have c1 := fun x => refuse_ok e a p x ok
  have ct : ∀ x, Calls Tryz.prog 84 #[.int .i64 t] x fun r x' => r = .returned (.bool true) ∧ Below x.heap.size x x' := fun x => (areTries_any t x).mono fun _ _ ⟨h1, h2⟩ => ⟨by rw [h1, tr], h2 ▸ Below.refl _ _⟩
  have cm : Hid (∀ x, PVc x → Calls Tryz.prog 86 #[.agg #[.bool e, .int .i64 a, .int .i64 p], .string ⟨#[67, 65]⟩] x fun r x' => r = .returned (.bool true) ∧ Below x.heap.size x x') := fun x hx => by have := may_any e a p ⟨#[67, 65]⟩ x hx; rw [sent_1, hm] at this; exact this
  have C2 : Hid (∀ x, PVc x → Calls Tryz.prog 88 #[.agg #[.bool e, .int .i64 a, .int .i64 p]] x fun r x' => r = .returned (.agg #[.bool (caB e a), .bool (aaB e p), .bool (earB e a p (caB e a))]) ∧ Below x.heap.size x x') := fun x hx => owedBy_any e a p x hx
  have CB : Hid (∀ x, Calls Tryz.prog 87 #[.agg #[.bool (caB e a), .bool (aaB e p), .bool (earB e a p (caB e a))], .bool noted] x fun r x' => r = .returned (.tuple #[.int .i64 k, .agg #[.int .i64 ak, .string ac]]) ∧ Below x.heap.size x x') := hb
  clear hb tr hm
  obtain ⟨q1, hq1⟩ : ∃ z, caB e a = z := ⟨_, rfl⟩
  obtain ⟨q2, hq2⟩ : ∃ z, aaB e p = z := ⟨_, rfl⟩
  obtain ⟨q3, hq3⟩ : ∃ z, earB e a p q1 = z := ⟨_, rfl⟩
  rw [hq1, hq2, hq3] at C2 CB
  clear hq1 hq2 hq3
  subst hn
  go_enter Tryz.func59, Tryz.ntmps59
  go_wp2_with fail
  refine (c1 _).mono ?_
  rintro _ w1 ⟨rfl, b1⟩
  have HB1 : Hid (Below w.heap.size w w1) := below_then (bl_alloc ((Below.refl _ _).alloc (Nat.le_refl _) _) _) b1
  have X1_0 : Hid (Box w1 (w.heap.size) #[.bool e, .int .i64 a, .int .i64 p]) := ((Box.new' _ #[.bool e, .int .i64 a, .int .i64 p] 45 (w.heap.size) (by simp)).alloc _).below b1
  have X1_1 : Hid (Box w1 (w.heap.size + 1) #[.int .i64 0, .int .i64 0]) := (Box.new' _ #[.int .i64 0, .int .i64 0] 89 (w.heap.size + 1) (by simp)).below b1
  obtain ⟨l1_0, k1_0, f1_0⟩ := X1_0.out
  obtain ⟨l1_1, k1_1, f1_1⟩ := X1_1.out
  clear b1
  go_wp2_with fail
  refine (ct _).mono ?_
  rintro _ w2 ⟨rfl, b2⟩
  have HB2 : Hid (Below w.heap.size w w2) := below_then HB1.out b2
  have X2_0 : Hid (Box w2 (w.heap.size) #[.bool e, .int .i64 a, .int .i64 p]) := X1_0.out.below b2
  have X2_1 : Hid (Box w2 (w.heap.size + 1) #[.int .i64 0, .int .i64 0]) := X1_1.out.below b2
  clear k1_0 l1_0 f1_0 X1_0 k1_1 l1_1 f1_1 X1_1 HB1
  obtain ⟨l2_0, k2_0, f2_0⟩ := X2_0.out
  obtain ⟨l2_1, k2_1, f2_1⟩ := X2_1.out
  clear b2
  go_wp2_with fail
  refine (cm.out _ (HV.out.below HB2.out)).mono ?_
  rintro _ w3 ⟨rfl, b3⟩
  have HB3 : Hid (Below w.heap.size w w3) := below_then HB2.out b3
  have X3_0 : Hid (Box w3 (w.heap.size) #[.bool e, .int .i64 a, .int .i64 p]) := X2_0.out.below b3
  have X3_1 : Hid (Box w3 (w.heap.size + 1) #[.int .i64 0, .int .i64 0]) := X2_1.out.below b3
  clear k2_0 l2_0 f2_0 X2_0 k2_1 l2_1 f2_1 X2_1 HB2
  obtain ⟨l3_0, k3_0, f3_0⟩ := X3_0.out
  obtain ⟨l3_1, k3_1, f3_1⟩ := X3_1.out
  clear b3
  go_wp2_with fail
  refine (C2.out _ (HV.out.below HB3.out)).mono ?_
  rintro _ w4 ⟨rfl, b4⟩
  have HB4 : Hid (Below w.heap.size w w4) := below_then HB3.out b4
  have X4_0 : Hid (Box w4 (w.heap.size) #[.bool e, .int .i64 a, .int .i64 p]) := X3_0.out.below b4
  have X4_1 : Hid (Box w4 (w.heap.size + 1) #[.int .i64 0, .int .i64 0]) := X3_1.out.below b4
  clear k3_0 l3_0 f3_0 X3_0 k3_1 l3_1 f3_1 X3_1 HB3
  obtain ⟨l4_0, k4_0, f4_0⟩ := X4_0.out
  obtain ⟨l4_1, k4_1, f4_1⟩ := X4_1.out
  clear b4
  go_wp2_with fail
  refine (CB.out _).mono ?_
  rintro _ w5 ⟨rfl, b5⟩
  have HB5 : Hid (Below w.heap.size w w5) := below_then HB4.out b5
  have X5_0 : Hid (Box w5 (w.heap.size) #[.bool e, .int .i64 a, .int .i64 p]) := X4_0.out.below b5
  have X5_1 : Hid (Box w5 (w.heap.size + 1) #[.int .i64 0, .int .i64 0]) := X4_1.out.below b5
  clear k4_0 l4_0 f4_0 X4_0 k4_1 l4_1 f4_1 X4_1 HB4
  obtain ⟨l5_0, k5_0, f5_0⟩ := X5_0.out
  obtain ⟨l5_1, k5_1, f5_1⟩ := X5_1.out
  clear b5
  go_upto_region 9 with fail
  go_region
  go_wp2_with fail
  have HSz : Hid (w.heap.size ≤ w5.heap.size) := HB5.out.size
  refine bodyPost_ret (v := .tuple #[.agg #[.int .i64 k, .int .i64 t], .slice (some ⟨w5.heap.size + 1, 0, none⟩) 2 2, .nilIface]) ?_ rfl ⟨_, _, rfl, ActRow.drew' (ActRow.lit' _ _ [(1, nT), (ak, ac)] (w5.heap.size + 1) 2 _ (by simp) (by have := HSz.out; omega) rfl rfl (by simp) (by simp)), Below.drew (bl_alloc (bl_alloc (bel2 HB5.out (by omega) _ _) _) _)⟩
  simp [results, Tryz.results59, go_sem, k5_1, l5_1, l5_0]
end Go.Proofs.YtoijhecphgdfnaaGreatDoor
