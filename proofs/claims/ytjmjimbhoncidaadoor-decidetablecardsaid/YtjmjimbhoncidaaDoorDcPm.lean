/-
  The program's Take, Judge, Copy.
-/
import Derived.Test.YtjmjimbhoncidaaDoorDcPi
namespace Go.Proofs.YtjmjimbhoncidaaDoor
open Go.RowKit

set_option maxRecDepth 100000 in
set_option maxHeartbeats 2000000 in
theorem Take_no (e : Bool) (a p : Int) (w : World) (ok : okB e a p = false) : Calls Tryd.prog 26 #[.agg #[.bool e, .int .i64 a, .int .i64 p]] w (fun r w' => ∃ z, r = .returned (.tuple #[.agg #[.bool false, .string ⟨#[]⟩], .slice none 0 0, .iface 108 (.pointer (some ⟨z, 0, none⟩))]) ∧ DFault w' z 0 220 ∧ Below w.heap.size w w') := by
  have c1 := fun x => refuse_no e a p x ok
  go_enter Tryd.func26, Tryd.ntmps26
  go_wp2_with fail
  refine (c1 _).mono ?_
  rintro _ w1 ⟨z, rfl, hz, b1⟩
  have HB1 : Hid (Below w.heap.size w w1) := below_then (bl_alloc ((Below.refl _ _).alloc (Nat.le_refl _) _) _) b1
  have X1_0 : Hid (Box w1 (w.heap.size) #[.bool e, .int .i64 a, .int .i64 p]) := ((Box.new' _ #[.bool e, .int .i64 a, .int .i64 p] 23 (w.heap.size) (by simp)).alloc _).below b1
  have X1_1 : Hid (Box w1 (w.heap.size + 1) #[.bool false, .string ⟨#[]⟩]) := (Box.new' _ #[.bool false, .string ⟨#[]⟩] 59 (w.heap.size + 1) (by simp)).below b1
  obtain ⟨l1_0, k1_0, f1_0⟩ := X1_0.out
  obtain ⟨l1_1, k1_1, f1_1⟩ := X1_1.out
  have HZ : Hid (DFault w1 z 0 220) := hz
  clear b1 hz
  go_wp2_with fail
  refine bodyPost_ret (v := .tuple #[.agg #[.bool false, .string ⟨#[]⟩], .slice none 0 0, .iface 108 (.pointer (some ⟨z, 0, none⟩))]) ?_ rfl ⟨z, rfl, ?_, ?_⟩
  · simp [results, Tryd.results26, go_sem, k1_1]
  · exact (dff2 HB1.out HZ.out (by omega) (box_ne X1_1.out HZ.out (fun s => by simp)) _ _).1
  · exact (dff2 HB1.out HZ.out (by omega) (box_ne X1_1.out HZ.out (fun s => by simp)) _ _).2
set_option maxRecDepth 100000 in
set_option maxHeartbeats 4000000 in
theorem Take_a (e : Bool) (a p : Int) (w : World) (hV : PVc w) (ok : okB e a p = true) (h : caB e a = true) : Calls Tryd.prog 26 #[.agg #[.bool e, .int .i64 a, .int .i64 p]] w (fun r w' => ∃ po cap, r = .returned (.tuple #[.agg #[.bool false, .string ⟨#[]⟩], .slice po 2 cap, .nilIface]) ∧ ActRow w' w.heap.size (.slice po 2 cap) [(7, kCA), (8, nT)] ∧ Below w.heap.size w w') := by
  have HV : Hid (PVc w) := hV
  clear hV
  have c1 := fun x => refuse_ok e a p x ok
  have cs : Hid (∀ x, PVc x → Calls Tryd.prog 55 #[.agg #[.bool e, .int .i64 a, .int .i64 p], .int .i64 7, .string ⟨#[67, 65]⟩] x fun r x' => ∃ b, r = .returned (.slice (some ⟨b, 0, none⟩) 1 1) ∧ ActRow x' x.heap.size (.slice (some ⟨b, 0, none⟩) 1 1) [(7, kCA)] ∧ Below x.heap.size x x') := fun x hx => sent_yes e a p 7 ⟨#[67, 65]⟩ x hx (by rw [sent_1]; exact h)
  clear ok h
  go_enter Tryd.func26, Tryd.ntmps26
  go_wp2_with fail
  refine (c1 _).mono ?_
  rintro _ w1 ⟨rfl, b1⟩
  have HB1 : Hid (Below w.heap.size w w1) := below_then (bl_alloc ((Below.refl _ _).alloc (Nat.le_refl _) _) _) b1
  have X1_0 : Hid (Box w1 (w.heap.size) #[.bool e, .int .i64 a, .int .i64 p]) := ((Box.new' _ #[.bool e, .int .i64 a, .int .i64 p] 23 (w.heap.size) (by simp)).alloc _).below b1
  have X1_1 : Hid (Box w1 (w.heap.size + 1) #[.bool false, .string ⟨#[]⟩]) := (Box.new' _ #[.bool false, .string ⟨#[]⟩] 59 (w.heap.size + 1) (by simp)).below b1
  obtain ⟨l1_0, k1_0, f1_0⟩ := X1_0.out
  obtain ⟨l1_1, k1_1, f1_1⟩ := X1_1.out
  clear b1
  go_wp2_with fail
  refine (cs.out _ (HV.out.below HB1.out)).mono ?_
  rintro _ w2 ⟨b, rfl, r2, b2⟩
  have HZ2 : Hid (w.heap.size + 1 + 1 ≤ w1.heap.size) := l1_1
  have HB2 : Hid (Below w.heap.size w w2) := below_then HB1.out b2
  have X2_0 : Hid (Box w2 (w.heap.size) #[.bool e, .int .i64 a, .int .i64 p]) := X1_0.out.below b2
  have X2_1 : Hid (Box w2 (w.heap.size + 1) #[.bool false, .string ⟨#[]⟩]) := X1_1.out.below b2
  clear k1_0 l1_0 f1_0 X1_0 k1_1 l1_1 f1_1 X1_1 HB1
  obtain ⟨l2_0, k2_0, f2_0⟩ := X2_0.out
  obtain ⟨l2_1, k2_1, f2_1⟩ := X2_1.out
  have HR : Hid (ActRow w2 (w.heap.size + 1 + 1) (.slice (some ⟨b, 0, none⟩) 1 1) [(7, kCA)]) := r2.mono HZ2.out
  clear b2 r2
  have HSz : Hid (w.heap.size + 1 + 1 ≤ w2.heap.size) := l2_1
  obtain ⟨a3, d3, w3, e3, r3, b3⟩ := run_apush HR.out HSz.out (by simp) (8, nT) #[.int .i64 8, .string ⟨#[]⟩] rfl
  have g3 : (Builtin.append_ #[51, 51] 51 #[.slice (some ⟨b, 0, none⟩) 1 1, .slice (some ⟨w2.heap.size, 0, none⟩) 1 1]).run Tryd.prog (w2.alloc (.cells #[.int .i64 8, .string ⟨#[]⟩] 85)) = .ok (.slice a3 2 d3) w3 := e3
  have HR3 : Hid (ActRow w3 (w.heap.size + 1 + 1) (.slice a3 2 d3) [(7, kCA), (8, nT)]) := r3
  have HB3 : Hid (Below w.heap.size w w3) := HB2.out.trans (b3.mono (by omega))
  have X3_1 : Hid (Box w3 (w.heap.size + 1) #[.bool false, .string ⟨#[]⟩]) := X2_1.out.belowB b3 (by omega) HSz.out
  clear e3 r3 b3
  obtain ⟨l3_1, k3_1, f3_1⟩ := X3_1.out
  go_wp2_with (at_builtin; refine wpList_append_run rfl (.tmp 14) (.tmp 16) 51 _ rfl g3 ?_)
  refine bodyPost_ret (v := .tuple #[.agg #[.bool false, .string ⟨#[]⟩], .slice a3 2 d3, .nilIface]) ?_ rfl ⟨_, _, rfl, ?_, ?_⟩
  · simp [results, Tryd.results26, go_sem, k3_1]
  · exact (fin2 HB3.out HR3.out (by omega) (by omega)).1
  · exact (fin2 HB3.out HR3.out (by omega) (by omega)).2
set_option maxRecDepth 100000 in
set_option maxHeartbeats 4000000 in
theorem Take_b (e : Bool) (a p : Int) (w : World) (hV : PVc w) (ok : okB e a p = true) (h : caB e a = false) : Calls Tryd.prog 26 #[.agg #[.bool e, .int .i64 a, .int .i64 p]] w (fun r w' => ∃ po cap, r = .returned (.tuple #[.agg #[.bool false, .string ⟨#[]⟩], .slice po 1 cap, .nilIface]) ∧ ActRow w' w.heap.size (.slice po 1 cap) [(8, nT)] ∧ Below w.heap.size w w') := by
  have HV : Hid (PVc w) := hV
  clear hV
  have c1 := fun x => refuse_ok e a p x ok
  have cs : Hid (∀ x, PVc x → Calls Tryd.prog 55 #[.agg #[.bool e, .int .i64 a, .int .i64 p], .int .i64 7, .string ⟨#[67, 65]⟩] x fun r x' => r = .returned (.slice none 0 0) ∧ Below x.heap.size x x') := fun x hx => sent_no e a p 7 ⟨#[67, 65]⟩ x hx (by rw [sent_1]; exact h)
  clear ok h
  go_enter Tryd.func26, Tryd.ntmps26
  go_wp2_with fail
  refine (c1 _).mono ?_
  rintro _ w1 ⟨rfl, b1⟩
  have HB1 : Hid (Below w.heap.size w w1) := below_then (bl_alloc ((Below.refl _ _).alloc (Nat.le_refl _) _) _) b1
  have X1_0 : Hid (Box w1 (w.heap.size) #[.bool e, .int .i64 a, .int .i64 p]) := ((Box.new' _ #[.bool e, .int .i64 a, .int .i64 p] 23 (w.heap.size) (by simp)).alloc _).below b1
  have X1_1 : Hid (Box w1 (w.heap.size + 1) #[.bool false, .string ⟨#[]⟩]) := (Box.new' _ #[.bool false, .string ⟨#[]⟩] 59 (w.heap.size + 1) (by simp)).below b1
  obtain ⟨l1_0, k1_0, f1_0⟩ := X1_0.out
  obtain ⟨l1_1, k1_1, f1_1⟩ := X1_1.out
  clear b1
  go_wp2_with fail
  refine (cs.out _ (HV.out.below HB1.out)).mono ?_
  rintro _ w2 ⟨rfl, b2⟩
  have HB2 : Hid (Below w.heap.size w w2) := below_then HB1.out b2
  have X2_0 : Hid (Box w2 (w.heap.size) #[.bool e, .int .i64 a, .int .i64 p]) := X1_0.out.below b2
  have X2_1 : Hid (Box w2 (w.heap.size + 1) #[.bool false, .string ⟨#[]⟩]) := X1_1.out.below b2
  clear k1_0 l1_0 f1_0 X1_0 k1_1 l1_1 f1_1 X1_1 HB1
  obtain ⟨l2_0, k2_0, f2_0⟩ := X2_0.out
  obtain ⟨l2_1, k2_1, f2_1⟩ := X2_1.out
  have HR : Hid (ActRow w2 (w.heap.size + 1 + 1) (.slice none 0 0) []) := ActRow.nil _ _
  clear b2
  have HSz : Hid (w.heap.size + 1 + 1 ≤ w2.heap.size) := l2_1
  obtain ⟨a3, d3, w3, e3, r3, b3⟩ := run_apush HR.out HSz.out (by simp) (8, nT) #[.int .i64 8, .string ⟨#[]⟩] rfl
  have g3 : (Builtin.append_ #[51, 51] 51 #[.slice none 0 0, .slice (some ⟨w2.heap.size, 0, none⟩) 1 1]).run Tryd.prog (w2.alloc (.cells #[.int .i64 8, .string ⟨#[]⟩] 85)) = .ok (.slice a3 1 d3) w3 := e3
  have HR3 : Hid (ActRow w3 (w.heap.size + 1 + 1) (.slice a3 1 d3) [(8, nT)]) := r3
  have HB3 : Hid (Below w.heap.size w w3) := HB2.out.trans (b3.mono (by omega))
  have X3_1 : Hid (Box w3 (w.heap.size + 1) #[.bool false, .string ⟨#[]⟩]) := X2_1.out.belowB b3 (by omega) HSz.out
  clear e3 r3 b3
  obtain ⟨l3_1, k3_1, f3_1⟩ := X3_1.out
  go_wp2_with (at_builtin; refine wpList_append_run rfl (.tmp 14) (.tmp 16) 51 _ rfl g3 ?_)
  refine bodyPost_ret (v := .tuple #[.agg #[.bool false, .string ⟨#[]⟩], .slice a3 1 d3, .nilIface]) ?_ rfl ⟨_, _, rfl, ?_, ?_⟩
  · simp [results, Tryd.results26, go_sem, k3_1]
  · exact (fin2 HB3.out HR3.out (by omega) (by omega)).1
  · exact (fin2 HB3.out HR3.out (by omega) (by omega)).2
set_option maxRecDepth 100000 in
set_option maxHeartbeats 2000000 in
theorem Judge_no (e : Bool) (a p : Int) (d : Bool) (c s : ByteArray) (w : World) (ok : okB e a p = false) : Calls Tryd.prog 28 #[.agg #[.bool e, .int .i64 a, .int .i64 p], .agg #[.bool d, .string c], .string s] w (fun r w' => ∃ z, r = .returned (.tuple #[.agg #[.bool false, .string ⟨#[]⟩], .slice none 0 0, .iface 108 (.pointer (some ⟨z, 0, none⟩))]) ∧ DFault w' z 0 220 ∧ Below w.heap.size w w') := by
  have c1 := fun x => refuse_no e a p x ok
  go_enter Tryd.func28, Tryd.ntmps28
  go_wp2_with fail
  refine (c1 _).mono ?_
  rintro _ w1 ⟨z, rfl, hz, b1⟩
  have HB1 : Hid (Below w.heap.size w w1) := below_then (bl_alloc (bl_alloc ((Below.refl _ _).alloc (Nat.le_refl _) _) _) _) b1
  have X1_0 : Hid (Box w1 (w.heap.size) #[.bool e, .int .i64 a, .int .i64 p]) := (((Box.new' _ #[.bool e, .int .i64 a, .int .i64 p] 23 (w.heap.size) (by simp)).alloc _).alloc _).below b1
  have X1_1 : Hid (Box w1 (w.heap.size + 1) #[.bool d, .string c]) := ((Box.new' _ #[.bool d, .string c] 59 (w.heap.size + 1) (by simp)).alloc _).below b1
  have X1_2 : Hid (Box w1 (w.heap.size + 1 + 1) #[.bool false, .string ⟨#[]⟩]) := (Box.new' _ #[.bool false, .string ⟨#[]⟩] 59 (w.heap.size + 1 + 1) (by simp)).below b1
  obtain ⟨l1_0, k1_0, f1_0⟩ := X1_0.out
  obtain ⟨l1_1, k1_1, f1_1⟩ := X1_1.out
  obtain ⟨l1_2, k1_2, f1_2⟩ := X1_2.out
  have HZ : Hid (DFault w1 z 0 220) := hz
  clear b1 hz
  go_wp2_with fail
  refine bodyPost_ret (v := .tuple #[.agg #[.bool false, .string ⟨#[]⟩], .slice none 0 0, .iface 108 (.pointer (some ⟨z, 0, none⟩))]) ?_ rfl ⟨z, rfl, ?_, ?_⟩
  · simp [results, Tryd.results28, go_sem, k1_2]
  · exact (dff2 HB1.out HZ.out (by omega) (box_ne X1_2.out HZ.out (fun s => by simp)) _ _).1
  · exact (dff2 HB1.out HZ.out (by omega) (box_ne X1_2.out HZ.out (fun s => by simp)) _ _).2
set_option maxRecDepth 100000 in
set_option maxHeartbeats 4000000 in
theorem Judge_k (e : Bool) (a p : Int) (d : Bool) (c s : ByteArray) (w : World) (hV : PVc w) (ok : okB e a p = true) (hk : keptB d c = false) : Calls Tryd.prog 28 #[.agg #[.bool e, .int .i64 a, .int .i64 p], .agg #[.bool d, .string c], .string s] w (fun r w' => ∃ z, r = .returned (.tuple #[.agg #[.bool false, .string ⟨#[]⟩], .slice none 0 0, .iface 108 (.pointer (some ⟨z, 0, none⟩))]) ∧ DFault w' z 0 223 ∧ Below w.heap.size w w') := by
  have HV : Hid (PVc w) := hV
  clear hV
  have c1 := fun x => refuse_ok e a p x ok
  have ck : Hid (∀ x, PVc x → Calls Tryd.prog 56 #[.agg #[.bool d, .string c]] x fun r x' => r = .returned (.bool false) ∧ Below x.heap.size x x') := fun x hx => by have := isKept_any d c x hx; rw [hk] at this; exact this
  clear ok hk
  have c3 := fun x => pfault_ex 0 223 x
  go_enter Tryd.func28, Tryd.ntmps28
  go_wp2_with fail
  refine (c1 _).mono ?_
  rintro _ w1 ⟨rfl, b1⟩
  have HB1 : Hid (Below w.heap.size w w1) := below_then (bl_alloc (bl_alloc ((Below.refl _ _).alloc (Nat.le_refl _) _) _) _) b1
  have X1_0 : Hid (Box w1 (w.heap.size) #[.bool e, .int .i64 a, .int .i64 p]) := (((Box.new' _ #[.bool e, .int .i64 a, .int .i64 p] 23 (w.heap.size) (by simp)).alloc _).alloc _).below b1
  have X1_1 : Hid (Box w1 (w.heap.size + 1) #[.bool d, .string c]) := ((Box.new' _ #[.bool d, .string c] 59 (w.heap.size + 1) (by simp)).alloc _).below b1
  have X1_2 : Hid (Box w1 (w.heap.size + 1 + 1) #[.bool false, .string ⟨#[]⟩]) := (Box.new' _ #[.bool false, .string ⟨#[]⟩] 59 (w.heap.size + 1 + 1) (by simp)).below b1
  obtain ⟨l1_0, k1_0, f1_0⟩ := X1_0.out
  obtain ⟨l1_1, k1_1, f1_1⟩ := X1_1.out
  obtain ⟨l1_2, k1_2, f1_2⟩ := X1_2.out
  clear b1
  go_wp2_with fail
  refine (ck.out _ (HV.out.below HB1.out)).mono ?_
  rintro _ w2 ⟨rfl, b2⟩
  have HB2 : Hid (Below w.heap.size w w2) := below_then HB1.out b2
  have X2_0 : Hid (Box w2 (w.heap.size) #[.bool e, .int .i64 a, .int .i64 p]) := X1_0.out.below b2
  have X2_1 : Hid (Box w2 (w.heap.size + 1) #[.bool d, .string c]) := X1_1.out.below b2
  have X2_2 : Hid (Box w2 (w.heap.size + 1 + 1) #[.bool false, .string ⟨#[]⟩]) := X1_2.out.below b2
  clear k1_0 l1_0 f1_0 X1_0 k1_1 l1_1 f1_1 X1_1 k1_2 l1_2 f1_2 X1_2 HB1
  obtain ⟨l2_0, k2_0, f2_0⟩ := X2_0.out
  obtain ⟨l2_1, k2_1, f2_1⟩ := X2_1.out
  obtain ⟨l2_2, k2_2, f2_2⟩ := X2_2.out
  clear b2
  go_wp2_with fail
  refine (c3 _).mono ?_
  rintro _ w3 ⟨z, rfl, hz, b3⟩
  have HB3 : Hid (Below w.heap.size w w3) := below_then HB2.out b3
  have X3_0 : Hid (Box w3 (w.heap.size) #[.bool e, .int .i64 a, .int .i64 p]) := X2_0.out.below b3
  have X3_1 : Hid (Box w3 (w.heap.size + 1) #[.bool d, .string c]) := X2_1.out.below b3
  have X3_2 : Hid (Box w3 (w.heap.size + 1 + 1) #[.bool false, .string ⟨#[]⟩]) := X2_2.out.below b3
  clear k2_0 l2_0 f2_0 X2_0 k2_1 l2_1 f2_1 X2_1 k2_2 l2_2 f2_2 X2_2 HB2
  obtain ⟨l3_0, k3_0, f3_0⟩ := X3_0.out
  obtain ⟨l3_1, k3_1, f3_1⟩ := X3_1.out
  obtain ⟨l3_2, k3_2, f3_2⟩ := X3_2.out
  have HZ : Hid (DFault w3 z _ _) := hz
  clear b3 hz
  go_wp2_with fail
  refine bodyPost_ret (v := .tuple #[.agg #[.bool false, .string ⟨#[]⟩], .slice none 0 0, .iface 108 (.pointer (some ⟨z, 0, none⟩))]) ?_ rfl ⟨z, rfl, ?_, ?_⟩
  · simp [results, Tryd.results28, go_sem, k3_2]
  · exact (dff2 HB3.out HZ.out (by omega) (box_ne X3_2.out HZ.out (fun s => by simp)) _ _).1
  · exact (dff2 HB3.out HZ.out (by omega) (box_ne X3_2.out HZ.out (fun s => by simp)) _ _).2
set_option maxRecDepth 100000 in
set_option maxHeartbeats 4000000 in
theorem Judge_d (e : Bool) (a p : Int) (d : Bool) (c s : ByteArray) (w : World) (hV : PVc w) (ok : okB e a p = true) (hk : keptB d c = true) (hd : d = true) : Calls Tryd.prog 28 #[.agg #[.bool e, .int .i64 a, .int .i64 p], .agg #[.bool d, .string c], .string s] w (fun r w' => ∃ z, r = .returned (.tuple #[.agg #[.bool false, .string ⟨#[]⟩], .slice none 0 0, .iface 108 (.pointer (some ⟨z, 0, none⟩))]) ∧ DFault w' z 0 223 ∧ Below w.heap.size w w') := by
  have HV : Hid (PVc w) := hV
  clear hV
  have c1 := fun x => refuse_ok e a p x ok
  have ck : Hid (∀ x, PVc x → Calls Tryd.prog 56 #[.agg #[.bool d, .string c]] x fun r x' => r = .returned (.bool true) ∧ Below x.heap.size x x') := fun x hx => by have := isKept_any d c x hx; rw [hk] at this; exact this
  clear ok hk
  subst hd
  have c3 := fun x => pfault_ex 0 223 x
  go_enter Tryd.func28, Tryd.ntmps28
  go_wp2_with fail
  refine (c1 _).mono ?_
  rintro _ w1 ⟨rfl, b1⟩
  have HB1 : Hid (Below w.heap.size w w1) := below_then (bl_alloc (bl_alloc ((Below.refl _ _).alloc (Nat.le_refl _) _) _) _) b1
  have X1_0 : Hid (Box w1 (w.heap.size) #[.bool e, .int .i64 a, .int .i64 p]) := (((Box.new' _ #[.bool e, .int .i64 a, .int .i64 p] 23 (w.heap.size) (by simp)).alloc _).alloc _).below b1
  have X1_1 : Hid (Box w1 (w.heap.size + 1) #[.bool true, .string c]) := ((Box.new' _ #[.bool true, .string c] 59 (w.heap.size + 1) (by simp)).alloc _).below b1
  have X1_2 : Hid (Box w1 (w.heap.size + 1 + 1) #[.bool false, .string ⟨#[]⟩]) := (Box.new' _ #[.bool false, .string ⟨#[]⟩] 59 (w.heap.size + 1 + 1) (by simp)).below b1
  obtain ⟨l1_0, k1_0, f1_0⟩ := X1_0.out
  obtain ⟨l1_1, k1_1, f1_1⟩ := X1_1.out
  obtain ⟨l1_2, k1_2, f1_2⟩ := X1_2.out
  clear b1
  go_wp2_with fail
  refine (ck.out _ (HV.out.below HB1.out)).mono ?_
  rintro _ w2 ⟨rfl, b2⟩
  have HB2 : Hid (Below w.heap.size w w2) := below_then HB1.out b2
  have X2_0 : Hid (Box w2 (w.heap.size) #[.bool e, .int .i64 a, .int .i64 p]) := X1_0.out.below b2
  have X2_1 : Hid (Box w2 (w.heap.size + 1) #[.bool true, .string c]) := X1_1.out.below b2
  have X2_2 : Hid (Box w2 (w.heap.size + 1 + 1) #[.bool false, .string ⟨#[]⟩]) := X1_2.out.below b2
  clear k1_0 l1_0 f1_0 X1_0 k1_1 l1_1 f1_1 X1_1 k1_2 l1_2 f1_2 X1_2 HB1
  obtain ⟨l2_0, k2_0, f2_0⟩ := X2_0.out
  obtain ⟨l2_1, k2_1, f2_1⟩ := X2_1.out
  obtain ⟨l2_2, k2_2, f2_2⟩ := X2_2.out
  clear b2
  go_wp2_with fail
  refine (c3 _).mono ?_
  rintro _ w3 ⟨z, rfl, hz, b3⟩
  have HB3 : Hid (Below w.heap.size w w3) := below_then HB2.out b3
  have X3_0 : Hid (Box w3 (w.heap.size) #[.bool e, .int .i64 a, .int .i64 p]) := X2_0.out.below b3
  have X3_1 : Hid (Box w3 (w.heap.size + 1) #[.bool true, .string c]) := X2_1.out.below b3
  have X3_2 : Hid (Box w3 (w.heap.size + 1 + 1) #[.bool false, .string ⟨#[]⟩]) := X2_2.out.below b3
  clear k2_0 l2_0 f2_0 X2_0 k2_1 l2_1 f2_1 X2_1 k2_2 l2_2 f2_2 X2_2 HB2
  obtain ⟨l3_0, k3_0, f3_0⟩ := X3_0.out
  obtain ⟨l3_1, k3_1, f3_1⟩ := X3_1.out
  obtain ⟨l3_2, k3_2, f3_2⟩ := X3_2.out
  have HZ : Hid (DFault w3 z _ _) := hz
  clear b3 hz
  go_wp2_with fail
  refine bodyPost_ret (v := .tuple #[.agg #[.bool false, .string ⟨#[]⟩], .slice none 0 0, .iface 108 (.pointer (some ⟨z, 0, none⟩))]) ?_ rfl ⟨z, rfl, ?_, ?_⟩
  · simp [results, Tryd.results28, go_sem, k3_2]
  · exact (dff2 HB3.out HZ.out (by omega) (box_ne X3_2.out HZ.out (fun s => by simp)) _ _).1
  · exact (dff2 HB3.out HZ.out (by omega) (box_ne X3_2.out HZ.out (fun s => by simp)) _ _).2
set_option maxRecDepth 100000 in
set_option maxHeartbeats 4000000 in
theorem Judge_c (e : Bool) (a p : Int) (d : Bool) (c s : ByteArray) (w : World) (hV : PVc w) (ok : okB e a p = true) (hk : keptB d c = true) (hd : d = false) (hv : verB s = false) : Calls Tryd.prog 28 #[.agg #[.bool e, .int .i64 a, .int .i64 p], .agg #[.bool d, .string c], .string s] w (fun r w' => ∃ z, r = .returned (.tuple #[.agg #[.bool false, .string ⟨#[]⟩], .slice none 0 0, .iface 108 (.pointer (some ⟨z, 0, none⟩))]) ∧ DFault w' z 0 221 ∧ Below w.heap.size w w') := by
  have HV : Hid (PVc w) := hV
  clear hV
  have c1 := fun x => refuse_ok e a p x ok
  have ck : Hid (∀ x, PVc x → Calls Tryd.prog 56 #[.agg #[.bool d, .string c]] x fun r x' => r = .returned (.bool true) ∧ Below x.heap.size x x') := fun x hx => by have := isKept_any d c x hx; rw [hk] at this; exact this
  have cv : Hid (∀ x, PVc x → Calls Tryd.prog 57 #[.string s] x fun r x' => r = .returned (.bool false) ∧ Below x.heap.size x x') := fun x hx => by have := isVerdict_any s x hx; rw [hv] at this; exact this
  clear ok hk hv
  subst hd
  have c3 := fun x => pfault_ex 0 221 x
  go_enter Tryd.func28, Tryd.ntmps28
  go_wp2_with fail
  refine (c1 _).mono ?_
  rintro _ w1 ⟨rfl, b1⟩
  have HB1 : Hid (Below w.heap.size w w1) := below_then (bl_alloc (bl_alloc ((Below.refl _ _).alloc (Nat.le_refl _) _) _) _) b1
  have X1_0 : Hid (Box w1 (w.heap.size) #[.bool e, .int .i64 a, .int .i64 p]) := (((Box.new' _ #[.bool e, .int .i64 a, .int .i64 p] 23 (w.heap.size) (by simp)).alloc _).alloc _).below b1
  have X1_1 : Hid (Box w1 (w.heap.size + 1) #[.bool false, .string c]) := ((Box.new' _ #[.bool false, .string c] 59 (w.heap.size + 1) (by simp)).alloc _).below b1
  have X1_2 : Hid (Box w1 (w.heap.size + 1 + 1) #[.bool false, .string ⟨#[]⟩]) := (Box.new' _ #[.bool false, .string ⟨#[]⟩] 59 (w.heap.size + 1 + 1) (by simp)).below b1
  obtain ⟨l1_0, k1_0, f1_0⟩ := X1_0.out
  obtain ⟨l1_1, k1_1, f1_1⟩ := X1_1.out
  obtain ⟨l1_2, k1_2, f1_2⟩ := X1_2.out
  clear b1
  go_wp2_with fail
  refine (ck.out _ (HV.out.below HB1.out)).mono ?_
  rintro _ w2 ⟨rfl, b2⟩
  have HB2 : Hid (Below w.heap.size w w2) := below_then HB1.out b2
  have X2_0 : Hid (Box w2 (w.heap.size) #[.bool e, .int .i64 a, .int .i64 p]) := X1_0.out.below b2
  have X2_1 : Hid (Box w2 (w.heap.size + 1) #[.bool false, .string c]) := X1_1.out.below b2
  have X2_2 : Hid (Box w2 (w.heap.size + 1 + 1) #[.bool false, .string ⟨#[]⟩]) := X1_2.out.below b2
  clear k1_0 l1_0 f1_0 X1_0 k1_1 l1_1 f1_1 X1_1 k1_2 l1_2 f1_2 X1_2 HB1
  obtain ⟨l2_0, k2_0, f2_0⟩ := X2_0.out
  obtain ⟨l2_1, k2_1, f2_1⟩ := X2_1.out
  obtain ⟨l2_2, k2_2, f2_2⟩ := X2_2.out
  clear b2
  go_wp2_with fail
  refine (cv.out _ (HV.out.below HB2.out)).mono ?_
  rintro _ w3 ⟨rfl, b3⟩
  have HB3 : Hid (Below w.heap.size w w3) := below_then HB2.out b3
  have X3_0 : Hid (Box w3 (w.heap.size) #[.bool e, .int .i64 a, .int .i64 p]) := X2_0.out.below b3
  have X3_1 : Hid (Box w3 (w.heap.size + 1) #[.bool false, .string c]) := X2_1.out.below b3
  have X3_2 : Hid (Box w3 (w.heap.size + 1 + 1) #[.bool false, .string ⟨#[]⟩]) := X2_2.out.below b3
  clear k2_0 l2_0 f2_0 X2_0 k2_1 l2_1 f2_1 X2_1 k2_2 l2_2 f2_2 X2_2 HB2
  obtain ⟨l3_0, k3_0, f3_0⟩ := X3_0.out
  obtain ⟨l3_1, k3_1, f3_1⟩ := X3_1.out
  obtain ⟨l3_2, k3_2, f3_2⟩ := X3_2.out
  clear b3
  go_wp2_with fail
  refine (c3 _).mono ?_
  rintro _ w4 ⟨z, rfl, hz, b4⟩
  have HB4 : Hid (Below w.heap.size w w4) := below_then HB3.out b4
  have X4_0 : Hid (Box w4 (w.heap.size) #[.bool e, .int .i64 a, .int .i64 p]) := X3_0.out.below b4
  have X4_1 : Hid (Box w4 (w.heap.size + 1) #[.bool false, .string c]) := X3_1.out.below b4
  have X4_2 : Hid (Box w4 (w.heap.size + 1 + 1) #[.bool false, .string ⟨#[]⟩]) := X3_2.out.below b4
  clear k3_0 l3_0 f3_0 X3_0 k3_1 l3_1 f3_1 X3_1 k3_2 l3_2 f3_2 X3_2 HB3
  obtain ⟨l4_0, k4_0, f4_0⟩ := X4_0.out
  obtain ⟨l4_1, k4_1, f4_1⟩ := X4_1.out
  obtain ⟨l4_2, k4_2, f4_2⟩ := X4_2.out
  have HZ : Hid (DFault w4 z _ _) := hz
  clear b4 hz
  go_wp2_with fail
  refine bodyPost_ret (v := .tuple #[.agg #[.bool false, .string ⟨#[]⟩], .slice none 0 0, .iface 108 (.pointer (some ⟨z, 0, none⟩))]) ?_ rfl ⟨z, rfl, ?_, ?_⟩
  · simp [results, Tryd.results28, go_sem, k4_2]
  · exact (dff2 HB4.out HZ.out (by omega) (box_ne X4_2.out HZ.out (fun s => by simp)) _ _).1
  · exact (dff2 HB4.out HZ.out (by omega) (box_ne X4_2.out HZ.out (fun s => by simp)) _ _).2
set_option maxRecDepth 100000 in
set_option maxHeartbeats 4000000 in
theorem Judge_y (e : Bool) (a p : Int) (d : Bool) (c s : ByteArray) (w : World) (hV : PVc w) (ok : okB e a p = true) (hk : keptB d c = true) (hd : d = false) (hv : verB s = true) (h : sentB e a p s = true) : Calls Tryd.prog 28 #[.agg #[.bool e, .int .i64 a, .int .i64 p], .agg #[.bool d, .string c], .string s] w (fun r w' => ∃ po cap, r = .returned (.tuple #[.agg #[.bool true, .string s], .slice po 1 cap, .nilIface]) ∧ ActRow w' w.heap.size (.slice po 1 cap) [(9, s)] ∧ Below w.heap.size w w') := by
  have HV : Hid (PVc w) := hV
  clear hV
  have c1 := fun x => refuse_ok e a p x ok
  have ck : Hid (∀ x, PVc x → Calls Tryd.prog 56 #[.agg #[.bool d, .string c]] x fun r x' => r = .returned (.bool true) ∧ Below x.heap.size x x') := fun x hx => by have := isKept_any d c x hx; rw [hk] at this; exact this
  have cv : Hid (∀ x, PVc x → Calls Tryd.prog 57 #[.string s] x fun r x' => r = .returned (.bool true) ∧ Below x.heap.size x x') := fun x hx => by have := isVerdict_any s x hx; rw [hv] at this; exact this
  have cs : Hid (∀ x, PVc x → Calls Tryd.prog 55 #[.agg #[.bool e, .int .i64 a, .int .i64 p], .int .i64 9, .string s] x fun r x' => ∃ b, r = .returned (.slice (some ⟨b, 0, none⟩) 1 1) ∧ ActRow x' x.heap.size (.slice (some ⟨b, 0, none⟩) 1 1) [(9, s)] ∧ Below x.heap.size x x') := fun x hx => sent_yes e a p 9 s x hx h
  clear ok hk hv h
  subst hd
  go_enter Tryd.func28, Tryd.ntmps28
  go_wp2_with fail
  refine (c1 _).mono ?_
  rintro _ w1 ⟨rfl, b1⟩
  have HB1 : Hid (Below w.heap.size w w1) := below_then (bl_alloc (bl_alloc ((Below.refl _ _).alloc (Nat.le_refl _) _) _) _) b1
  have X1_0 : Hid (Box w1 (w.heap.size) #[.bool e, .int .i64 a, .int .i64 p]) := (((Box.new' _ #[.bool e, .int .i64 a, .int .i64 p] 23 (w.heap.size) (by simp)).alloc _).alloc _).below b1
  have X1_1 : Hid (Box w1 (w.heap.size + 1) #[.bool false, .string c]) := ((Box.new' _ #[.bool false, .string c] 59 (w.heap.size + 1) (by simp)).alloc _).below b1
  have X1_2 : Hid (Box w1 (w.heap.size + 1 + 1) #[.bool false, .string ⟨#[]⟩]) := (Box.new' _ #[.bool false, .string ⟨#[]⟩] 59 (w.heap.size + 1 + 1) (by simp)).below b1
  obtain ⟨l1_0, k1_0, f1_0⟩ := X1_0.out
  obtain ⟨l1_1, k1_1, f1_1⟩ := X1_1.out
  obtain ⟨l1_2, k1_2, f1_2⟩ := X1_2.out
  clear b1
  go_wp2_with fail
  refine (ck.out _ (HV.out.below HB1.out)).mono ?_
  rintro _ w2 ⟨rfl, b2⟩
  have HB2 : Hid (Below w.heap.size w w2) := below_then HB1.out b2
  have X2_0 : Hid (Box w2 (w.heap.size) #[.bool e, .int .i64 a, .int .i64 p]) := X1_0.out.below b2
  have X2_1 : Hid (Box w2 (w.heap.size + 1) #[.bool false, .string c]) := X1_1.out.below b2
  have X2_2 : Hid (Box w2 (w.heap.size + 1 + 1) #[.bool false, .string ⟨#[]⟩]) := X1_2.out.below b2
  clear k1_0 l1_0 f1_0 X1_0 k1_1 l1_1 f1_1 X1_1 k1_2 l1_2 f1_2 X1_2 HB1
  obtain ⟨l2_0, k2_0, f2_0⟩ := X2_0.out
  obtain ⟨l2_1, k2_1, f2_1⟩ := X2_1.out
  obtain ⟨l2_2, k2_2, f2_2⟩ := X2_2.out
  clear b2
  go_wp2_with fail
  refine (cv.out _ (HV.out.below HB2.out)).mono ?_
  rintro _ w3 ⟨rfl, b3⟩
  have HB3 : Hid (Below w.heap.size w w3) := below_then HB2.out b3
  have X3_0 : Hid (Box w3 (w.heap.size) #[.bool e, .int .i64 a, .int .i64 p]) := X2_0.out.below b3
  have X3_1 : Hid (Box w3 (w.heap.size + 1) #[.bool false, .string c]) := X2_1.out.below b3
  have X3_2 : Hid (Box w3 (w.heap.size + 1 + 1) #[.bool false, .string ⟨#[]⟩]) := X2_2.out.below b3
  clear k2_0 l2_0 f2_0 X2_0 k2_1 l2_1 f2_1 X2_1 k2_2 l2_2 f2_2 X2_2 HB2
  obtain ⟨l3_0, k3_0, f3_0⟩ := X3_0.out
  obtain ⟨l3_1, k3_1, f3_1⟩ := X3_1.out
  obtain ⟨l3_2, k3_2, f3_2⟩ := X3_2.out
  clear b3
  go_wp2_with fail
  refine (cs.out _ (HV.out.below HB3.out)).mono ?_
  rintro _ w4 ⟨b, rfl, r4, b4⟩
  have HZ4 : Hid (w.heap.size + 1 + 1 + 1 ≤ w3.heap.size) := l3_2
  have HB4 : Hid (Below w.heap.size w w4) := below_then HB3.out b4
  have X4_0 : Hid (Box w4 (w.heap.size) #[.bool e, .int .i64 a, .int .i64 p]) := X3_0.out.below b4
  have X4_1 : Hid (Box w4 (w.heap.size + 1) #[.bool false, .string c]) := X3_1.out.below b4
  have X4_2 : Hid (Box w4 (w.heap.size + 1 + 1) #[.bool false, .string ⟨#[]⟩]) := X3_2.out.below b4
  clear k3_0 l3_0 f3_0 X3_0 k3_1 l3_1 f3_1 X3_1 k3_2 l3_2 f3_2 X3_2 HB3
  obtain ⟨l4_0, k4_0, f4_0⟩ := X4_0.out
  obtain ⟨l4_1, k4_1, f4_1⟩ := X4_1.out
  obtain ⟨l4_2, k4_2, f4_2⟩ := X4_2.out
  have HR : Hid (ActRow w4 (w.heap.size + 1 + 1 + 1) (.slice (some ⟨b, 0, none⟩) 1 1) [(9, s)]) := r4.mono HZ4.out
  clear b4 r4
  go_wp2_with fail
  refine bodyPost_ret (v := .tuple #[.agg #[.bool true, .string s], .slice (some ⟨b, 0, none⟩) 1 1, .nilIface]) ?_ rfl ⟨_, _, rfl, ?_, ?_⟩
  · simp [results, Tryd.results28, go_sem, k4_2]
  · exact (fin2 HB4.out HR.out (by omega) (by omega)).1
  · exact (fin2 HB4.out HR.out (by omega) (by omega)).2
set_option maxRecDepth 100000 in
set_option maxHeartbeats 4000000 in
theorem Judge_n (e : Bool) (a p : Int) (d : Bool) (c s : ByteArray) (w : World) (hV : PVc w) (ok : okB e a p = true) (hk : keptB d c = true) (hd : d = false) (hv : verB s = true) (h : sentB e a p s = false) : Calls Tryd.prog 28 #[.agg #[.bool e, .int .i64 a, .int .i64 p], .agg #[.bool d, .string c], .string s] w (fun r w' => ∃ po cap, r = .returned (.tuple #[.agg #[.bool true, .string s], .slice po 0 cap, .nilIface]) ∧ ActRow w' w.heap.size (.slice po 0 cap) [] ∧ Below w.heap.size w w') := by
  have HV : Hid (PVc w) := hV
  clear hV
  have c1 := fun x => refuse_ok e a p x ok
  have ck : Hid (∀ x, PVc x → Calls Tryd.prog 56 #[.agg #[.bool d, .string c]] x fun r x' => r = .returned (.bool true) ∧ Below x.heap.size x x') := fun x hx => by have := isKept_any d c x hx; rw [hk] at this; exact this
  have cv : Hid (∀ x, PVc x → Calls Tryd.prog 57 #[.string s] x fun r x' => r = .returned (.bool true) ∧ Below x.heap.size x x') := fun x hx => by have := isVerdict_any s x hx; rw [hv] at this; exact this
  have cs : Hid (∀ x, PVc x → Calls Tryd.prog 55 #[.agg #[.bool e, .int .i64 a, .int .i64 p], .int .i64 9, .string s] x fun r x' => r = .returned (.slice none 0 0) ∧ Below x.heap.size x x') := fun x hx => sent_no e a p 9 s x hx h
  clear ok hk hv h
  subst hd
  go_enter Tryd.func28, Tryd.ntmps28
  go_wp2_with fail
  refine (c1 _).mono ?_
  rintro _ w1 ⟨rfl, b1⟩
  have HB1 : Hid (Below w.heap.size w w1) := below_then (bl_alloc (bl_alloc ((Below.refl _ _).alloc (Nat.le_refl _) _) _) _) b1
  have X1_0 : Hid (Box w1 (w.heap.size) #[.bool e, .int .i64 a, .int .i64 p]) := (((Box.new' _ #[.bool e, .int .i64 a, .int .i64 p] 23 (w.heap.size) (by simp)).alloc _).alloc _).below b1
  have X1_1 : Hid (Box w1 (w.heap.size + 1) #[.bool false, .string c]) := ((Box.new' _ #[.bool false, .string c] 59 (w.heap.size + 1) (by simp)).alloc _).below b1
  have X1_2 : Hid (Box w1 (w.heap.size + 1 + 1) #[.bool false, .string ⟨#[]⟩]) := (Box.new' _ #[.bool false, .string ⟨#[]⟩] 59 (w.heap.size + 1 + 1) (by simp)).below b1
  obtain ⟨l1_0, k1_0, f1_0⟩ := X1_0.out
  obtain ⟨l1_1, k1_1, f1_1⟩ := X1_1.out
  obtain ⟨l1_2, k1_2, f1_2⟩ := X1_2.out
  clear b1
  go_wp2_with fail
  refine (ck.out _ (HV.out.below HB1.out)).mono ?_
  rintro _ w2 ⟨rfl, b2⟩
  have HB2 : Hid (Below w.heap.size w w2) := below_then HB1.out b2
  have X2_0 : Hid (Box w2 (w.heap.size) #[.bool e, .int .i64 a, .int .i64 p]) := X1_0.out.below b2
  have X2_1 : Hid (Box w2 (w.heap.size + 1) #[.bool false, .string c]) := X1_1.out.below b2
  have X2_2 : Hid (Box w2 (w.heap.size + 1 + 1) #[.bool false, .string ⟨#[]⟩]) := X1_2.out.below b2
  clear k1_0 l1_0 f1_0 X1_0 k1_1 l1_1 f1_1 X1_1 k1_2 l1_2 f1_2 X1_2 HB1
  obtain ⟨l2_0, k2_0, f2_0⟩ := X2_0.out
  obtain ⟨l2_1, k2_1, f2_1⟩ := X2_1.out
  obtain ⟨l2_2, k2_2, f2_2⟩ := X2_2.out
  clear b2
  go_wp2_with fail
  refine (cv.out _ (HV.out.below HB2.out)).mono ?_
  rintro _ w3 ⟨rfl, b3⟩
  have HB3 : Hid (Below w.heap.size w w3) := below_then HB2.out b3
  have X3_0 : Hid (Box w3 (w.heap.size) #[.bool e, .int .i64 a, .int .i64 p]) := X2_0.out.below b3
  have X3_1 : Hid (Box w3 (w.heap.size + 1) #[.bool false, .string c]) := X2_1.out.below b3
  have X3_2 : Hid (Box w3 (w.heap.size + 1 + 1) #[.bool false, .string ⟨#[]⟩]) := X2_2.out.below b3
  clear k2_0 l2_0 f2_0 X2_0 k2_1 l2_1 f2_1 X2_1 k2_2 l2_2 f2_2 X2_2 HB2
  obtain ⟨l3_0, k3_0, f3_0⟩ := X3_0.out
  obtain ⟨l3_1, k3_1, f3_1⟩ := X3_1.out
  obtain ⟨l3_2, k3_2, f3_2⟩ := X3_2.out
  clear b3
  go_wp2_with fail
  refine (cs.out _ (HV.out.below HB3.out)).mono ?_
  rintro _ w4 ⟨rfl, b4⟩
  have HB4 : Hid (Below w.heap.size w w4) := below_then HB3.out b4
  have X4_0 : Hid (Box w4 (w.heap.size) #[.bool e, .int .i64 a, .int .i64 p]) := X3_0.out.below b4
  have X4_1 : Hid (Box w4 (w.heap.size + 1) #[.bool false, .string c]) := X3_1.out.below b4
  have X4_2 : Hid (Box w4 (w.heap.size + 1 + 1) #[.bool false, .string ⟨#[]⟩]) := X3_2.out.below b4
  clear k3_0 l3_0 f3_0 X3_0 k3_1 l3_1 f3_1 X3_1 k3_2 l3_2 f3_2 X3_2 HB3
  obtain ⟨l4_0, k4_0, f4_0⟩ := X4_0.out
  obtain ⟨l4_1, k4_1, f4_1⟩ := X4_1.out
  obtain ⟨l4_2, k4_2, f4_2⟩ := X4_2.out
  have HR : Hid (ActRow w4 (w.heap.size + 1 + 1 + 1) (.slice none 0 0) []) := ActRow.nil _ _
  clear b4
  go_wp2_with fail
  refine bodyPost_ret (v := .tuple #[.agg #[.bool true, .string s], .slice none 0 0, .nilIface]) ?_ rfl ⟨_, _, rfl, ?_, ?_⟩
  · simp [results, Tryd.results28, go_sem, k4_2]
  · exact (fin2 HB4.out HR.out (by omega) (by omega)).1
  · exact (fin2 HB4.out HR.out (by omega) (by omega)).2
set_option maxRecDepth 100000 in
set_option maxHeartbeats 2000000 in
theorem Copy_no (e : Bool) (a p : Int) (d : Bool) (c : ByteArray) (w : World) (ok : okB e a p = false) : Calls Tryd.prog 30 #[.agg #[.bool e, .int .i64 a, .int .i64 p], .agg #[.bool d, .string c]] w (fun r w' => ∃ z, r = .returned (.tuple #[.slice none 0 0, .iface 108 (.pointer (some ⟨z, 0, none⟩))]) ∧ DFault w' z 0 220 ∧ Below w.heap.size w w') := by
  have c1 := fun x => refuse_no e a p x ok
  go_enter Tryd.func30, Tryd.ntmps30
  go_wp2_with fail
  refine (c1 _).mono ?_
  rintro _ w1 ⟨z, rfl, hz, b1⟩
  have HB1 : Hid (Below w.heap.size w w1) := below_then (bl_alloc ((Below.refl _ _).alloc (Nat.le_refl _) _) _) b1
  have X1_0 : Hid (Box w1 (w.heap.size) #[.bool e, .int .i64 a, .int .i64 p]) := ((Box.new' _ #[.bool e, .int .i64 a, .int .i64 p] 23 (w.heap.size) (by simp)).alloc _).below b1
  have X1_1 : Hid (Box w1 (w.heap.size + 1) #[.bool d, .string c]) := (Box.new' _ #[.bool d, .string c] 59 (w.heap.size + 1) (by simp)).below b1
  obtain ⟨l1_0, k1_0, f1_0⟩ := X1_0.out
  obtain ⟨l1_1, k1_1, f1_1⟩ := X1_1.out
  have HZ : Hid (DFault w1 z 0 220) := hz
  clear b1 hz
  go_wp2_with fail
  refine bodyPost_ret (v := .tuple #[.slice none 0 0, .iface 108 (.pointer (some ⟨z, 0, none⟩))]) ?_ rfl ⟨z, rfl, HZ.out, HB1.out⟩
  simp [results, Tryd.results30, go_sem]
set_option maxRecDepth 100000 in
set_option maxHeartbeats 4000000 in
theorem Copy_k (e : Bool) (a p : Int) (d : Bool) (c : ByteArray) (w : World) (hV : PVc w) (ok : okB e a p = true) (hk : keptB d c = false) : Calls Tryd.prog 30 #[.agg #[.bool e, .int .i64 a, .int .i64 p], .agg #[.bool d, .string c]] w (fun r w' => ∃ z, r = .returned (.tuple #[.slice none 0 0, .iface 108 (.pointer (some ⟨z, 0, none⟩))]) ∧ DFault w' z 0 223 ∧ Below w.heap.size w w') := by
  have HV : Hid (PVc w) := hV
  clear hV
  have c1 := fun x => refuse_ok e a p x ok
  have ck : Hid (∀ x, PVc x → Calls Tryd.prog 56 #[.agg #[.bool d, .string c]] x fun r x' => r = .returned (.bool false) ∧ Below x.heap.size x x') := fun x hx => by have := isKept_any d c x hx; rw [hk] at this; exact this
  clear ok hk
  have c3 := fun x => pfault_ex 0 223 x
  go_enter Tryd.func30, Tryd.ntmps30
  go_wp2_with fail
  refine (c1 _).mono ?_
  rintro _ w1 ⟨rfl, b1⟩
  have HB1 : Hid (Below w.heap.size w w1) := below_then (bl_alloc ((Below.refl _ _).alloc (Nat.le_refl _) _) _) b1
  have X1_0 : Hid (Box w1 (w.heap.size) #[.bool e, .int .i64 a, .int .i64 p]) := ((Box.new' _ #[.bool e, .int .i64 a, .int .i64 p] 23 (w.heap.size) (by simp)).alloc _).below b1
  have X1_1 : Hid (Box w1 (w.heap.size + 1) #[.bool d, .string c]) := (Box.new' _ #[.bool d, .string c] 59 (w.heap.size + 1) (by simp)).below b1
  obtain ⟨l1_0, k1_0, f1_0⟩ := X1_0.out
  obtain ⟨l1_1, k1_1, f1_1⟩ := X1_1.out
  clear b1
  go_wp2_with fail
  refine (ck.out _ (HV.out.below HB1.out)).mono ?_
  rintro _ w2 ⟨rfl, b2⟩
  have HB2 : Hid (Below w.heap.size w w2) := below_then HB1.out b2
  have X2_0 : Hid (Box w2 (w.heap.size) #[.bool e, .int .i64 a, .int .i64 p]) := X1_0.out.below b2
  have X2_1 : Hid (Box w2 (w.heap.size + 1) #[.bool d, .string c]) := X1_1.out.below b2
  clear k1_0 l1_0 f1_0 X1_0 k1_1 l1_1 f1_1 X1_1 HB1
  obtain ⟨l2_0, k2_0, f2_0⟩ := X2_0.out
  obtain ⟨l2_1, k2_1, f2_1⟩ := X2_1.out
  clear b2
  go_wp2_with fail
  refine (c3 _).mono ?_
  rintro _ w3 ⟨z, rfl, hz, b3⟩
  have HB3 : Hid (Below w.heap.size w w3) := below_then HB2.out b3
  have X3_0 : Hid (Box w3 (w.heap.size) #[.bool e, .int .i64 a, .int .i64 p]) := X2_0.out.below b3
  have X3_1 : Hid (Box w3 (w.heap.size + 1) #[.bool d, .string c]) := X2_1.out.below b3
  clear k2_0 l2_0 f2_0 X2_0 k2_1 l2_1 f2_1 X2_1 HB2
  obtain ⟨l3_0, k3_0, f3_0⟩ := X3_0.out
  obtain ⟨l3_1, k3_1, f3_1⟩ := X3_1.out
  have HZ : Hid (DFault w3 z _ _) := hz
  clear b3 hz
  go_wp2_with fail
  refine bodyPost_ret (v := .tuple #[.slice none 0 0, .iface 108 (.pointer (some ⟨z, 0, none⟩))]) ?_ rfl ⟨z, rfl, HZ.out, HB3.out⟩
  simp [results, Tryd.results30, go_sem]
end Go.Proofs.YtjmjimbhoncidaaDoor
