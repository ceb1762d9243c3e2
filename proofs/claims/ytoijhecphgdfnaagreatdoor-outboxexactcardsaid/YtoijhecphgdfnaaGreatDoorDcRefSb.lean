import Derived.Test.YtoijhecphgdfnaaGreatDoorOrBase
/-
  The document's Start, way by way.
-/
namespace Go.Proofs.YtoijhecphgdfnaaGreatDoor
open Go.RowKit

set_option maxRecDepth 100000 in
set_option maxHeartbeats 2000000 in
theorem rStart_1 (e : Bool) (a p t : Int) (noted : Bool) (w : World) (q1 : okB e a p = false) : Calls Tryz.prog 61 #[.agg #[.bool e, .int .i64 a, .int .i64 p], .int .i64 t, .bool noted] w (AnsQ4 ⟨0, 0, [], 0, 220⟩ w) := by
  have c1 : ∀ w, Calls Tryz.prog 48 #[.agg #[.bool e, .int .i64 a, .int .i64 p]] w fun r w' => r = .returned (.bool false) ∧ Below w.heap.size w w' := fun w => by have := rRight_any e a p w; rw [q1] at this; exact this
  go_enter Tryz.func61, Tryz.ntmps61
  go_wp2_with fail
  refine (c1 _).mono ?_
  rintro _ w1 ⟨rfl, b1⟩
  have HB1 : Hid (Below w.heap.size w w1) := below_then (((Below.refl _ _).alloc (by first | omega | (simp; done) | (simp; omega)) _).alloc (by first | omega | (simp; done) | (simp; omega)) _) b1
  have X1_0 : Hid (Box w1 w.heap.size #[.bool e, .int .i64 a, .int .i64 p]) := ((Box.new' _ #[.bool e, .int .i64 a, .int .i64 p] 45 w.heap.size (by simp)).alloc _).below b1
  have X1_1 : Hid (Box w1 (w.heap.size + 1) #[.int .i64 0, .int .i64 0]) := (Box.new' _ #[.int .i64 0, .int .i64 0] 89 (w.heap.size + 1) (by simp)).below b1
  obtain ⟨l1_0, k1_0, f1_0⟩ := X1_0.out
  obtain ⟨l1_1, k1_1, f1_1⟩ := X1_1.out
  clear b1 c1
  go_wp2_with fail
  refine bodyPost_ret ?_ rfl ⟨.slice none 0 0, rfl, ActRow.nil _ _, ?_⟩
  · simp [results, Tryz.results61, go_sem, k1_1]
  · exact ((HB1.out).setCell (by first | omega | (simp; done) | (simp; omega)) _).setCell (by first | omega | (simp; done) | (simp; omega)) _
set_option maxRecDepth 100000 in
set_option maxHeartbeats 2000000 in
theorem rStart_2 (e : Bool) (a p t : Int) (noted : Bool) (w : World) (q1 : okB e a p = true) (t0 : t < 0) : Calls Tryz.prog 61 #[.agg #[.bool e, .int .i64 a, .int .i64 p], .int .i64 t, .bool noted] w (AnsQ4 ⟨0, 0, [], 0, 224⟩ w) := by
  have c1 : ∀ w, Calls Tryz.prog 48 #[.agg #[.bool e, .int .i64 a, .int .i64 p]] w fun r w' => r = .returned (.bool true) ∧ Below w.heap.size w w' := fun w => by have := rRight_any e a p w; rw [q1] at this; exact this
  go_enter Tryz.func61, Tryz.ntmps61
  go_wp2_with fail
  refine (c1 _).mono ?_
  rintro _ w1 ⟨rfl, b1⟩
  have HB1 : Hid (Below w.heap.size w w1) := below_then (((Below.refl _ _).alloc (by first | omega | (simp; done) | (simp; omega)) _).alloc (by first | omega | (simp; done) | (simp; omega)) _) b1
  have X1_0 : Hid (Box w1 w.heap.size #[.bool e, .int .i64 a, .int .i64 p]) := ((Box.new' _ #[.bool e, .int .i64 a, .int .i64 p] 45 w.heap.size (by simp)).alloc _).below b1
  have X1_1 : Hid (Box w1 (w.heap.size + 1) #[.int .i64 0, .int .i64 0]) := (Box.new' _ #[.int .i64 0, .int .i64 0] 89 (w.heap.size + 1) (by simp)).below b1
  obtain ⟨l1_0, k1_0, f1_0⟩ := X1_0.out
  obtain ⟨l1_1, k1_1, f1_1⟩ := X1_1.out
  clear b1 c1
  go_wp2_with fail
  refine bodyPost_ret ?_ rfl ⟨.slice none 0 0, rfl, ActRow.nil _ _, ?_⟩
  · simp [results, Tryz.results61, go_sem, k1_1]
  · exact ((HB1.out).setCell (by first | omega | (simp; done) | (simp; omega)) _).setCell (by first | omega | (simp; done) | (simp; omega)) _
set_option maxRecDepth 100000 in
set_option maxHeartbeats 2000000 in
theorem rStart_3 (e : Bool) (a p t : Int) (noted : Bool) (w : World) (q1 : okB e a p = true) (t0 : ¬ t < 0) (t1 : t > 16) : Calls Tryz.prog 61 #[.agg #[.bool e, .int .i64 a, .int .i64 p], .int .i64 t, .bool noted] w (AnsQ4 ⟨0, 0, [], 0, 224⟩ w) := by
  have c1 : ∀ w, Calls Tryz.prog 48 #[.agg #[.bool e, .int .i64 a, .int .i64 p]] w fun r w' => r = .returned (.bool true) ∧ Below w.heap.size w w' := fun w => by have := rRight_any e a p w; rw [q1] at this; exact this
  go_enter Tryz.func61, Tryz.ntmps61
  go_wp2_with fail
  refine (c1 _).mono ?_
  rintro _ w1 ⟨rfl, b1⟩
  have HB1 : Hid (Below w.heap.size w w1) := below_then (((Below.refl _ _).alloc (by first | omega | (simp; done) | (simp; omega)) _).alloc (by first | omega | (simp; done) | (simp; omega)) _) b1
  have X1_0 : Hid (Box w1 w.heap.size #[.bool e, .int .i64 a, .int .i64 p]) := ((Box.new' _ #[.bool e, .int .i64 a, .int .i64 p] 45 w.heap.size (by simp)).alloc _).below b1
  have X1_1 : Hid (Box w1 (w.heap.size + 1) #[.int .i64 0, .int .i64 0]) := (Box.new' _ #[.int .i64 0, .int .i64 0] 89 (w.heap.size + 1) (by simp)).below b1
  obtain ⟨l1_0, k1_0, f1_0⟩ := X1_0.out
  obtain ⟨l1_1, k1_1, f1_1⟩ := X1_1.out
  clear b1 c1
  go_wp2_with fail
  refine bodyPost_ret ?_ rfl ⟨.slice none 0 0, rfl, ActRow.nil _ _, ?_⟩
  · simp [results, Tryz.results61, go_sem, k1_1]
  · exact ((HB1.out).setCell (by first | omega | (simp; done) | (simp; omega)) _).setCell (by first | omega | (simp; done) | (simp; omega)) _
end Go.Proofs.YtoijhecphgdfnaaGreatDoor

/-
  The document's Start, way by way.
-/
namespace Go.Proofs.YtoijhecphgdfnaaGreatDoor
open Go.RowKit

set_option maxRecDepth 100000 in
set_option maxHeartbeats 2000000 in
theorem rStart_4 (e : Bool) (a p t : Int) (noted : Bool) (w : World) (q1 : okB e a p = true) (t0 : ¬ t < 0) (t1 : ¬ t > 16) (hn : noted = true) (q2 : caB e a = false) : Calls Tryz.prog 61 #[.agg #[.bool e, .int .i64 a, .int .i64 p], .int .i64 t, .bool noted] w (AnsQ4 ⟨0, 0, [], 1, 220⟩ w) := by
  have c1 : ∀ w, Calls Tryz.prog 48 #[.agg #[.bool e, .int .i64 a, .int .i64 p]] w fun r w' => r = .returned (.bool true) ∧ Below w.heap.size w w' := fun w => by have := rRight_any e a p w; rw [q1] at this; exact this
  have c2 : ∀ w, Calls Tryz.prog 91 #[.agg #[.bool e, .int .i64 a, .int .i64 p], .string ⟨#[67, 65]⟩] w fun r w' => r = .returned (.bool false) ∧ Below w.heap.size w w' := fun w => by have := rSent_1 e a p w; rw [q2] at this; exact this
  subst hn
  go_enter Tryz.func61, Tryz.ntmps61
  go_wp2_with fail
  refine (c1 _).mono ?_
  rintro _ w1 ⟨rfl, b1⟩
  have HB1 : Hid (Below w.heap.size w w1) := below_then (((Below.refl _ _).alloc (by first | omega | (simp; done) | (simp; omega)) _).alloc (by first | omega | (simp; done) | (simp; omega)) _) b1
  have X1_0 : Hid (Box w1 w.heap.size #[.bool e, .int .i64 a, .int .i64 p]) := ((Box.new' _ #[.bool e, .int .i64 a, .int .i64 p] 45 w.heap.size (by simp)).alloc _).below b1
  have X1_1 : Hid (Box w1 (w.heap.size + 1) #[.int .i64 0, .int .i64 0]) := (Box.new' _ #[.int .i64 0, .int .i64 0] 89 (w.heap.size + 1) (by simp)).below b1
  obtain ⟨l1_0, k1_0, f1_0⟩ := X1_0.out
  obtain ⟨l1_1, k1_1, f1_1⟩ := X1_1.out
  clear b1 c1
  go_wp2_with fail
  refine (c2 _).mono ?_
  rintro _ w2 ⟨rfl, b2⟩
  have HB2 : Hid (Below w.heap.size w w2) := below_then HB1.out b2
  have X2_0 : Hid (Box w2 w.heap.size #[.bool e, .int .i64 a, .int .i64 p]) := X1_0.out.below b2
  have X2_1 : Hid (Box w2 (w.heap.size + 1) #[.int .i64 0, .int .i64 0]) := X1_1.out.below b2
  clear k1_0 l1_0 f1_0 X1_0 k1_1 l1_1 f1_1 X1_1 HB1
  obtain ⟨l2_0, k2_0, f2_0⟩ := X2_0.out
  obtain ⟨l2_1, k2_1, f2_1⟩ := X2_1.out
  clear b2 c2
  go_wp2_with fail
  refine bodyPost_ret ?_ rfl ⟨.slice none 0 0, rfl, ActRow.nil _ _, ?_⟩
  · simp [results, Tryz.results61, go_sem, k2_1]
  · exact ((HB2.out).setCell (by first | omega | (simp; done) | (simp; omega)) _).setCell (by first | omega | (simp; done) | (simp; omega)) _
set_option maxRecDepth 100000 in
set_option maxHeartbeats 2000000 in
theorem rStart_5 (e : Bool) (a p t : Int) (noted : Bool) (w : World) (q1 : okB e a p = true) (t0 : ¬ t < 0) (t1 : ¬ t > 16) (hn : noted = false) (q2 : caB e a = true) : Calls Tryz.prog 61 #[.agg #[.bool e, .int .i64 a, .int .i64 p], .int .i64 t, .bool noted] w (AnsQ4 ⟨1, t, [(1, nT), (2, nT)], 0, 0⟩ w) := by
  have c1 : ∀ w, Calls Tryz.prog 48 #[.agg #[.bool e, .int .i64 a, .int .i64 p]] w fun r w' => r = .returned (.bool true) ∧ Below w.heap.size w w' := fun w => by have := rRight_any e a p w; rw [q1] at this; exact this
  subst hn
  have c2 : ∀ w, Calls Tryz.prog 92 #[.agg #[.bool e, .int .i64 a, .int .i64 p]] w fun r w' => r = .returned (.bool true) ∧ Below w.heap.size w w' := fun w => by have := rCommit_any e a p w; rw [q2] at this; exact this
  go_enter Tryz.func61, Tryz.ntmps61
  go_wp2_with fail
  refine (c1 _).mono ?_
  rintro _ w1 ⟨rfl, b1⟩
  have HB1 : Hid (Below w.heap.size w w1) := below_then (((Below.refl _ _).alloc (by first | omega | (simp; done) | (simp; omega)) _).alloc (by first | omega | (simp; done) | (simp; omega)) _) b1
  have X1_0 : Hid (Box w1 w.heap.size #[.bool e, .int .i64 a, .int .i64 p]) := ((Box.new' _ #[.bool e, .int .i64 a, .int .i64 p] 45 w.heap.size (by simp)).alloc _).below b1
  have X1_1 : Hid (Box w1 (w.heap.size + 1) #[.int .i64 0, .int .i64 0]) := (Box.new' _ #[.int .i64 0, .int .i64 0] 89 (w.heap.size + 1) (by simp)).below b1
  obtain ⟨l1_0, k1_0, f1_0⟩ := X1_0.out
  obtain ⟨l1_1, k1_1, f1_1⟩ := X1_1.out
  clear b1 c1
  go_wp2_with fail
  have HS : Hid (w.heap.size ≤ w1.heap.size ∧ w.heap.size + 1 < w1.heap.size) := ⟨HB1.out.size, X1_1.out.lt⟩
  refine (c2 _).mono ?_
  rintro _ w2 ⟨rfl, b2⟩
  have HB2 : Hid (Below w.heap.size w w2) := below_then (HB1.out.alloc HB1.out.size _) b2
  have HR2 : Hid (ActRow w2 w1.heap.size (.slice (some ⟨w1.heap.size, 0, none⟩) 1 1) [(1, nT)] ∧ w1.heap.size ≤ w2.heap.size) := ⟨(ActRow.lit w1 [(1, nT)] 1 _ rfl rfl (by simp) (by simp)).below b2, by have := b2.size; simp at this; omega⟩
  have X2_0 : Hid (Box w2 w.heap.size #[.bool e, .int .i64 a, .int .i64 p]) := (X1_0.out.alloc _).below b2
  have X2_1 : Hid (Box w2 (w.heap.size + 1) #[.int .i64 0, .int .i64 0]) := (X1_1.out.alloc _).below b2
  clear k1_0 l1_0 f1_0 X1_0 k1_1 l1_1 f1_1 X1_1 HB1
  obtain ⟨l2_0, k2_0, f2_0⟩ := X2_0.out
  obtain ⟨l2_1, k2_1, f2_1⟩ := X2_1.out
  clear b2 c2
  obtain ⟨a3, c3, wz, e3, r3, b3⟩ := run_apush HR2.out.1 HR2.out.2 (by simp) (2, nT) #[.int .i64 2, .string ⟨#[]⟩] rfl
  have e4 : (Builtin.append_ #[132, 132] 132 #[.slice (some ⟨w1.heap.size, 0, none⟩) 1 1, .slice (some ⟨w2.heap.size, 0, none⟩) 1 1]).run Tryz.prog (w2.alloc (.cells #[.int .i64 2, .string ⟨#[]⟩] 103)) = .ok (.slice a3 2 c3) wz := e3
  have H3 : Hid (ActRow wz w1.heap.size (.slice a3 2 c3) [(1, nT), (2, nT)] ∧ Below w.heap.size w wz ∧ Box wz (w.heap.size + 1) #[.int .i64 0, .int .i64 0]) := ⟨r3, HB2.out.trans (b3.mono HS.out.1), X2_1.out.belowB b3 HS.out.2 HR2.out.2⟩
  obtain ⟨lz, kz, fz⟩ := H3.out.2.2
  clear e3 r3 b3 k2_0 l2_0 f2_0 X2_0 k2_1 l2_1 f2_1 X2_1 HB2 HR2
  go_wp2_with (at_builtin; refine wpList_append_run rfl (.tmp 39) (.tmp 41) 132 _ rfl e4 ?_)
  refine bodyPost_ret ?_ rfl ⟨.slice a3 2 c3, rfl, ((H3.out.1.set (fun g hg => by have h1 := H3.out.1.ne hg; have h2 := HS.out.2; simp; omega)).set (fun g hg => by have h1 := H3.out.1.ne hg; have h2 := HS.out.2; simp; omega)).mono HS.out.1, ?_⟩
  · simp [results, Tryz.results61, go_sem, kz]
  · exact (H3.out.2.1.setCell (by first | omega | (simp; done) | (simp; omega)) _).setCell (by first | omega | (simp; done) | (simp; omega)) _
set_option maxRecDepth 100000 in
set_option maxHeartbeats 2000000 in
theorem rStart_6m (e : Bool) (a p t : Int) (noted : Bool) (w : World) (q1 : okB e a p = true) (t0 : ¬ t < 0) (t1 : ¬ t > 16) (hn : noted = false) (q2 : caB e a = false) (q3 : aaB e p = true) : Calls Tryz.prog 61 #[.agg #[.bool e, .int .i64 a, .int .i64 p], .int .i64 t, .bool noted] w (AnsQ4 ⟨2, t, [(1, nT), (2, nT)], 0, 0⟩ w) := by
  have c1 : ∀ w, Calls Tryz.prog 48 #[.agg #[.bool e, .int .i64 a, .int .i64 p]] w fun r w' => r = .returned (.bool true) ∧ Below w.heap.size w w' := fun w => by have := rRight_any e a p w; rw [q1] at this; exact this
  subst hn
  have c2 : ∀ w, Calls Tryz.prog 92 #[.agg #[.bool e, .int .i64 a, .int .i64 p]] w fun r w' => r = .returned (.bool false) ∧ Below w.heap.size w w' := fun w => by have := rCommit_any e a p w; rw [q2] at this; exact this
  have c3 : ∀ w, Calls Tryz.prog 93 #[.agg #[.bool e, .int .i64 a, .int .i64 p]] w fun r w' => r = .returned (.bool true) ∧ Below w.heap.size w w' := fun w => by have := rApp_any e a p w; rw [q3] at this; exact this
  go_enter Tryz.func61, Tryz.ntmps61
  go_wp2_with fail
  refine (c1 _).mono ?_
  rintro _ w1 ⟨rfl, b1⟩
  have HB1 : Hid (Below w.heap.size w w1) := below_then (((Below.refl _ _).alloc (by first | omega | (simp; done) | (simp; omega)) _).alloc (by first | omega | (simp; done) | (simp; omega)) _) b1
  have X1_0 : Hid (Box w1 w.heap.size #[.bool e, .int .i64 a, .int .i64 p]) := ((Box.new' _ #[.bool e, .int .i64 a, .int .i64 p] 45 w.heap.size (by simp)).alloc _).below b1
  have X1_1 : Hid (Box w1 (w.heap.size + 1) #[.int .i64 0, .int .i64 0]) := (Box.new' _ #[.int .i64 0, .int .i64 0] 89 (w.heap.size + 1) (by simp)).below b1
  obtain ⟨l1_0, k1_0, f1_0⟩ := X1_0.out
  obtain ⟨l1_1, k1_1, f1_1⟩ := X1_1.out
  clear b1 c1
  go_wp2_with fail
  have HS : Hid (w.heap.size ≤ w1.heap.size ∧ w.heap.size + 1 < w1.heap.size) := ⟨HB1.out.size, X1_1.out.lt⟩
  refine (c2 _).mono ?_
  rintro _ w2 ⟨rfl, b2⟩
  have HB2 : Hid (Below w.heap.size w w2) := below_then (HB1.out.alloc HB1.out.size _) b2
  have HR2 : Hid (ActRow w2 w1.heap.size (.slice (some ⟨w1.heap.size, 0, none⟩) 1 1) [(1, nT)] ∧ w1.heap.size ≤ w2.heap.size) := ⟨(ActRow.lit w1 [(1, nT)] 1 _ rfl rfl (by simp) (by simp)).below b2, by have := b2.size; simp at this; omega⟩
  have X2_0 : Hid (Box w2 w.heap.size #[.bool e, .int .i64 a, .int .i64 p]) := (X1_0.out.alloc _).below b2
  have X2_1 : Hid (Box w2 (w.heap.size + 1) #[.int .i64 0, .int .i64 0]) := (X1_1.out.alloc _).below b2
  clear k1_0 l1_0 f1_0 X1_0 k1_1 l1_1 f1_1 X1_1 HB1
  obtain ⟨l2_0, k2_0, f2_0⟩ := X2_0.out
  obtain ⟨l2_1, k2_1, f2_1⟩ := X2_1.out
  clear b2 c2
  go_wp2_with fail
  refine (c3 _).mono ?_
  rintro _ w3 ⟨rfl, b3⟩
  have HB3 : Hid (Below w.heap.size w w3) := below_then HB2.out b3
  have HR3 : Hid (ActRow w3 w1.heap.size (.slice (some ⟨w1.heap.size, 0, none⟩) 1 1) [(1, nT)] ∧ w1.heap.size ≤ w3.heap.size) := ⟨HR2.out.1.below b3, Nat.le_trans HR2.out.2 b3.size⟩
  have X3_0 : Hid (Box w3 w.heap.size #[.bool e, .int .i64 a, .int .i64 p]) := X2_0.out.below b3
  have X3_1 : Hid (Box w3 (w.heap.size + 1) #[.int .i64 0, .int .i64 0]) := X2_1.out.below b3
  clear k2_0 l2_0 f2_0 X2_0 k2_1 l2_1 f2_1 X2_1 HB2
  clear HR2
  obtain ⟨l3_0, k3_0, f3_0⟩ := X3_0.out
  obtain ⟨l3_1, k3_1, f3_1⟩ := X3_1.out
  clear b3 c3
  obtain ⟨a3, c3, wz, e3, r3, b3⟩ := run_apush HR3.out.1 HR3.out.2 (by simp) (2, nT) #[.int .i64 2, .string ⟨#[]⟩] rfl
  have e4 : (Builtin.append_ #[132, 132] 132 #[.slice (some ⟨w1.heap.size, 0, none⟩) 1 1, .slice (some ⟨w3.heap.size, 0, none⟩) 1 1]).run Tryz.prog (w3.alloc (.cells #[.int .i64 2, .string ⟨#[]⟩] 103)) = .ok (.slice a3 2 c3) wz := e3
  have H3 : Hid (ActRow wz w1.heap.size (.slice a3 2 c3) [(1, nT), (2, nT)] ∧ Below w.heap.size w wz ∧ Box wz (w.heap.size + 1) #[.int .i64 0, .int .i64 0]) := ⟨r3, HB3.out.trans (b3.mono HS.out.1), X3_1.out.belowB b3 HS.out.2 HR3.out.2⟩
  obtain ⟨lz, kz, fz⟩ := H3.out.2.2
  clear e3 r3 b3 k3_0 l3_0 f3_0 X3_0 k3_1 l3_1 f3_1 X3_1 HB3 HR3
  go_wp2_with (at_builtin; refine wpList_append_run rfl (.tmp 47) (.tmp 49) 132 _ rfl e4 ?_)
  refine bodyPost_ret ?_ rfl ⟨.slice a3 2 c3, rfl, ((H3.out.1.set (fun g hg => by have h1 := H3.out.1.ne hg; have h2 := HS.out.2; simp; omega)).set (fun g hg => by have h1 := H3.out.1.ne hg; have h2 := HS.out.2; simp; omega)).mono HS.out.1, ?_⟩
  · simp [results, Tryz.results61, go_sem, kz]
  · exact (H3.out.2.1.setCell (by first | omega | (simp; done) | (simp; omega)) _).setCell (by first | omega | (simp; done) | (simp; omega)) _
set_option maxRecDepth 100000 in
set_option maxHeartbeats 2000000 in
theorem rStart_6n (e : Bool) (a p t : Int) (noted : Bool) (w : World) (q1 : okB e a p = true) (t0 : ¬ t < 0) (t1 : ¬ t > 16) (hn : noted = true) (q2 : caB e a = true) (q3 : aaB e p = true) : Calls Tryz.prog 61 #[.agg #[.bool e, .int .i64 a, .int .i64 p], .int .i64 t, .bool noted] w (AnsQ4 ⟨2, t, [(1, nT), (2, nT)], 0, 0⟩ w) := by
  have c1 : ∀ w, Calls Tryz.prog 48 #[.agg #[.bool e, .int .i64 a, .int .i64 p]] w fun r w' => r = .returned (.bool true) ∧ Below w.heap.size w w' := fun w => by have := rRight_any e a p w; rw [q1] at this; exact this
  have c2 : ∀ w, Calls Tryz.prog 91 #[.agg #[.bool e, .int .i64 a, .int .i64 p], .string ⟨#[67, 65]⟩] w fun r w' => r = .returned (.bool true) ∧ Below w.heap.size w w' := fun w => by have := rSent_1 e a p w; rw [q2] at this; exact this
  subst hn
  have c3 : ∀ w, Calls Tryz.prog 92 #[.agg #[.bool e, .int .i64 a, .int .i64 p]] w fun r w' => r = .returned (.bool true) ∧ Below w.heap.size w w' := fun w => by have := rCommit_any e a p w; rw [q2] at this; exact this
  have c4 : ∀ w, Calls Tryz.prog 93 #[.agg #[.bool e, .int .i64 a, .int .i64 p]] w fun r w' => r = .returned (.bool true) ∧ Below w.heap.size w w' := fun w => by have := rApp_any e a p w; rw [q3] at this; exact this
  go_enter Tryz.func61, Tryz.ntmps61
  go_wp2_with fail
  refine (c1 _).mono ?_
  rintro _ w1 ⟨rfl, b1⟩
  have HB1 : Hid (Below w.heap.size w w1) := below_then (((Below.refl _ _).alloc (by first | omega | (simp; done) | (simp; omega)) _).alloc (by first | omega | (simp; done) | (simp; omega)) _) b1
  have X1_0 : Hid (Box w1 w.heap.size #[.bool e, .int .i64 a, .int .i64 p]) := ((Box.new' _ #[.bool e, .int .i64 a, .int .i64 p] 45 w.heap.size (by simp)).alloc _).below b1
  have X1_1 : Hid (Box w1 (w.heap.size + 1) #[.int .i64 0, .int .i64 0]) := (Box.new' _ #[.int .i64 0, .int .i64 0] 89 (w.heap.size + 1) (by simp)).below b1
  obtain ⟨l1_0, k1_0, f1_0⟩ := X1_0.out
  obtain ⟨l1_1, k1_1, f1_1⟩ := X1_1.out
  clear b1 c1
  go_wp2_with fail
  refine (c2 _).mono ?_
  rintro _ w2 ⟨rfl, b2⟩
  have HB2 : Hid (Below w.heap.size w w2) := below_then HB1.out b2
  have X2_0 : Hid (Box w2 w.heap.size #[.bool e, .int .i64 a, .int .i64 p]) := X1_0.out.below b2
  have X2_1 : Hid (Box w2 (w.heap.size + 1) #[.int .i64 0, .int .i64 0]) := X1_1.out.below b2
  clear k1_0 l1_0 f1_0 X1_0 k1_1 l1_1 f1_1 X1_1 HB1
  obtain ⟨l2_0, k2_0, f2_0⟩ := X2_0.out
  obtain ⟨l2_1, k2_1, f2_1⟩ := X2_1.out
  clear b2 c2
  go_wp2_with fail
  have HS : Hid (w.heap.size ≤ w2.heap.size ∧ w.heap.size + 1 < w2.heap.size) := ⟨HB2.out.size, X2_1.out.lt⟩
  refine (c3 _).mono ?_
  rintro _ w3 ⟨rfl, b3⟩
  have HB3 : Hid (Below w.heap.size w w3) := below_then (HB2.out.alloc HB2.out.size _) b3
  have HR3 : Hid (ActRow w3 w2.heap.size (.slice (some ⟨w2.heap.size, 0, none⟩) 1 1) [(1, nT)] ∧ w2.heap.size ≤ w3.heap.size) := ⟨(ActRow.lit w2 [(1, nT)] 1 _ rfl rfl (by simp) (by simp)).below b3, by have := b3.size; simp at this; omega⟩
  have X3_0 : Hid (Box w3 w.heap.size #[.bool e, .int .i64 a, .int .i64 p]) := (X2_0.out.alloc _).below b3
  have X3_1 : Hid (Box w3 (w.heap.size + 1) #[.int .i64 0, .int .i64 0]) := (X2_1.out.alloc _).below b3
  clear k2_0 l2_0 f2_0 X2_0 k2_1 l2_1 f2_1 X2_1 HB2
  obtain ⟨l3_0, k3_0, f3_0⟩ := X3_0.out
  obtain ⟨l3_1, k3_1, f3_1⟩ := X3_1.out
  clear b3 c3
  go_wp2_with fail
  refine (c4 _).mono ?_
  rintro _ w4 ⟨rfl, b4⟩
  have HB4 : Hid (Below w.heap.size w w4) := below_then HB3.out b4
  have HR4 : Hid (ActRow w4 w2.heap.size (.slice (some ⟨w2.heap.size, 0, none⟩) 1 1) [(1, nT)] ∧ w2.heap.size ≤ w4.heap.size) := ⟨HR3.out.1.below b4, Nat.le_trans HR3.out.2 b4.size⟩
  have X4_0 : Hid (Box w4 w.heap.size #[.bool e, .int .i64 a, .int .i64 p]) := X3_0.out.below b4
  have X4_1 : Hid (Box w4 (w.heap.size + 1) #[.int .i64 0, .int .i64 0]) := X3_1.out.below b4
  clear k3_0 l3_0 f3_0 X3_0 k3_1 l3_1 f3_1 X3_1 HB3
  clear HR3
  obtain ⟨l4_0, k4_0, f4_0⟩ := X4_0.out
  obtain ⟨l4_1, k4_1, f4_1⟩ := X4_1.out
  clear b4 c4
  obtain ⟨a3, c3, wz, e3, r3, b3⟩ := run_apush HR4.out.1 HR4.out.2 (by simp) (2, nT) #[.int .i64 2, .string ⟨#[]⟩] rfl
  have e4 : (Builtin.append_ #[132, 132] 132 #[.slice (some ⟨w2.heap.size, 0, none⟩) 1 1, .slice (some ⟨w4.heap.size, 0, none⟩) 1 1]).run Tryz.prog (w4.alloc (.cells #[.int .i64 2, .string ⟨#[]⟩] 103)) = .ok (.slice a3 2 c3) wz := e3
  have H3 : Hid (ActRow wz w2.heap.size (.slice a3 2 c3) [(1, nT), (2, nT)] ∧ Below w.heap.size w wz ∧ Box wz (w.heap.size + 1) #[.int .i64 0, .int .i64 0]) := ⟨r3, HB4.out.trans (b3.mono HS.out.1), X4_1.out.belowB b3 HS.out.2 HR4.out.2⟩
  obtain ⟨lz, kz, fz⟩ := H3.out.2.2
  clear e3 r3 b3 k4_0 l4_0 f4_0 X4_0 k4_1 l4_1 f4_1 X4_1 HB4 HR4
  go_wp2_with (at_builtin; refine wpList_append_run rfl (.tmp 47) (.tmp 49) 132 _ rfl e4 ?_)
  refine bodyPost_ret ?_ rfl ⟨.slice a3 2 c3, rfl, ((H3.out.1.set (fun g hg => by have h1 := H3.out.1.ne hg; have h2 := HS.out.2; simp; omega)).set (fun g hg => by have h1 := H3.out.1.ne hg; have h2 := HS.out.2; simp; omega)).mono HS.out.1, ?_⟩
  · simp [results, Tryz.results61, go_sem, kz]
  · exact (H3.out.2.1.setCell (by first | omega | (simp; done) | (simp; omega)) _).setCell (by first | omega | (simp; done) | (simp; omega)) _
end Go.Proofs.YtoijhecphgdfnaaGreatDoor
