/-
  The document's Take, Judge, Copy, way by way.
-/
import Derived.Test.YtjmjimbhoncidaaDoorDcRefF
namespace Go.Proofs.YtjmjimbhoncidaaDoor
open Go.RowKit

set_option maxRecDepth 100000 in
set_option maxHeartbeats 2000000 in
theorem rTake_1 (e : Bool) (a p : Int) (w : World) (q1 : okB e a p = false) : Calls Tryd.prog 27 #[.agg #[.bool e, .int .i64 a, .int .i64 p]] w (Ans2Q ⟨false, nT, [], 220⟩ w) := by
  have c1 : ∀ w, Calls Tryd.prog 45 #[.agg #[.bool e, .int .i64 a, .int .i64 p]] w fun r w' => r = .returned (.bool false) ∧ Below w.heap.size w w' := fun w => by have := rRight_any e a p w; rw [q1] at this; exact this
  go_enter Tryd.func27, Tryd.ntmps27
  go_wp2_with fail
  refine (c1 _).mono ?_
  rintro _ w1 ⟨rfl, b1⟩
  have HB1 : Hid (Below w.heap.size w w1) := below_then (((Below.refl _ _).alloc (by first | omega | (simp; done) | (simp; omega)) _).alloc (by first | omega | (simp; done) | (simp; omega)) _) b1
  have X1_0 : Hid (Box w1 w.heap.size #[.bool e, .int .i64 a, .int .i64 p]) := ((Box.new' _ #[.bool e, .int .i64 a, .int .i64 p] 23 w.heap.size (by simp)).alloc _).below b1
  have X1_1 : Hid (Box w1 (w.heap.size + 1) #[.bool false, .string ⟨#[]⟩]) := (Box.new' _ #[.bool false, .string ⟨#[]⟩] 59 (w.heap.size + 1) (by simp)).below b1
  clear b1 c1
  obtain ⟨l1_0, k1_0, f1_0⟩ := X1_0.out
  obtain ⟨l1_1, k1_1, f1_1⟩ := X1_1.out
  go_wp2_with fail
  refine bodyPost_ret ?_ rfl ⟨.slice none 0 0, rfl, ActRow.nil _ _, ?_⟩
  · simp [results, Tryd.results27, go_sem, k1_1]
  · exact (HB1.out.setCell (by first | omega | (simp; done) | (simp; omega)) _).setCell (by first | omega | (simp; done) | (simp; omega)) _
set_option maxRecDepth 100000 in
set_option maxHeartbeats 2000000 in
theorem rTake_2 (e : Bool) (a p : Int) (w : World) (q1 : okB e a p = true) (q2 : caB e a = true) : Calls Tryd.prog 27 #[.agg #[.bool e, .int .i64 a, .int .i64 p]] w (Ans2Q ⟨false, nT, [(7, kCA), (8, nT)], 0⟩ w) := by
  have c1 : ∀ w, Calls Tryd.prog 45 #[.agg #[.bool e, .int .i64 a, .int .i64 p]] w fun r w' => r = .returned (.bool true) ∧ Below w.heap.size w w' := fun w => by have := rRight_any e a p w; rw [q1] at this; exact this
  have c2 : ∀ w, Calls Tryd.prog 48 #[.agg #[.bool e, .int .i64 a, .int .i64 p], .string ⟨#[67, 65]⟩] w fun r w' => r = .returned (.bool true) ∧ Below w.heap.size w w' := fun w => by have := rSent_1 e a p w; rw [q2] at this; exact this
  go_enter Tryd.func27, Tryd.ntmps27
  go_wp2_with fail
  refine (c1 _).mono ?_
  rintro _ w1 ⟨rfl, b1⟩
  have HB1 : Hid (Below w.heap.size w w1) := below_then (((Below.refl _ _).alloc (by first | omega | (simp; done) | (simp; omega)) _).alloc (by first | omega | (simp; done) | (simp; omega)) _) b1
  have X1_0 : Hid (Box w1 w.heap.size #[.bool e, .int .i64 a, .int .i64 p]) := ((Box.new' _ #[.bool e, .int .i64 a, .int .i64 p] 23 w.heap.size (by simp)).alloc _).below b1
  have X1_1 : Hid (Box w1 (w.heap.size + 1) #[.bool false, .string ⟨#[]⟩]) := (Box.new' _ #[.bool false, .string ⟨#[]⟩] 59 (w.heap.size + 1) (by simp)).below b1
  clear b1 c1
  obtain ⟨l1_0, k1_0, f1_0⟩ := X1_0.out
  obtain ⟨l1_1, k1_1, f1_1⟩ := X1_1.out
  go_wp2_with fail
  refine (c2 _).mono ?_
  rintro _ w2 ⟨rfl, b2⟩
  have HB2 : Hid (Below w.heap.size w w2) := below_then HB1.out b2
  have X2_0 : Hid (Box w2 w.heap.size #[.bool e, .int .i64 a, .int .i64 p]) := X1_0.out.below b2
  have X2_1 : Hid (Box w2 (w.heap.size + 1) #[.bool false, .string ⟨#[]⟩]) := X1_1.out.below b2
  clear k1_0 l1_0 f1_0 X1_0 k1_1 l1_1 f1_1 X1_1 HB1
  clear b2 c2
  obtain ⟨l2_0, k2_0, f2_0⟩ := X2_0.out
  obtain ⟨l2_1, k2_1, f2_1⟩ := X2_1.out
  have HS : Hid (w.heap.size ≤ w2.heap.size ∧ w.heap.size < w2.heap.size ∧ (w.heap.size + 1) < w2.heap.size) := ⟨HB2.out.size, X2_0.out.lt, X2_1.out.lt⟩
  obtain ⟨a3, d3, w3, e3, r3, b3⟩ := run_apush (ActRow.nil w2 w2.heap.size) (Nat.le_refl _) (by simp) (7, kCA) #[.int .i64 7, .string ⟨#[67, 65]⟩] rfl
  have g3 : (Builtin.append_ #[51, 51] 51 #[.slice none 0 0, .slice (some ⟨w2.heap.size, 0, none⟩) 1 1]).run Tryd.prog (w2.alloc (.cells #[.int .i64 7, .string ⟨#[67, 65]⟩] 85)) = .ok (.slice a3 1 d3) w3 := e3
  have HR3 : Hid (ActRow w3 w2.heap.size (.slice a3 1 d3) [(7, kCA)] ∧ w2.heap.size ≤ w3.heap.size) := ⟨r3, by have h1 := b3.size; omega⟩
  have HB3 : Hid (Below w.heap.size w w3) := HB2.out.trans (b3.mono HS.out.1)
  have X3_0 : Hid (Box w3 w.heap.size #[.bool e, .int .i64 a, .int .i64 p]) := X2_0.out.belowB b3 HS.out.2.1 (Nat.le_refl _)
  have X3_1 : Hid (Box w3 (w.heap.size + 1) #[.bool false, .string ⟨#[]⟩]) := X2_1.out.belowB b3 HS.out.2.2 (Nat.le_refl _)
  clear X2_0 X2_1 HB2 e3 r3 b3
  obtain ⟨l3_0, k3_0, f3_0⟩ := X3_0.out
  obtain ⟨l3_1, k3_1, f3_1⟩ := X3_1.out
  obtain ⟨a4, d4, w4, e4, r4, b4⟩ := run_apush HR3.out.1 HR3.out.2 (by simp) (8, nT) #[.int .i64 8, .string ⟨#[]⟩] rfl
  have g4 : (Builtin.append_ #[51, 51] 51 #[(.slice a3 1 d3), .slice (some ⟨w3.heap.size, 0, none⟩) 1 1]).run Tryd.prog (w3.alloc (.cells #[.int .i64 8, .string ⟨#[]⟩] 85)) = .ok (.slice a4 2 d4) w4 := e4
  have HR4 : Hid (ActRow w4 w2.heap.size (.slice a4 2 d4) [(7, kCA), (8, nT)] ∧ w2.heap.size ≤ w4.heap.size) := ⟨r4, by have h1 := b4.size; have h2 := HR3.out.2; omega⟩
  have HB4 : Hid (Below w.heap.size w w4) := HB3.out.trans (b4.mono HS.out.1)
  have X4_0 : Hid (Box w4 w.heap.size #[.bool e, .int .i64 a, .int .i64 p]) := X3_0.out.belowB b4 HS.out.2.1 HR3.out.2
  have X4_1 : Hid (Box w4 (w.heap.size + 1) #[.bool false, .string ⟨#[]⟩]) := X3_1.out.belowB b4 HS.out.2.2 HR3.out.2
  clear X3_0 X3_1 HB3 e4 r4 b4
  clear HR3
  obtain ⟨l4_0, k4_0, f4_0⟩ := X4_0.out
  obtain ⟨l4_1, k4_1, f4_1⟩ := X4_1.out
  go_wp2_with (first | (at_builtin; refine wpList_append_run rfl (.tmp 12) (.tmp 14) 51 _ rfl g3 ?_) | (at_builtin; refine wpList_append_run rfl (.tmp 17) (.tmp 19) 51 _ rfl g4 ?_))
  refine bodyPost_ret ?_ rfl ⟨.slice a4 2 d4, rfl, ((HR4.out.1.set (fun g hg => by have h1 := HR4.out.1.ne hg; have h2 := HS.out; simp; omega)).set (fun g hg => by have h1 := HR4.out.1.ne hg; have h2 := HS.out; simp; omega)).mono HS.out.1, ?_⟩
  · simp [results, Tryd.results27, go_sem, k4_1]
  · exact (HB4.out.setCell (by first | omega | (simp; done) | (simp; omega)) _).setCell (by first | omega | (simp; done) | (simp; omega)) _
set_option maxRecDepth 100000 in
set_option maxHeartbeats 2000000 in
theorem rTake_3 (e : Bool) (a p : Int) (w : World) (q1 : okB e a p = true) (q2 : caB e a = false) : Calls Tryd.prog 27 #[.agg #[.bool e, .int .i64 a, .int .i64 p]] w (Ans2Q ⟨false, nT, [(8, nT)], 0⟩ w) := by
  have c1 : ∀ w, Calls Tryd.prog 45 #[.agg #[.bool e, .int .i64 a, .int .i64 p]] w fun r w' => r = .returned (.bool true) ∧ Below w.heap.size w w' := fun w => by have := rRight_any e a p w; rw [q1] at this; exact this
  have c2 : ∀ w, Calls Tryd.prog 48 #[.agg #[.bool e, .int .i64 a, .int .i64 p], .string ⟨#[67, 65]⟩] w fun r w' => r = .returned (.bool false) ∧ Below w.heap.size w w' := fun w => by have := rSent_1 e a p w; rw [q2] at this; exact this
  go_enter Tryd.func27, Tryd.ntmps27
  go_wp2_with fail
  refine (c1 _).mono ?_
  rintro _ w1 ⟨rfl, b1⟩
  have HB1 : Hid (Below w.heap.size w w1) := below_then (((Below.refl _ _).alloc (by first | omega | (simp; done) | (simp; omega)) _).alloc (by first | omega | (simp; done) | (simp; omega)) _) b1
  have X1_0 : Hid (Box w1 w.heap.size #[.bool e, .int .i64 a, .int .i64 p]) := ((Box.new' _ #[.bool e, .int .i64 a, .int .i64 p] 23 w.heap.size (by simp)).alloc _).below b1
  have X1_1 : Hid (Box w1 (w.heap.size + 1) #[.bool false, .string ⟨#[]⟩]) := (Box.new' _ #[.bool false, .string ⟨#[]⟩] 59 (w.heap.size + 1) (by simp)).below b1
  clear b1 c1
  obtain ⟨l1_0, k1_0, f1_0⟩ := X1_0.out
  obtain ⟨l1_1, k1_1, f1_1⟩ := X1_1.out
  go_wp2_with fail
  refine (c2 _).mono ?_
  rintro _ w2 ⟨rfl, b2⟩
  have HB2 : Hid (Below w.heap.size w w2) := below_then HB1.out b2
  have X2_0 : Hid (Box w2 w.heap.size #[.bool e, .int .i64 a, .int .i64 p]) := X1_0.out.below b2
  have X2_1 : Hid (Box w2 (w.heap.size + 1) #[.bool false, .string ⟨#[]⟩]) := X1_1.out.below b2
  clear k1_0 l1_0 f1_0 X1_0 k1_1 l1_1 f1_1 X1_1 HB1
  clear b2 c2
  obtain ⟨l2_0, k2_0, f2_0⟩ := X2_0.out
  obtain ⟨l2_1, k2_1, f2_1⟩ := X2_1.out
  have HS : Hid (w.heap.size ≤ w2.heap.size ∧ w.heap.size < w2.heap.size ∧ (w.heap.size + 1) < w2.heap.size) := ⟨HB2.out.size, X2_0.out.lt, X2_1.out.lt⟩
  obtain ⟨a3, d3, w3, e3, r3, b3⟩ := run_apush (ActRow.nil w2 w2.heap.size) (Nat.le_refl _) (by simp) (8, nT) #[.int .i64 8, .string ⟨#[]⟩] rfl
  have g3 : (Builtin.append_ #[51, 51] 51 #[.slice none 0 0, .slice (some ⟨w2.heap.size, 0, none⟩) 1 1]).run Tryd.prog (w2.alloc (.cells #[.int .i64 8, .string ⟨#[]⟩] 85)) = .ok (.slice a3 1 d3) w3 := e3
  have HR3 : Hid (ActRow w3 w2.heap.size (.slice a3 1 d3) [(8, nT)] ∧ w2.heap.size ≤ w3.heap.size) := ⟨r3, by have h1 := b3.size; omega⟩
  have HB3 : Hid (Below w.heap.size w w3) := HB2.out.trans (b3.mono HS.out.1)
  have X3_0 : Hid (Box w3 w.heap.size #[.bool e, .int .i64 a, .int .i64 p]) := X2_0.out.belowB b3 HS.out.2.1 (Nat.le_refl _)
  have X3_1 : Hid (Box w3 (w.heap.size + 1) #[.bool false, .string ⟨#[]⟩]) := X2_1.out.belowB b3 HS.out.2.2 (Nat.le_refl _)
  clear X2_0 X2_1 HB2 e3 r3 b3
  obtain ⟨l3_0, k3_0, f3_0⟩ := X3_0.out
  obtain ⟨l3_1, k3_1, f3_1⟩ := X3_1.out
  go_wp2_with (first | (at_builtin; refine wpList_append_run rfl (.tmp 17) (.tmp 19) 51 _ rfl g3 ?_))
  refine bodyPost_ret ?_ rfl ⟨.slice a3 1 d3, rfl, ((HR3.out.1.set (fun g hg => by have h1 := HR3.out.1.ne hg; have h2 := HS.out; simp; omega)).set (fun g hg => by have h1 := HR3.out.1.ne hg; have h2 := HS.out; simp; omega)).mono HS.out.1, ?_⟩
  · simp [results, Tryd.results27, go_sem, k3_1]
  · exact (HB3.out.setCell (by first | omega | (simp; done) | (simp; omega)) _).setCell (by first | omega | (simp; done) | (simp; omega)) _
set_option maxRecDepth 100000 in
set_option maxHeartbeats 2000000 in
theorem rJudge_1 (e : Bool) (a p : Int) (d : Bool) (c s : ByteArray) (w : World) (q1 : okB e a p = false) : Calls Tryd.prog 29 #[.agg #[.bool e, .int .i64 a, .int .i64 p], .agg #[.bool d, .string c], .string s] w (Ans2Q ⟨false, nT, [], 220⟩ w) := by
  have c1 : ∀ w, Calls Tryd.prog 45 #[.agg #[.bool e, .int .i64 a, .int .i64 p]] w fun r w' => r = .returned (.bool false) ∧ Below w.heap.size w w' := fun w => by have := rRight_any e a p w; rw [q1] at this; exact this
  go_enter Tryd.func29, Tryd.ntmps29
  go_wp2_with fail
  refine (c1 _).mono ?_
  rintro _ w1 ⟨rfl, b1⟩
  have HB1 : Hid (Below w.heap.size w w1) := below_then ((((Below.refl _ _).alloc (by first | omega | (simp; done) | (simp; omega)) _).alloc (by first | omega | (simp; done) | (simp; omega)) _).alloc (by first | omega | (simp; done) | (simp; omega)) _) b1
  have X1_0 : Hid (Box w1 w.heap.size #[.bool e, .int .i64 a, .int .i64 p]) := (((Box.new' _ #[.bool e, .int .i64 a, .int .i64 p] 23 w.heap.size (by simp)).alloc _).alloc _).below b1
  have X1_1 : Hid (Box w1 (w.heap.size + 1) #[.bool d, .string c]) := ((Box.new' _ #[.bool d, .string c] 59 (w.heap.size + 1) (by simp)).alloc _).below b1
  have X1_2 : Hid (Box w1 (w.heap.size + 1 + 1) #[.bool false, .string ⟨#[]⟩]) := (Box.new' _ #[.bool false, .string ⟨#[]⟩] 59 (w.heap.size + 1 + 1) (by simp)).below b1
  clear b1 c1
  obtain ⟨l1_0, k1_0, f1_0⟩ := X1_0.out
  obtain ⟨l1_1, k1_1, f1_1⟩ := X1_1.out
  obtain ⟨l1_2, k1_2, f1_2⟩ := X1_2.out
  go_wp2_with fail
  refine bodyPost_ret ?_ rfl ⟨.slice none 0 0, rfl, ActRow.nil _ _, ?_⟩
  · simp [results, Tryd.results29, go_sem, k1_2]
  · exact (HB1.out.setCell (by first | omega | (simp; done) | (simp; omega)) _).setCell (by first | omega | (simp; done) | (simp; omega)) _
set_option maxRecDepth 100000 in
set_option maxHeartbeats 2000000 in
theorem rJudge_2 (e : Bool) (a p : Int) (d : Bool) (c s : ByteArray) (w : World) (q1 : okB e a p = true) (q3 : keptB d c = false) : Calls Tryd.prog 29 #[.agg #[.bool e, .int .i64 a, .int .i64 p], .agg #[.bool d, .string c], .string s] w (Ans2Q ⟨false, nT, [], 223⟩ w) := by
  have c1 : ∀ w, Calls Tryd.prog 45 #[.agg #[.bool e, .int .i64 a, .int .i64 p]] w fun r w' => r = .returned (.bool true) ∧ Below w.heap.size w w' := fun w => by have := rRight_any e a p w; rw [q1] at this; exact this
  have c2 : ∀ w, Calls Tryd.prog 58 #[.agg #[.bool d, .string c]] w fun r w' => r = .returned (.bool false) ∧ Below w.heap.size w w' := fun w => by have := rKept_any d c w; rw [q3] at this; exact this
  go_enter Tryd.func29, Tryd.ntmps29
  go_wp2_with fail
  refine (c1 _).mono ?_
  rintro _ w1 ⟨rfl, b1⟩
  have HB1 : Hid (Below w.heap.size w w1) := below_then ((((Below.refl _ _).alloc (by first | omega | (simp; done) | (simp; omega)) _).alloc (by first | omega | (simp; done) | (simp; omega)) _).alloc (by first | omega | (simp; done) | (simp; omega)) _) b1
  have X1_0 : Hid (Box w1 w.heap.size #[.bool e, .int .i64 a, .int .i64 p]) := (((Box.new' _ #[.bool e, .int .i64 a, .int .i64 p] 23 w.heap.size (by simp)).alloc _).alloc _).below b1
  have X1_1 : Hid (Box w1 (w.heap.size + 1) #[.bool d, .string c]) := ((Box.new' _ #[.bool d, .string c] 59 (w.heap.size + 1) (by simp)).alloc _).below b1
  have X1_2 : Hid (Box w1 (w.heap.size + 1 + 1) #[.bool false, .string ⟨#[]⟩]) := (Box.new' _ #[.bool false, .string ⟨#[]⟩] 59 (w.heap.size + 1 + 1) (by simp)).below b1
  clear b1 c1
  obtain ⟨l1_0, k1_0, f1_0⟩ := X1_0.out
  obtain ⟨l1_1, k1_1, f1_1⟩ := X1_1.out
  obtain ⟨l1_2, k1_2, f1_2⟩ := X1_2.out
  go_wp2_with fail
  refine (c2 _).mono ?_
  rintro _ w2 ⟨rfl, b2⟩
  have HB2 : Hid (Below w.heap.size w w2) := below_then HB1.out b2
  have X2_0 : Hid (Box w2 w.heap.size #[.bool e, .int .i64 a, .int .i64 p]) := X1_0.out.below b2
  have X2_1 : Hid (Box w2 (w.heap.size + 1) #[.bool d, .string c]) := X1_1.out.below b2
  have X2_2 : Hid (Box w2 (w.heap.size + 1 + 1) #[.bool false, .string ⟨#[]⟩]) := X1_2.out.below b2
  clear k1_0 l1_0 f1_0 X1_0 k1_1 l1_1 f1_1 X1_1 k1_2 l1_2 f1_2 X1_2 HB1
  clear b2 c2
  obtain ⟨l2_0, k2_0, f2_0⟩ := X2_0.out
  obtain ⟨l2_1, k2_1, f2_1⟩ := X2_1.out
  obtain ⟨l2_2, k2_2, f2_2⟩ := X2_2.out
  go_wp2_with fail
  refine bodyPost_ret ?_ rfl ⟨.slice none 0 0, rfl, ActRow.nil _ _, ?_⟩
  · simp [results, Tryd.results29, go_sem, k2_2]
  · exact (HB2.out.setCell (by first | omega | (simp; done) | (simp; omega)) _).setCell (by first | omega | (simp; done) | (simp; omega)) _
end Go.Proofs.YtjmjimbhoncidaaDoor
