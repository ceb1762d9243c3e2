/-
  The document's Take, Judge, Copy, way by way.
-/
import Derived.Test.YtjmjimbhoncidaaDoorDcRefF
namespace Go.Proofs.YtjmjimbhoncidaaDoor
open Go.RowKit

set_option maxRecDepth 100000 in
set_option maxHeartbeats 2000000 in
theorem rCopy_3t (e : Bool) (a p : Int) (c : ByteArray) (w : World) (q1 : okB e a p = true) (q3 : keptB false c = true) (q2 : caB e a = true) : Calls Tryd.prog 31 #[.agg #[.bool e, .int .i64 a, .int .i64 p], .agg #[.bool false, .string c]] w (CopyQ ⟨false, nT, [(7, kCA)], 0⟩ w) := by
  have c1 : ∀ w, Calls Tryd.prog 45 #[.agg #[.bool e, .int .i64 a, .int .i64 p]] w fun r w' => r = .returned (.bool true) ∧ Below w.heap.size w w' := fun w => by have := rRight_any e a p w; rw [q1] at this; exact this
  have c2 : ∀ w, Calls Tryd.prog 58 #[.agg #[.bool false, .string c]] w fun r w' => r = .returned (.bool true) ∧ Below w.heap.size w w' := fun w => by have := rKept_any false c w; rw [q3] at this; exact this
  have c3 : ∀ w, Calls Tryd.prog 48 #[.agg #[.bool e, .int .i64 a, .int .i64 p], .string ⟨#[67, 65]⟩] w fun r w' => r = .returned (.bool true) ∧ Below w.heap.size w w' := fun w => by have := rSent_1 e a p w; rw [q2] at this; exact this
  go_enter Tryd.func31, Tryd.ntmps31
  go_wp2_with fail
  refine (c1 _).mono ?_
  rintro _ w1 ⟨rfl, b1⟩
  have HB1 : Hid (Below w.heap.size w w1) := below_then (((Below.refl _ _).alloc (by first | omega | (simp; done) | (simp; omega)) _).alloc (by first | omega | (simp; done) | (simp; omega)) _) b1
  have X1_0 : Hid (Box w1 w.heap.size #[.bool e, .int .i64 a, .int .i64 p]) := ((Box.new' _ #[.bool e, .int .i64 a, .int .i64 p] 23 w.heap.size (by simp)).alloc _).below b1
  have X1_1 : Hid (Box w1 (w.heap.size + 1) #[.bool false, .string c]) := (Box.new' _ #[.bool false, .string c] 59 (w.heap.size + 1) (by simp)).below b1
  clear b1 c1
  obtain ⟨l1_0, k1_0, f1_0⟩ := X1_0.out
  obtain ⟨l1_1, k1_1, f1_1⟩ := X1_1.out
  go_wp2_with fail
  refine (c2 _).mono ?_
  rintro _ w2 ⟨rfl, b2⟩
  have HB2 : Hid (Below w.heap.size w w2) := below_then HB1.out b2
  have X2_0 : Hid (Box w2 w.heap.size #[.bool e, .int .i64 a, .int .i64 p]) := X1_0.out.below b2
  have X2_1 : Hid (Box w2 (w.heap.size + 1) #[.bool false, .string c]) := X1_1.out.below b2
  clear k1_0 l1_0 f1_0 X1_0 k1_1 l1_1 f1_1 X1_1 HB1
  clear b2 c2
  obtain ⟨l2_0, k2_0, f2_0⟩ := X2_0.out
  obtain ⟨l2_1, k2_1, f2_1⟩ := X2_1.out
  go_wp2_with fail
  refine (c3 _).mono ?_
  rintro _ w3 ⟨rfl, b3⟩
  have HB3 : Hid (Below w.heap.size w w3) := below_then HB2.out b3
  have X3_0 : Hid (Box w3 w.heap.size #[.bool e, .int .i64 a, .int .i64 p]) := X2_0.out.below b3
  have X3_1 : Hid (Box w3 (w.heap.size + 1) #[.bool false, .string c]) := X2_1.out.below b3
  clear k2_0 l2_0 f2_0 X2_0 k2_1 l2_1 f2_1 X2_1 HB2
  clear b3 c3
  obtain ⟨l3_0, k3_0, f3_0⟩ := X3_0.out
  obtain ⟨l3_1, k3_1, f3_1⟩ := X3_1.out
  have HS : Hid (w.heap.size ≤ w3.heap.size ∧ w.heap.size < w3.heap.size ∧ (w.heap.size + 1) < w3.heap.size) := ⟨HB3.out.size, X3_0.out.lt, X3_1.out.lt⟩
  obtain ⟨a4, d4, w4, e4, r4, b4⟩ := run_apush (ActRow.nil w3 w3.heap.size) (Nat.le_refl _) (by simp) (7, kCA) #[.int .i64 7, .string ⟨#[67, 65]⟩] rfl
  have g4 : (Builtin.append_ #[51, 51] 51 #[.slice none 0 0, .slice (some ⟨w3.heap.size, 0, none⟩) 1 1]).run Tryd.prog (w3.alloc (.cells #[.int .i64 7, .string ⟨#[67, 65]⟩] 85)) = .ok (.slice a4 1 d4) w4 := e4
  have HR4 : Hid (ActRow w4 w3.heap.size (.slice a4 1 d4) [(7, kCA)] ∧ w3.heap.size ≤ w4.heap.size) := ⟨r4, by have h1 := b4.size; omega⟩
  have HB4 : Hid (Below w.heap.size w w4) := HB3.out.trans (b4.mono HS.out.1)
  have X4_0 : Hid (Box w4 w.heap.size #[.bool e, .int .i64 a, .int .i64 p]) := X3_0.out.belowB b4 HS.out.2.1 (Nat.le_refl _)
  have X4_1 : Hid (Box w4 (w.heap.size + 1) #[.bool false, .string c]) := X3_1.out.belowB b4 HS.out.2.2 (Nat.le_refl _)
  clear X3_0 X3_1 HB3 e4 r4 b4
  obtain ⟨l4_0, k4_0, f4_0⟩ := X4_0.out
  obtain ⟨l4_1, k4_1, f4_1⟩ := X4_1.out
  go_wp2_with (first | (at_builtin; refine wpList_append_run rfl (.tmp 15) (.tmp 17) 51 _ rfl g4 ?_))
  refine bodyPost_ret ?_ rfl ⟨.slice a4 1 d4, rfl, HR4.out.1.mono HS.out.1, HB4.out⟩
  simp [results, Tryd.results31, go_sem]
set_option maxRecDepth 100000 in
set_option maxHeartbeats 2000000 in
theorem rCopy_4t (e : Bool) (a p : Int) (c : ByteArray) (w : World) (q1 : okB e a p = true) (q3 : keptB true c = true) (q2 : caB e a = true) (q5 : sentB e a p c = false) : Calls Tryd.prog 31 #[.agg #[.bool e, .int .i64 a, .int .i64 p], .agg #[.bool true, .string c]] w (CopyQ ⟨false, nT, [(7, kCA)], 0⟩ w) := by
  have c1 : ∀ w, Calls Tryd.prog 45 #[.agg #[.bool e, .int .i64 a, .int .i64 p]] w fun r w' => r = .returned (.bool true) ∧ Below w.heap.size w w' := fun w => by have := rRight_any e a p w; rw [q1] at this; exact this
  have c2 : ∀ w, Calls Tryd.prog 58 #[.agg #[.bool true, .string c]] w fun r w' => r = .returned (.bool true) ∧ Below w.heap.size w w' := fun w => by have := rKept_any true c w; rw [q3] at this; exact this
  have c3 : ∀ w, Calls Tryd.prog 48 #[.agg #[.bool e, .int .i64 a, .int .i64 p], .string ⟨#[67, 65]⟩] w fun r w' => r = .returned (.bool true) ∧ Below w.heap.size w w' := fun w => by have := rSent_1 e a p w; rw [q2] at this; exact this
  have c5 : ∀ w, Calls Tryd.prog 48 #[.agg #[.bool e, .int .i64 a, .int .i64 p], .string c] w fun r w' => r = .returned (.bool false) ∧ Below w.heap.size w w' := fun w => by have := rSent_any e a p c w; rw [q5] at this; exact this
  go_enter Tryd.func31, Tryd.ntmps31
  go_wp2_with fail
  refine (c1 _).mono ?_
  rintro _ w1 ⟨rfl, b1⟩
  have HB1 : Hid (Below w.heap.size w w1) := below_then (((Below.refl _ _).alloc (by first | omega | (simp; done) | (simp; omega)) _).alloc (by first | omega | (simp; done) | (simp; omega)) _) b1
  have X1_0 : Hid (Box w1 w.heap.size #[.bool e, .int .i64 a, .int .i64 p]) := ((Box.new' _ #[.bool e, .int .i64 a, .int .i64 p] 23 w.heap.size (by simp)).alloc _).below b1
  have X1_1 : Hid (Box w1 (w.heap.size + 1) #[.bool true, .string c]) := (Box.new' _ #[.bool true, .string c] 59 (w.heap.size + 1) (by simp)).below b1
  clear b1 c1
  obtain ⟨l1_0, k1_0, f1_0⟩ := X1_0.out
  obtain ⟨l1_1, k1_1, f1_1⟩ := X1_1.out
  go_wp2_with fail
  refine (c2 _).mono ?_
  rintro _ w2 ⟨rfl, b2⟩
  have HB2 : Hid (Below w.heap.size w w2) := below_then HB1.out b2
  have X2_0 : Hid (Box w2 w.heap.size #[.bool e, .int .i64 a, .int .i64 p]) := X1_0.out.below b2
  have X2_1 : Hid (Box w2 (w.heap.size + 1) #[.bool true, .string c]) := X1_1.out.below b2
  clear k1_0 l1_0 f1_0 X1_0 k1_1 l1_1 f1_1 X1_1 HB1
  clear b2 c2
  obtain ⟨l2_0, k2_0, f2_0⟩ := X2_0.out
  obtain ⟨l2_1, k2_1, f2_1⟩ := X2_1.out
  go_wp2_with fail
  refine (c3 _).mono ?_
  rintro _ w3 ⟨rfl, b3⟩
  have HB3 : Hid (Below w.heap.size w w3) := below_then HB2.out b3
  have X3_0 : Hid (Box w3 w.heap.size #[.bool e, .int .i64 a, .int .i64 p]) := X2_0.out.below b3
  have X3_1 : Hid (Box w3 (w.heap.size + 1) #[.bool true, .string c]) := X2_1.out.below b3
  clear k2_0 l2_0 f2_0 X2_0 k2_1 l2_1 f2_1 X2_1 HB2
  clear b3 c3
  obtain ⟨l3_0, k3_0, f3_0⟩ := X3_0.out
  obtain ⟨l3_1, k3_1, f3_1⟩ := X3_1.out
  have HS : Hid (w.heap.size ≤ w3.heap.size ∧ w.heap.size < w3.heap.size ∧ (w.heap.size + 1) < w3.heap.size) := ⟨HB3.out.size, X3_0.out.lt, X3_1.out.lt⟩
  obtain ⟨a4, d4, w4, e4, r4, b4⟩ := run_apush (ActRow.nil w3 w3.heap.size) (Nat.le_refl _) (by simp) (7, kCA) #[.int .i64 7, .string ⟨#[67, 65]⟩] rfl
  have g4 : (Builtin.append_ #[51, 51] 51 #[.slice none 0 0, .slice (some ⟨w3.heap.size, 0, none⟩) 1 1]).run Tryd.prog (w3.alloc (.cells #[.int .i64 7, .string ⟨#[67, 65]⟩] 85)) = .ok (.slice a4 1 d4) w4 := e4
  have HR4 : Hid (ActRow w4 w3.heap.size (.slice a4 1 d4) [(7, kCA)] ∧ w3.heap.size ≤ w4.heap.size) := ⟨r4, by have h1 := b4.size; omega⟩
  have HB4 : Hid (Below w.heap.size w w4) := HB3.out.trans (b4.mono HS.out.1)
  have X4_0 : Hid (Box w4 w.heap.size #[.bool e, .int .i64 a, .int .i64 p]) := X3_0.out.belowB b4 HS.out.2.1 (Nat.le_refl _)
  have X4_1 : Hid (Box w4 (w.heap.size + 1) #[.bool true, .string c]) := X3_1.out.belowB b4 HS.out.2.2 (Nat.le_refl _)
  clear X3_0 X3_1 HB3 e4 r4 b4
  obtain ⟨l4_0, k4_0, f4_0⟩ := X4_0.out
  obtain ⟨l4_1, k4_1, f4_1⟩ := X4_1.out
  go_wp2_with (first | (at_builtin; refine wpList_append_run rfl (.tmp 15) (.tmp 17) 51 _ rfl g4 ?_))
  refine (c5 _).mono ?_
  rintro _ w5 ⟨rfl, b5⟩
  have HB5 : Hid (Below w.heap.size w w5) := below_then HB4.out b5
  have X5_0 : Hid (Box w5 w.heap.size #[.bool e, .int .i64 a, .int .i64 p]) := X4_0.out.below b5
  have X5_1 : Hid (Box w5 (w.heap.size + 1) #[.bool true, .string c]) := X4_1.out.below b5
  have HR5 : Hid (ActRow w5 w3.heap.size (.slice a4 1 d4) [(7, kCA)] ∧ w3.heap.size ≤ w5.heap.size) := ⟨HR4.out.1.below b5, Nat.le_trans HR4.out.2 b5.size⟩
  clear k4_0 l4_0 f4_0 X4_0 k4_1 l4_1 f4_1 X4_1 HB4
  clear HR4
  clear b5 c5
  obtain ⟨l5_0, k5_0, f5_0⟩ := X5_0.out
  obtain ⟨l5_1, k5_1, f5_1⟩ := X5_1.out
  go_wp2_with fail
  refine bodyPost_ret ?_ rfl ⟨.slice a4 1 d4, rfl, HR5.out.1.mono HS.out.1, HB5.out⟩
  simp [results, Tryd.results31, go_sem]
set_option maxRecDepth 100000 in
set_option maxHeartbeats 2000000 in
theorem rCopy_5t (e : Bool) (a p : Int) (c : ByteArray) (w : World) (q1 : okB e a p = true) (q3 : keptB true c = true) (q2 : caB e a = true) (q5 : sentB e a p c = true) : Calls Tryd.prog 31 #[.agg #[.bool e, .int .i64 a, .int .i64 p], .agg #[.bool true, .string c]] w (CopyQ ⟨false, nT, [(7, kCA), (9, c)], 0⟩ w) := by
  have c1 : ∀ w, Calls Tryd.prog 45 #[.agg #[.bool e, .int .i64 a, .int .i64 p]] w fun r w' => r = .returned (.bool true) ∧ Below w.heap.size w w' := fun w => by have := rRight_any e a p w; rw [q1] at this; exact this
  have c2 : ∀ w, Calls Tryd.prog 58 #[.agg #[.bool true, .string c]] w fun r w' => r = .returned (.bool true) ∧ Below w.heap.size w w' := fun w => by have := rKept_any true c w; rw [q3] at this; exact this
  have c3 : ∀ w, Calls Tryd.prog 48 #[.agg #[.bool e, .int .i64 a, .int .i64 p], .string ⟨#[67, 65]⟩] w fun r w' => r = .returned (.bool true) ∧ Below w.heap.size w w' := fun w => by have := rSent_1 e a p w; rw [q2] at this; exact this
  have c5 : ∀ w, Calls Tryd.prog 48 #[.agg #[.bool e, .int .i64 a, .int .i64 p], .string c] w fun r w' => r = .returned (.bool true) ∧ Below w.heap.size w w' := fun w => by have := rSent_any e a p c w; rw [q5] at this; exact this
  go_enter Tryd.func31, Tryd.ntmps31
  go_wp2_with fail
  refine (c1 _).mono ?_
  rintro _ w1 ⟨rfl, b1⟩
  have HB1 : Hid (Below w.heap.size w w1) := below_then (((Below.refl _ _).alloc (by first | omega | (simp; done) | (simp; omega)) _).alloc (by first | omega | (simp; done) | (simp; omega)) _) b1
  have X1_0 : Hid (Box w1 w.heap.size #[.bool e, .int .i64 a, .int .i64 p]) := ((Box.new' _ #[.bool e, .int .i64 a, .int .i64 p] 23 w.heap.size (by simp)).alloc _).below b1
  have X1_1 : Hid (Box w1 (w.heap.size + 1) #[.bool true, .string c]) := (Box.new' _ #[.bool true, .string c] 59 (w.heap.size + 1) (by simp)).below b1
  clear b1 c1
  obtain ⟨l1_0, k1_0, f1_0⟩ := X1_0.out
  obtain ⟨l1_1, k1_1, f1_1⟩ := X1_1.out
  go_wp2_with fail
  refine (c2 _).mono ?_
  rintro _ w2 ⟨rfl, b2⟩
  have HB2 : Hid (Below w.heap.size w w2) := below_then HB1.out b2
  have X2_0 : Hid (Box w2 w.heap.size #[.bool e, .int .i64 a, .int .i64 p]) := X1_0.out.below b2
  have X2_1 : Hid (Box w2 (w.heap.size + 1) #[.bool true, .string c]) := X1_1.out.below b2
  clear k1_0 l1_0 f1_0 X1_0 k1_1 l1_1 f1_1 X1_1 HB1
  clear b2 c2
  obtain ⟨l2_0, k2_0, f2_0⟩ := X2_0.out
  obtain ⟨l2_1, k2_1, f2_1⟩ := X2_1.out
  go_wp2_with fail
  refine (c3 _).mono ?_
  rintro _ w3 ⟨rfl, b3⟩
  have HB3 : Hid (Below w.heap.size w w3) := below_then HB2.out b3
  have X3_0 : Hid (Box w3 w.heap.size #[.bool e, .int .i64 a, .int .i64 p]) := X2_0.out.below b3
  have X3_1 : Hid (Box w3 (w.heap.size + 1) #[.bool true, .string c]) := X2_1.out.below b3
  clear k2_0 l2_0 f2_0 X2_0 k2_1 l2_1 f2_1 X2_1 HB2
  clear b3 c3
  obtain ⟨l3_0, k3_0, f3_0⟩ := X3_0.out
  obtain ⟨l3_1, k3_1, f3_1⟩ := X3_1.out
  have HS : Hid (w.heap.size ≤ w3.heap.size ∧ w.heap.size < w3.heap.size ∧ (w.heap.size + 1) < w3.heap.size) := ⟨HB3.out.size, X3_0.out.lt, X3_1.out.lt⟩
  obtain ⟨a4, d4, w4, e4, r4, b4⟩ := run_apush (ActRow.nil w3 w3.heap.size) (Nat.le_refl _) (by simp) (7, kCA) #[.int .i64 7, .string ⟨#[67, 65]⟩] rfl
  have g4 : (Builtin.append_ #[51, 51] 51 #[.slice none 0 0, .slice (some ⟨w3.heap.size, 0, none⟩) 1 1]).run Tryd.prog (w3.alloc (.cells #[.int .i64 7, .string ⟨#[67, 65]⟩] 85)) = .ok (.slice a4 1 d4) w4 := e4
  have HR4 : Hid (ActRow w4 w3.heap.size (.slice a4 1 d4) [(7, kCA)] ∧ w3.heap.size ≤ w4.heap.size) := ⟨r4, by have h1 := b4.size; omega⟩
  have HB4 : Hid (Below w.heap.size w w4) := HB3.out.trans (b4.mono HS.out.1)
  have X4_0 : Hid (Box w4 w.heap.size #[.bool e, .int .i64 a, .int .i64 p]) := X3_0.out.belowB b4 HS.out.2.1 (Nat.le_refl _)
  have X4_1 : Hid (Box w4 (w.heap.size + 1) #[.bool true, .string c]) := X3_1.out.belowB b4 HS.out.2.2 (Nat.le_refl _)
  clear X3_0 X3_1 HB3 e4 r4 b4
  obtain ⟨l4_0, k4_0, f4_0⟩ := X4_0.out
  obtain ⟨l4_1, k4_1, f4_1⟩ := X4_1.out
  go_wp2_with (first | (at_builtin; refine wpList_append_run rfl (.tmp 15) (.tmp 17) 51 _ rfl g4 ?_))
  refine (c5 _).mono ?_
  rintro _ w5 ⟨rfl, b5⟩
  have HB5 : Hid (Below w.heap.size w w5) := below_then HB4.out b5
  have X5_0 : Hid (Box w5 w.heap.size #[.bool e, .int .i64 a, .int .i64 p]) := X4_0.out.below b5
  have X5_1 : Hid (Box w5 (w.heap.size + 1) #[.bool true, .string c]) := X4_1.out.below b5
  have HR5 : Hid (ActRow w5 w3.heap.size (.slice a4 1 d4) [(7, kCA)] ∧ w3.heap.size ≤ w5.heap.size) := ⟨HR4.out.1.below b5, Nat.le_trans HR4.out.2 b5.size⟩
  clear k4_0 l4_0 f4_0 X4_0 k4_1 l4_1 f4_1 X4_1 HB4
  clear HR4
  clear b5 c5
  obtain ⟨l5_0, k5_0, f5_0⟩ := X5_0.out
  obtain ⟨l5_1, k5_1, f5_1⟩ := X5_1.out
  obtain ⟨a6, d6, w6, e6, r6, b6⟩ := run_apush HR5.out.1 HR5.out.2 (by simp) (9, c) #[.int .i64 9, .string c] rfl
  have g6 : (Builtin.append_ #[51, 51] 51 #[(.slice a4 1 d4), .slice (some ⟨w5.heap.size, 0, none⟩) 1 1]).run Tryd.prog (w5.alloc (.cells #[.int .i64 9, .string c] 85)) = .ok (.slice a6 2 d6) w6 := e6
  have HR6 : Hid (ActRow w6 w3.heap.size (.slice a6 2 d6) [(7, kCA), (9, c)] ∧ w3.heap.size ≤ w6.heap.size) := ⟨r6, by have h1 := b6.size; have h2 := HR5.out.2; omega⟩
  have HB6 : Hid (Below w.heap.size w w6) := HB5.out.trans (b6.mono HS.out.1)
  have X6_0 : Hid (Box w6 w.heap.size #[.bool e, .int .i64 a, .int .i64 p]) := X5_0.out.belowB b6 HS.out.2.1 HR5.out.2
  have X6_1 : Hid (Box w6 (w.heap.size + 1) #[.bool true, .string c]) := X5_1.out.belowB b6 HS.out.2.2 HR5.out.2
  clear X5_0 X5_1 HB5 e6 r6 b6
  clear HR5
  obtain ⟨l6_0, k6_0, f6_0⟩ := X6_0.out
  obtain ⟨l6_1, k6_1, f6_1⟩ := X6_1.out
  go_wp2_with (first | (at_builtin; refine wpList_append_run rfl (.tmp 27) (.tmp 31) 51 _ rfl g6 ?_))
  refine bodyPost_ret ?_ rfl ⟨.slice a6 2 d6, rfl, HR6.out.1.mono HS.out.1, HB6.out⟩
  simp [results, Tryd.results31, go_sem]
set_option maxRecDepth 100000 in
set_option maxHeartbeats 2000000 in
theorem rCopy_3f (e : Bool) (a p : Int) (c : ByteArray) (w : World) (q1 : okB e a p = true) (q3 : keptB false c = true) (q2 : caB e a = false) : Calls Tryd.prog 31 #[.agg #[.bool e, .int .i64 a, .int .i64 p], .agg #[.bool false, .string c]] w (CopyQ ⟨false, nT, [], 0⟩ w) := by
  have c1 : ∀ w, Calls Tryd.prog 45 #[.agg #[.bool e, .int .i64 a, .int .i64 p]] w fun r w' => r = .returned (.bool true) ∧ Below w.heap.size w w' := fun w => by have := rRight_any e a p w; rw [q1] at this; exact this
  have c2 : ∀ w, Calls Tryd.prog 58 #[.agg #[.bool false, .string c]] w fun r w' => r = .returned (.bool true) ∧ Below w.heap.size w w' := fun w => by have := rKept_any false c w; rw [q3] at this; exact this
  have c3 : ∀ w, Calls Tryd.prog 48 #[.agg #[.bool e, .int .i64 a, .int .i64 p], .string ⟨#[67, 65]⟩] w fun r w' => r = .returned (.bool false) ∧ Below w.heap.size w w' := fun w => by have := rSent_1 e a p w; rw [q2] at this; exact this
  go_enter Tryd.func31, Tryd.ntmps31
  go_wp2_with fail
  refine (c1 _).mono ?_
  rintro _ w1 ⟨rfl, b1⟩
  have HB1 : Hid (Below w.heap.size w w1) := below_then (((Below.refl _ _).alloc (by first | omega | (simp; done) | (simp; omega)) _).alloc (by first | omega | (simp; done) | (simp; omega)) _) b1
  have X1_0 : Hid (Box w1 w.heap.size #[.bool e, .int .i64 a, .int .i64 p]) := ((Box.new' _ #[.bool e, .int .i64 a, .int .i64 p] 23 w.heap.size (by simp)).alloc _).below b1
  have X1_1 : Hid (Box w1 (w.heap.size + 1) #[.bool false, .string c]) := (Box.new' _ #[.bool false, .string c] 59 (w.heap.size + 1) (by simp)).below b1
  clear b1 c1
  obtain ⟨l1_0, k1_0, f1_0⟩ := X1_0.out
  obtain ⟨l1_1, k1_1, f1_1⟩ := X1_1.out
  go_wp2_with fail
  refine (c2 _).mono ?_
  rintro _ w2 ⟨rfl, b2⟩
  have HB2 : Hid (Below w.heap.size w w2) := below_then HB1.out b2
  have X2_0 : Hid (Box w2 w.heap.size #[.bool e, .int .i64 a, .int .i64 p]) := X1_0.out.below b2
  have X2_1 : Hid (Box w2 (w.heap.size + 1) #[.bool false, .string c]) := X1_1.out.below b2
  clear k1_0 l1_0 f1_0 X1_0 k1_1 l1_1 f1_1 X1_1 HB1
  clear b2 c2
  obtain ⟨l2_0, k2_0, f2_0⟩ := X2_0.out
  obtain ⟨l2_1, k2_1, f2_1⟩ := X2_1.out
  go_wp2_with fail
  refine (c3 _).mono ?_
  rintro _ w3 ⟨rfl, b3⟩
  have HB3 : Hid (Below w.heap.size w w3) := below_then HB2.out b3
  have X3_0 : Hid (Box w3 w.heap.size #[.bool e, .int .i64 a, .int .i64 p]) := X2_0.out.below b3
  have X3_1 : Hid (Box w3 (w.heap.size + 1) #[.bool false, .string c]) := X2_1.out.below b3
  clear k2_0 l2_0 f2_0 X2_0 k2_1 l2_1 f2_1 X2_1 HB2
  clear b3 c3
  obtain ⟨l3_0, k3_0, f3_0⟩ := X3_0.out
  obtain ⟨l3_1, k3_1, f3_1⟩ := X3_1.out
  go_wp2_with fail
  refine bodyPost_ret ?_ rfl ⟨.slice none 0 0, rfl, ActRow.nil _ _, HB3.out⟩
  simp [results, Tryd.results31, go_sem]
set_option maxRecDepth 100000 in
set_option maxHeartbeats 2000000 in
theorem rCopy_4f (e : Bool) (a p : Int) (c : ByteArray) (w : World) (q1 : okB e a p = true) (q3 : keptB true c = true) (q2 : caB e a = false) (q5 : sentB e a p c = false) : Calls Tryd.prog 31 #[.agg #[.bool e, .int .i64 a, .int .i64 p], .agg #[.bool true, .string c]] w (CopyQ ⟨false, nT, [], 0⟩ w) := by
  have c1 : ∀ w, Calls Tryd.prog 45 #[.agg #[.bool e, .int .i64 a, .int .i64 p]] w fun r w' => r = .returned (.bool true) ∧ Below w.heap.size w w' := fun w => by have := rRight_any e a p w; rw [q1] at this; exact this
  have c2 : ∀ w, Calls Tryd.prog 58 #[.agg #[.bool true, .string c]] w fun r w' => r = .returned (.bool true) ∧ Below w.heap.size w w' := fun w => by have := rKept_any true c w; rw [q3] at this; exact this
  have c3 : ∀ w, Calls Tryd.prog 48 #[.agg #[.bool e, .int .i64 a, .int .i64 p], .string ⟨#[67, 65]⟩] w fun r w' => r = .returned (.bool false) ∧ Below w.heap.size w w' := fun w => by have := rSent_1 e a p w; rw [q2] at this; exact this
  have c4 : ∀ w, Calls Tryd.prog 48 #[.agg #[.bool e, .int .i64 a, .int .i64 p], .string c] w fun r w' => r = .returned (.bool false) ∧ Below w.heap.size w w' := fun w => by have := rSent_any e a p c w; rw [q5] at this; exact this
  go_enter Tryd.func31, Tryd.ntmps31
  go_wp2_with fail
  refine (c1 _).mono ?_
  rintro _ w1 ⟨rfl, b1⟩
  have HB1 : Hid (Below w.heap.size w w1) := below_then (((Below.refl _ _).alloc (by first | omega | (simp; done) | (simp; omega)) _).alloc (by first | omega | (simp; done) | (simp; omega)) _) b1
  have X1_0 : Hid (Box w1 w.heap.size #[.bool e, .int .i64 a, .int .i64 p]) := ((Box.new' _ #[.bool e, .int .i64 a, .int .i64 p] 23 w.heap.size (by simp)).alloc _).below b1
  have X1_1 : Hid (Box w1 (w.heap.size + 1) #[.bool true, .string c]) := (Box.new' _ #[.bool true, .string c] 59 (w.heap.size + 1) (by simp)).below b1
  clear b1 c1
  obtain ⟨l1_0, k1_0, f1_0⟩ := X1_0.out
  obtain ⟨l1_1, k1_1, f1_1⟩ := X1_1.out
  go_wp2_with fail
  refine (c2 _).mono ?_
  rintro _ w2 ⟨rfl, b2⟩
  have HB2 : Hid (Below w.heap.size w w2) := below_then HB1.out b2
  have X2_0 : Hid (Box w2 w.heap.size #[.bool e, .int .i64 a, .int .i64 p]) := X1_0.out.below b2
  have X2_1 : Hid (Box w2 (w.heap.size + 1) #[.bool true, .string c]) := X1_1.out.below b2
  clear k1_0 l1_0 f1_0 X1_0 k1_1 l1_1 f1_1 X1_1 HB1
  clear b2 c2
  obtain ⟨l2_0, k2_0, f2_0⟩ := X2_0.out
  obtain ⟨l2_1, k2_1, f2_1⟩ := X2_1.out
  go_wp2_with fail
  refine (c3 _).mono ?_
  rintro _ w3 ⟨rfl, b3⟩
  have HB3 : Hid (Below w.heap.size w w3) := below_then HB2.out b3
  have X3_0 : Hid (Box w3 w.heap.size #[.bool e, .int .i64 a, .int .i64 p]) := X2_0.out.below b3
  have X3_1 : Hid (Box w3 (w.heap.size + 1) #[.bool true, .string c]) := X2_1.out.below b3
  clear k2_0 l2_0 f2_0 X2_0 k2_1 l2_1 f2_1 X2_1 HB2
  clear b3 c3
  obtain ⟨l3_0, k3_0, f3_0⟩ := X3_0.out
  obtain ⟨l3_1, k3_1, f3_1⟩ := X3_1.out
  go_wp2_with fail
  refine (c4 _).mono ?_
  rintro _ w4 ⟨rfl, b4⟩
  have HB4 : Hid (Below w.heap.size w w4) := below_then HB3.out b4
  have X4_0 : Hid (Box w4 w.heap.size #[.bool e, .int .i64 a, .int .i64 p]) := X3_0.out.below b4
  have X4_1 : Hid (Box w4 (w.heap.size + 1) #[.bool true, .string c]) := X3_1.out.below b4
  clear k3_0 l3_0 f3_0 X3_0 k3_1 l3_1 f3_1 X3_1 HB3
  clear b4 c4
  obtain ⟨l4_0, k4_0, f4_0⟩ := X4_0.out
  obtain ⟨l4_1, k4_1, f4_1⟩ := X4_1.out
  go_wp2_with fail
  refine bodyPost_ret ?_ rfl ⟨.slice none 0 0, rfl, ActRow.nil _ _, HB4.out⟩
  simp [results, Tryd.results31, go_sem]
set_option maxRecDepth 100000 in
set_option maxHeartbeats 2000000 in
theorem rCopy_5f (e : Bool) (a p : Int) (c : ByteArray) (w : World) (q1 : okB e a p = true) (q3 : keptB true c = true) (q2 : caB e a = false) (q5 : sentB e a p c = true) : Calls Tryd.prog 31 #[.agg #[.bool e, .int .i64 a, .int .i64 p], .agg #[.bool true, .string c]] w (CopyQ ⟨false, nT, [(9, c)], 0⟩ w) := by
  have c1 : ∀ w, Calls Tryd.prog 45 #[.agg #[.bool e, .int .i64 a, .int .i64 p]] w fun r w' => r = .returned (.bool true) ∧ Below w.heap.size w w' := fun w => by have := rRight_any e a p w; rw [q1] at this; exact this
  have c2 : ∀ w, Calls Tryd.prog 58 #[.agg #[.bool true, .string c]] w fun r w' => r = .returned (.bool true) ∧ Below w.heap.size w w' := fun w => by have := rKept_any true c w; rw [q3] at this; exact this
  have c3 : ∀ w, Calls Tryd.prog 48 #[.agg #[.bool e, .int .i64 a, .int .i64 p], .string ⟨#[67, 65]⟩] w fun r w' => r = .returned (.bool false) ∧ Below w.heap.size w w' := fun w => by have := rSent_1 e a p w; rw [q2] at this; exact this
  have c4 : ∀ w, Calls Tryd.prog 48 #[.agg #[.bool e, .int .i64 a, .int .i64 p], .string c] w fun r w' => r = .returned (.bool true) ∧ Below w.heap.size w w' := fun w => by have := rSent_any e a p c w; rw [q5] at this; exact this
  go_enter Tryd.func31, Tryd.ntmps31
  go_wp2_with fail
  refine (c1 _).mono ?_
  rintro _ w1 ⟨rfl, b1⟩
  have HB1 : Hid (Below w.heap.size w w1) := below_then (((Below.refl _ _).alloc (by first | omega | (simp; done) | (simp; omega)) _).alloc (by first | omega | (simp; done) | (simp; omega)) _) b1
  have X1_0 : Hid (Box w1 w.heap.size #[.bool e, .int .i64 a, .int .i64 p]) := ((Box.new' _ #[.bool e, .int .i64 a, .int .i64 p] 23 w.heap.size (by simp)).alloc _).below b1
  have X1_1 : Hid (Box w1 (w.heap.size + 1) #[.bool true, .string c]) := (Box.new' _ #[.bool true, .string c] 59 (w.heap.size + 1) (by simp)).below b1
  clear b1 c1
  obtain ⟨l1_0, k1_0, f1_0⟩ := X1_0.out
  obtain ⟨l1_1, k1_1, f1_1⟩ := X1_1.out
  go_wp2_with fail
  refine (c2 _).mono ?_
  rintro _ w2 ⟨rfl, b2⟩
  have HB2 : Hid (Below w.heap.size w w2) := below_then HB1.out b2
  have X2_0 : Hid (Box w2 w.heap.size #[.bool e, .int .i64 a, .int .i64 p]) := X1_0.out.below b2
  have X2_1 : Hid (Box w2 (w.heap.size + 1) #[.bool true, .string c]) := X1_1.out.below b2
  clear k1_0 l1_0 f1_0 X1_0 k1_1 l1_1 f1_1 X1_1 HB1
  clear b2 c2
  obtain ⟨l2_0, k2_0, f2_0⟩ := X2_0.out
  obtain ⟨l2_1, k2_1, f2_1⟩ := X2_1.out
  go_wp2_with fail
  refine (c3 _).mono ?_
  rintro _ w3 ⟨rfl, b3⟩
  have HB3 : Hid (Below w.heap.size w w3) := below_then HB2.out b3
  have X3_0 : Hid (Box w3 w.heap.size #[.bool e, .int .i64 a, .int .i64 p]) := X2_0.out.below b3
  have X3_1 : Hid (Box w3 (w.heap.size + 1) #[.bool true, .string c]) := X2_1.out.below b3
  clear k2_0 l2_0 f2_0 X2_0 k2_1 l2_1 f2_1 X2_1 HB2
  clear b3 c3
  obtain ⟨l3_0, k3_0, f3_0⟩ := X3_0.out
  obtain ⟨l3_1, k3_1, f3_1⟩ := X3_1.out
  go_wp2_with fail
  refine (c4 _).mono ?_
  rintro _ w4 ⟨rfl, b4⟩
  have HB4 : Hid (Below w.heap.size w w4) := below_then HB3.out b4
  have X4_0 : Hid (Box w4 w.heap.size #[.bool e, .int .i64 a, .int .i64 p]) := X3_0.out.below b4
  have X4_1 : Hid (Box w4 (w.heap.size + 1) #[.bool true, .string c]) := X3_1.out.below b4
  clear k3_0 l3_0 f3_0 X3_0 k3_1 l3_1 f3_1 X3_1 HB3
  clear b4 c4
  obtain ⟨l4_0, k4_0, f4_0⟩ := X4_0.out
  obtain ⟨l4_1, k4_1, f4_1⟩ := X4_1.out
  have HS : Hid (w.heap.size ≤ w4.heap.size ∧ w.heap.size < w4.heap.size ∧ (w.heap.size + 1) < w4.heap.size) := ⟨HB4.out.size, X4_0.out.lt, X4_1.out.lt⟩
  obtain ⟨a5, d5, w5, e5, r5, b5⟩ := run_apush (ActRow.nil w4 w4.heap.size) (Nat.le_refl _) (by simp) (9, c) #[.int .i64 9, .string c] rfl
  have g5 : (Builtin.append_ #[51, 51] 51 #[.slice none 0 0, .slice (some ⟨w4.heap.size, 0, none⟩) 1 1]).run Tryd.prog (w4.alloc (.cells #[.int .i64 9, .string c] 85)) = .ok (.slice a5 1 d5) w5 := e5
  have HR5 : Hid (ActRow w5 w4.heap.size (.slice a5 1 d5) [(9, c)] ∧ w4.heap.size ≤ w5.heap.size) := ⟨r5, by have h1 := b5.size; omega⟩
  have HB5 : Hid (Below w.heap.size w w5) := HB4.out.trans (b5.mono HS.out.1)
  have X5_0 : Hid (Box w5 w.heap.size #[.bool e, .int .i64 a, .int .i64 p]) := X4_0.out.belowB b5 HS.out.2.1 (Nat.le_refl _)
  have X5_1 : Hid (Box w5 (w.heap.size + 1) #[.bool true, .string c]) := X4_1.out.belowB b5 HS.out.2.2 (Nat.le_refl _)
  clear X4_0 X4_1 HB4 e5 r5 b5
  obtain ⟨l5_0, k5_0, f5_0⟩ := X5_0.out
  obtain ⟨l5_1, k5_1, f5_1⟩ := X5_1.out
  go_wp2_with (first | (at_builtin; refine wpList_append_run rfl (.tmp 27) (.tmp 31) 51 _ rfl g5 ?_))
  refine bodyPost_ret ?_ rfl ⟨.slice a5 1 d5, rfl, HR5.out.1.mono HS.out.1, HB5.out⟩
  simp [results, Tryd.results31, go_sem]
end Go.Proofs.YtjmjimbhoncidaaDoor
