/-
  The law StampBackToo, walked.
-/
import Derived.Test.YtpcdkafjogpdkaaDoorBk2
import Derived.Test.YtpcdkafjogpdkaaDoorAnchor
namespace Go.Proofs.YtpcdkafjogpdkaaDoor
open Go.RowKit

theorem text_len (L Y Mo D H Mi Sc P G : Nat) (z : Bool) (zn : Int) (hG : L = 7 → G ≤ 4) : (textL L Y Mo D H Mi Sc P G z zn).length ≤ 24 := by
  have := zoneL_len z zn
  unfold textL
  simp only [List.length_append, digs_length]
  by_cases l7 : L = 7
  · have := hG l7
    subst l7
    simp [digs_length]
    omega
  · rw [if_neg l7]
    have e : ∀ (c : Prop) [Decidable c] (n : Nat), (if c then digs 2 n else []).length ≤ 2 := fun c _ n => by split <;> simp [digs_length]
    have e1 := e (2 ≤ L) Mo; have e2 := e (3 ≤ L) D; have e3 := e (4 ≤ L) H; have e4 := e (5 ≤ L) Mi; have e5 := e (6 ≤ L) Sc
    simp only [List.length_nil]
    omega
theorem reads_right {lv y mo d h mi s p dg zn : Int} {z : Bool} {T : ByteArray} (hr : rightB lv y mo d h mi s p dg zn z = true) (ht : Txt T (textI lv y mo d h mi s p dg z zn)) : Reads T lv y mo d h mi s p dg z zn ∧ T.size ≤ 24 := by
  obtain ⟨L, Y, Mo, D, H, Mi, Sc, P, G, rfl, rfl, rfl, rfl, rfl, rfl, rfl, rfl, rfl, h1, h7, hY, hMo, hD, hH, hMi, hSc, hPG, hz⟩ := right_nat hr
  refine ⟨reads_text ht hr, ?_⟩
  rw [ht.size]
  exact text_len L Y Mo D H Mi Sc P G z zn (fun e => (hPG e).2.1)
set_option maxRecDepth 100000 in
set_option maxHeartbeats 1000000 in
theorem backtoo_no (lv y mo d h mi s p dg zn : Int) (z : Bool) (w : World) (hr : rightB lv y mo d h mi s p dg zn z = false) (hP : Pow w) (hM : Months w) : Calls Tryd.prog 5 #[.agg #[.int .i64 lv, .int .i64 y, .int .i64 mo, .int .i64 d, .int .i64 h, .int .i64 mi, .int .i64 s, .int .i64 p, .int .i64 dg, .bool z, .int .i64 zn]] w fun e w' => e = .returned (.bool true) ∧ Below w.heap.size w w' := by
  have HR : Hid (rightB lv y mo d h mi s p dg zn z = false) := hr
  clear hr
  obtain ⟨w0, hw0⟩ : ∃ w0, w.alloc (.cells #[.int .i64 lv, .int .i64 y, .int .i64 mo, .int .i64 d, .int .i64 h, .int .i64 mi, .int .i64 s, .int .i64 p, .int .i64 dg, .bool z, .int .i64 zn] 23) = w0 := ⟨_, rfl⟩
  have H0 : Hid (Below w.heap.size w w0 ∧ Pow w0 ∧ Months w0) := by
    have hb : Below w.heap.size w w0 := by rw [← hw0]; exact (Below.refl _ _).alloc (Nat.le_refl _) _
    exact ⟨hb, hP.below hb, months_below hM hb⟩
  have HC : Hid (∀ w1, Below w0.heap.size w0 w1 → ∀ j x, (#[.int .i64 lv, .int .i64 y, .int .i64 mo, .int .i64 d, .int .i64 h, .int .i64 mi, .int .i64 s, .int .i64 p, .int .i64 dg, .bool z, .int .i64 zn] : Array Value)[j]? = some x → w1.cell? ⟨w.heap.size, j, none⟩ = some x) := fun w1 hb j x hx => stamp_cells lv y mo d h mi s p dg zn z hw0 hb j x hx
  clear hP hM
  have q0 := HC.out w0 (Below.refl _ _) 0 _ rfl
  have q1 := HC.out w0 (Below.refl _ _) 1 _ rfl
  have q2 := HC.out w0 (Below.refl _ _) 2 _ rfl
  have q3 := HC.out w0 (Below.refl _ _) 3 _ rfl
  have q4 := HC.out w0 (Below.refl _ _) 4 _ rfl
  have q5 := HC.out w0 (Below.refl _ _) 5 _ rfl
  have q6 := HC.out w0 (Below.refl _ _) 6 _ rfl
  have q7 := HC.out w0 (Below.refl _ _) 7 _ rfl
  have q8 := HC.out w0 (Below.refl _ _) 8 _ rfl
  have q9 := HC.out w0 (Below.refl _ _) 9 _ rfl
  have q10 := HC.out w0 (Below.refl _ _) 10 _ rfl
  go_enter Tryd.func5, Tryd.ntmps5
  go_wp2_with fail
  refine (Print_no HR.out _ H0.out.2.2).mono ?_
  rintro e w1 ⟨b, rfl, _, hb⟩
  have HB1 : Hid (Below w0.heap.size w0 w1) := hb
  clear hb
  clear q0 q1 q2 q3 q4 q5 q6 q7 q8 q9 q10
  go_wp2_with fail
  refine (anchor_any _ (months_below H0.out.2.2 HB1.out) (H0.out.2.1.below HB1.out)).mono ?_
  rintro e wa ⟨rfl, hb⟩
  have HBa : Hid (Below w.heap.size w wa) := H0.out.1.trans ((below_then HB1.out hb).mono H0.out.1.size)
  clear hb
  go_wp2_with fail
  go_ret
  exact ⟨rfl, HBa.out⟩
set_option maxRecDepth 100000 in
set_option maxHeartbeats 1000000 in
theorem backtoo_ok (lv y mo d h mi s p dg zn : Int) (z : Bool) (w : World) (hr : rightB lv y mo d h mi s p dg zn z = true) (hP : Pow w) (hM : Months w) : Calls Tryd.prog 5 #[.agg #[.int .i64 lv, .int .i64 y, .int .i64 mo, .int .i64 d, .int .i64 h, .int .i64 mi, .int .i64 s, .int .i64 p, .int .i64 dg, .bool z, .int .i64 zn]] w fun e w' => e = .returned (.bool true) ∧ Below w.heap.size w w' := by
  have HR : Hid (rightB lv y mo d h mi s p dg zn z = true) := hr
  clear hr
  obtain ⟨w0, hw0⟩ : ∃ w0, w.alloc (.cells #[.int .i64 lv, .int .i64 y, .int .i64 mo, .int .i64 d, .int .i64 h, .int .i64 mi, .int .i64 s, .int .i64 p, .int .i64 dg, .bool z, .int .i64 zn] 23) = w0 := ⟨_, rfl⟩
  have H0 : Hid (Below w.heap.size w w0 ∧ Pow w0 ∧ Months w0) := by
    have hb : Below w.heap.size w w0 := by rw [← hw0]; exact (Below.refl _ _).alloc (Nat.le_refl _) _
    exact ⟨hb, hP.below hb, months_below hM hb⟩
  have HC : Hid (∀ w1, Below w0.heap.size w0 w1 → ∀ j x, (#[.int .i64 lv, .int .i64 y, .int .i64 mo, .int .i64 d, .int .i64 h, .int .i64 mi, .int .i64 s, .int .i64 p, .int .i64 dg, .bool z, .int .i64 zn] : Array Value)[j]? = some x → w1.cell? ⟨w.heap.size, j, none⟩ = some x) := fun w1 hb j x hx => stamp_cells lv y mo d h mi s p dg zn z hw0 hb j x hx
  clear hP hM
  have q0 := HC.out w0 (Below.refl _ _) 0 _ rfl
  have q1 := HC.out w0 (Below.refl _ _) 1 _ rfl
  have q2 := HC.out w0 (Below.refl _ _) 2 _ rfl
  have q3 := HC.out w0 (Below.refl _ _) 3 _ rfl
  have q4 := HC.out w0 (Below.refl _ _) 4 _ rfl
  have q5 := HC.out w0 (Below.refl _ _) 5 _ rfl
  have q6 := HC.out w0 (Below.refl _ _) 6 _ rfl
  have q7 := HC.out w0 (Below.refl _ _) 7 _ rfl
  have q8 := HC.out w0 (Below.refl _ _) 8 _ rfl
  have q9 := HC.out w0 (Below.refl _ _) 9 _ rfl
  have q10 := HC.out w0 (Below.refl _ _) 10 _ rfl
  go_enter Tryd.func5, Tryd.ntmps5
  go_wp2_with fail
  refine (Print_ok HR.out _ H0.out.2.2 H0.out.2.1).mono ?_
  rintro e w1 ⟨T, rfl, HT, hb⟩
  have HB1 : Hid (Below w0.heap.size w0 w1) := hb
  obtain ⟨hrd, hsz⟩ := reads_right HR.out HT.out
  have hsz2 : (T.size : Int) ≤ 24 := by omega
  obtain ⟨lv0, A, hd, A2, hc, A3, hz, he⟩ := hrd
  have HPb : Hid (Calls Tryd.prog 12 #[.string T] w1 fun e w' => e = .returned (.tuple #[.agg #[.int .i64 lv, .int .i64 y, .int .i64 mo, .int .i64 d, .int .i64 h, .int .i64 mi, .int .i64 s, .int .i64 p, .int .i64 dg, .bool z, .int .i64 zn], .nilIface]) ∧ Below w1.heap.size w1 w') := Parse_any T w1 (by unfold maxLen; omega) (months_below H0.out.2.2 HB1.out) hd hc hz he
  clear hb hd hc hz he
  clear q0 q1 q2 q3 q4 q5 q6 q7 q8 q9 q10
  go_wp2_with fail
  refine HPb.out.mono ?_
  rintro e w2 ⟨rfl, hb⟩
  have HB2 : Hid (Below w0.heap.size w0 (w2.alloc (.cells #[.int .i64 lv, .int .i64 y, .int .i64 mo, .int .i64 d, .int .i64 h, .int .i64 mi, .int .i64 s, .int .i64 p, .int .i64 dg, .bool z, .int .i64 zn] 23))) := (below_then HB1.out hb).alloc (below_then HB1.out hb).size _
  clear hb HPb
  have q0 := HC.out _ HB2.out 0 _ rfl
  have q1 := HC.out _ HB2.out 1 _ rfl
  have q2 := HC.out _ HB2.out 2 _ rfl
  have q3 := HC.out _ HB2.out 3 _ rfl
  have q4 := HC.out _ HB2.out 4 _ rfl
  have q5 := HC.out _ HB2.out 5 _ rfl
  have q6 := HC.out _ HB2.out 6 _ rfl
  have q7 := HC.out _ HB2.out 7 _ rfl
  have q8 := HC.out _ HB2.out 8 _ rfl
  have q9 := HC.out _ HB2.out 9 _ rfl
  have q10 := HC.out _ HB2.out 10 _ rfl
  go_wp2_with fail
  refine (anchor_any _ (months_below H0.out.2.2 HB2.out) (H0.out.2.1.below HB2.out)).mono ?_
  rintro e wa ⟨rfl, hb⟩
  have HBa : Hid (Below w.heap.size w wa) := H0.out.1.trans ((below_then HB2.out hb).mono H0.out.1.size)
  clear hb
  go_wp2_with fail
  go_ret
  exact ⟨rfl, HBa.out⟩
theorem backtoo_any (lv y mo d h mi s p dg zn : Int) (z : Bool) (w : World) (hP : Pow w) (hM : Months w) : Calls Tryd.prog 5 #[.agg #[.int .i64 lv, .int .i64 y, .int .i64 mo, .int .i64 d, .int .i64 h, .int .i64 mi, .int .i64 s, .int .i64 p, .int .i64 dg, .bool z, .int .i64 zn]] w fun e w' => e = .returned (.bool true) ∧ Below w.heap.size w w' := by
  cases hr : rightB lv y mo d h mi s p dg zn z with
  | false => exact backtoo_no lv y mo d h mi s p dg zn z w hr hP hM
  | true => exact backtoo_ok lv y mo d h mi s p dg zn z w hr hP hM
end Go.Proofs.YtpcdkafjogpdkaaDoor
