/-
  The law StampAgain, walked.
-/
import Derived.Test.YtpcdkafjogpdkaaDoorAnchor
import Derived.Test.YtpcdkafjogpdkaaDoorOf
namespace Go.Proofs.YtpcdkafjogpdkaaDoor
open Go.RowKit

set_option maxRecDepth 100000 in
set_option maxHeartbeats 1000000 in
theorem again_bad (lv y mo d h mi s p dg zn : Int) (z : Bool) (w : World) (hr : rightB lv y mo d h mi s p dg zn z = false) (hP : Pow w) (hM : Months w) : Calls Tryd.prog 6 #[.agg #[.int .i64 lv, .int .i64 y, .int .i64 mo, .int .i64 d, .int .i64 h, .int .i64 mi, .int .i64 s, .int .i64 p, .int .i64 dg, .bool z, .int .i64 zn]] w fun e w' => e = .returned (.bool true) ∧ Below w.heap.size w w' := by
  have HR : Hid (rightB lv y mo d h mi s p dg zn z = false) := hr
  clear hr
  obtain ⟨w0, hw0⟩ : ∃ w0, w.alloc (.cells #[.int .i64 lv, .int .i64 y, .int .i64 mo, .int .i64 d, .int .i64 h, .int .i64 mi, .int .i64 s, .int .i64 p, .int .i64 dg, .bool z, .int .i64 zn] 23) = w0 := ⟨_, rfl⟩
  have H0 : Hid (Below w.heap.size w w0 ∧ Pow w0 ∧ Months w0) := by
    have hb : Below w.heap.size w w0 := by rw [← hw0]; exact (Below.refl _ _).alloc (Nat.le_refl _) _
    exact ⟨hb, hP.below hb, months_below hM hb⟩
  have HC : Hid (∀ w1, Below w0.heap.size w0 w1 → ∀ j x, (#[.int .i64 lv, .int .i64 y, .int .i64 mo, .int .i64 d, .int .i64 h, .int .i64 mi, .int .i64 s, .int .i64 p, .int .i64 dg, .bool z, .int .i64 zn] : Array Value)[j]? = some x → w1.cell? ⟨w.heap.size, j, none⟩ = some x) := fun w1 hb j x hx => stamp_cells lv y mo d h mi s p dg zn z hw0 hb j x hx
  clear hP hM
  have q0 := HC.out w0 (Below.refl _ _) 0 _ rfl
  have q1 := HC.out w0 (Below.refl _ _) 1 _ rfl
  have q2 := HC.out w0 (Below.refl _ _) 2 _ rfl
  have q3 := HC.out w0 (Below.refl _ _) 3 _ rfl
  have q4 := HC.out w0 (Below.refl _ _) 4 _ rfl
  have q5 := HC.out w0 (Below.refl _ _) 5 _ rfl
  have q6 := HC.out w0 (Below.refl _ _) 6 _ rfl
  have q7 := HC.out w0 (Below.refl _ _) 7 _ rfl
  have q8 := HC.out w0 (Below.refl _ _) 8 _ rfl
  have q9 := HC.out w0 (Below.refl _ _) 9 _ rfl
  have q10 := HC.out w0 (Below.refl _ _) 10 _ rfl
  go_enter Tryd.func6, Tryd.ntmps6
  go_wp2_with fail
  refine (Instant_bad HR.out _ H0.out.2.2).mono ?_
  rintro e w1 ⟨⟨b, rfl, _⟩, hb⟩
  have HB1 : Hid (Below w0.heap.size w0 w1) := hb
  clear hb
  clear q0 q1 q2 q3 q4 q5 q6 q7 q8 q9 q10
  go_wp2_with fail
  refine (anchor_any _ (months_below H0.out.2.2 HB1.out) (H0.out.2.1.below HB1.out)).mono ?_
  rintro e wa ⟨rfl, hb⟩
  have HBa : Hid (Below w.heap.size w wa) := H0.out.1.trans ((below_then HB1.out hb).mono H0.out.1.size)
  clear hb
  go_wp2_with fail
  go_ret
  exact ⟨rfl, HBa.out⟩
set_option maxRecDepth 100000 in
set_option maxHeartbeats 1000000 in
theorem again_zoned (lv y mo d h mi s p dg zn : Int) (w : World) (hr : rightB lv y mo d h mi s p dg zn true = true) (hP : Pow w) (hM : Months w) : Calls Tryd.prog 6 #[.agg #[.int .i64 lv, .int .i64 y, .int .i64 mo, .int .i64 d, .int .i64 h, .int .i64 mi, .int .i64 s, .int .i64 p, .int .i64 dg, .bool true, .int .i64 zn]] w fun e w' => e = .returned (.bool true) ∧ Below w.heap.size w w' := by
  have HR : Hid (rightB lv y mo d h mi s p dg zn true = true) := hr
  clear hr
  obtain ⟨w0, hw0⟩ : ∃ w0, w.alloc (.cells #[.int .i64 lv, .int .i64 y, .int .i64 mo, .int .i64 d, .int .i64 h, .int .i64 mi, .int .i64 s, .int .i64 p, .int .i64 dg, .bool true, .int .i64 zn] 23) = w0 := ⟨_, rfl⟩
  have H0 : Hid (Below w.heap.size w w0 ∧ Pow w0 ∧ Months w0) := by
    have hb : Below w.heap.size w w0 := by rw [← hw0]; exact (Below.refl _ _).alloc (Nat.le_refl _) _
    exact ⟨hb, hP.below hb, months_below hM hb⟩
  have HC : Hid (∀ w1, Below w0.heap.size w0 w1 → ∀ j x, (#[.int .i64 lv, .int .i64 y, .int .i64 mo, .int .i64 d, .int .i64 h, .int .i64 mi, .int .i64 s, .int .i64 p, .int .i64 dg, .bool true, .int .i64 zn] : Array Value)[j]? = some x → w1.cell? ⟨w.heap.size, j, none⟩ = some x) := fun w1 hb j x hx => stamp_cells lv y mo d h mi s p dg zn true hw0 hb j x hx
  clear hP hM
  have q0 := HC.out w0 (Below.refl _ _) 0 _ rfl
  have q1 := HC.out w0 (Below.refl _ _) 1 _ rfl
  have q2 := HC.out w0 (Below.refl _ _) 2 _ rfl
  have q3 := HC.out w0 (Below.refl _ _) 3 _ rfl
  have q4 := HC.out w0 (Below.refl _ _) 4 _ rfl
  have q5 := HC.out w0 (Below.refl _ _) 5 _ rfl
  have q6 := HC.out w0 (Below.refl _ _) 6 _ rfl
  have q7 := HC.out w0 (Below.refl _ _) 7 _ rfl
  have q8 := HC.out w0 (Below.refl _ _) 8 _ rfl
  have q9 := HC.out w0 (Below.refl _ _) 9 _ rfl
  have q10 := HC.out w0 (Below.refl _ _) 10 _ rfl
  go_enter Tryd.func6, Tryd.ntmps6
  go_wp2_with fail
  refine (Instant_ok HR.out _ H0.out.2.2).mono ?_
  rintro e w1 ⟨rfl, hb⟩
  have HB1 : Hid (Below w0.heap.size w0 w1) := hb
  clear hb
  clear q0 q1 q2 q3 q4 q5 q6 q7 q8 q9 q10
  have q0 := HC.out w1 HB1.out 0 _ rfl
  have q1 := HC.out w1 HB1.out 1 _ rfl
  have q2 := HC.out w1 HB1.out 2 _ rfl
  have q3 := HC.out w1 HB1.out 3 _ rfl
  have q4 := HC.out w1 HB1.out 4 _ rfl
  have q5 := HC.out w1 HB1.out 5 _ rfl
  have q6 := HC.out w1 HB1.out 6 _ rfl
  have q7 := HC.out w1 HB1.out 7 _ rfl
  have q8 := HC.out w1 HB1.out 8 _ rfl
  have q9 := HC.out w1 HB1.out 9 _ rfl
  have q10 := HC.out w1 HB1.out 10 _ rfl
  go_wp2_with fail
  refine (anchor_any _ (months_below H0.out.2.2 HB1.out) (H0.out.2.1.below HB1.out)).mono ?_
  rintro e wa ⟨rfl, hb⟩
  have HBa : Hid (Below w.heap.size w wa) := H0.out.1.trans ((below_then HB1.out hb).mono H0.out.1.size)
  clear hb
  go_wp2_with fail
  go_ret
  exact ⟨rfl, HBa.out⟩
set_option maxRecDepth 100000 in
set_option maxHeartbeats 1000000 in
theorem again_low (lv y mo d h mi s p dg zn : Int) (w : World) (hr : rightB lv y mo d h mi s p dg zn false = true) (hl : lv < 6) (hP : Pow w) (hM : Months w) : Calls Tryd.prog 6 #[.agg #[.int .i64 lv, .int .i64 y, .int .i64 mo, .int .i64 d, .int .i64 h, .int .i64 mi, .int .i64 s, .int .i64 p, .int .i64 dg, .bool false, .int .i64 zn]] w fun e w' => e = .returned (.bool true) ∧ Below w.heap.size w w' := by
  have HR : Hid (rightB lv y mo d h mi s p dg zn false = true) := hr
  clear hr
  obtain ⟨w0, hw0⟩ : ∃ w0, w.alloc (.cells #[.int .i64 lv, .int .i64 y, .int .i64 mo, .int .i64 d, .int .i64 h, .int .i64 mi, .int .i64 s, .int .i64 p, .int .i64 dg, .bool false, .int .i64 zn] 23) = w0 := ⟨_, rfl⟩
  have H0 : Hid (Below w.heap.size w w0 ∧ Pow w0 ∧ Months w0) := by
    have hb : Below w.heap.size w w0 := by rw [← hw0]; exact (Below.refl _ _).alloc (Nat.le_refl _) _
    exact ⟨hb, hP.below hb, months_below hM hb⟩
  have HC : Hid (∀ w1, Below w0.heap.size w0 w1 → ∀ j x, (#[.int .i64 lv, .int .i64 y, .int .i64 mo, .int .i64 d, .int .i64 h, .int .i64 mi, .int .i64 s, .int .i64 p, .int .i64 dg, .bool false, .int .i64 zn] : Array Value)[j]? = some x → w1.cell? ⟨w.heap.size, j, none⟩ = some x) := fun w1 hb j x hx => stamp_cells lv y mo d h mi s p dg zn false hw0 hb j x hx
  clear hP hM
  have q0 := HC.out w0 (Below.refl _ _) 0 _ rfl
  have q1 := HC.out w0 (Below.refl _ _) 1 _ rfl
  have q2 := HC.out w0 (Below.refl _ _) 2 _ rfl
  have q3 := HC.out w0 (Below.refl _ _) 3 _ rfl
  have q4 := HC.out w0 (Below.refl _ _) 4 _ rfl
  have q5 := HC.out w0 (Below.refl _ _) 5 _ rfl
  have q6 := HC.out w0 (Below.refl _ _) 6 _ rfl
  have q7 := HC.out w0 (Below.refl _ _) 7 _ rfl
  have q8 := HC.out w0 (Below.refl _ _) 8 _ rfl
  have q9 := HC.out w0 (Below.refl _ _) 9 _ rfl
  have q10 := HC.out w0 (Below.refl _ _) 10 _ rfl
  go_enter Tryd.func6, Tryd.ntmps6
  go_wp2_with fail
  refine (Instant_ok HR.out _ H0.out.2.2).mono ?_
  rintro e w1 ⟨rfl, hb⟩
  have HB1 : Hid (Below w0.heap.size w0 w1) := hb
  clear hb
  clear q0 q1 q2 q3 q4 q5 q6 q7 q8 q9 q10
  have q0 := HC.out w1 HB1.out 0 _ rfl
  have q1 := HC.out w1 HB1.out 1 _ rfl
  have q2 := HC.out w1 HB1.out 2 _ rfl
  have q3 := HC.out w1 HB1.out 3 _ rfl
  have q4 := HC.out w1 HB1.out 4 _ rfl
  have q5 := HC.out w1 HB1.out 5 _ rfl
  have q6 := HC.out w1 HB1.out 6 _ rfl
  have q7 := HC.out w1 HB1.out 7 _ rfl
  have q8 := HC.out w1 HB1.out 8 _ rfl
  have q9 := HC.out w1 HB1.out 9 _ rfl
  have q10 := HC.out w1 HB1.out 10 _ rfl
  go_wp2_with fail
  refine (anchor_any _ (months_below H0.out.2.2 HB1.out) (H0.out.2.1.below HB1.out)).mono ?_
  rintro e wa ⟨rfl, hb⟩
  have HBa : Hid (Below w.heap.size w wa) := H0.out.1.trans ((below_then HB1.out hb).mono H0.out.1.size)
  clear hb
  go_wp2_with fail
  go_ret
  exact ⟨rfl, HBa.out⟩
set_option maxRecDepth 100000 in
set_option maxHeartbeats 1000000 in
theorem again_digits (lv y mo d h mi s p dg zn : Int) (w : World) (hr : rightB lv y mo d h mi s p dg zn false = true) (hl : lv = 7) (hg : ¬ dg = 4) (hP : Pow w) (hM : Months w) : Calls Tryd.prog 6 #[.agg #[.int .i64 lv, .int .i64 y, .int .i64 mo, .int .i64 d, .int .i64 h, .int .i64 mi, .int .i64 s, .int .i64 p, .int .i64 dg, .bool false, .int .i64 zn]] w fun e w' => e = .returned (.bool true) ∧ Below w.heap.size w w' := by
  subst hl
  have hg2 : (dg == 4) = false := by simp; exact hg
  have hg3 : (dg != 4) = true := by simp; exact hg
  have HR : Hid (rightB 7 y mo d h mi s p dg zn false = true) := hr
  clear hr
  obtain ⟨w0, hw0⟩ : ∃ w0, w.alloc (.cells #[.int .i64 7, .int .i64 y, .int .i64 mo, .int .i64 d, .int .i64 h, .int .i64 mi, .int .i64 s, .int .i64 p, .int .i64 dg, .bool false, .int .i64 zn] 23) = w0 := ⟨_, rfl⟩
  have H0 : Hid (Below w.heap.size w w0 ∧ Pow w0 ∧ Months w0) := by
    have hb : Below w.heap.size w w0 := by rw [← hw0]; exact (Below.refl _ _).alloc (Nat.le_refl _) _
    exact ⟨hb, hP.below hb, months_below hM hb⟩
  have HC : Hid (∀ w1, Below w0.heap.size w0 w1 → ∀ j x, (#[.int .i64 7, .int .i64 y, .int .i64 mo, .int .i64 d, .int .i64 h, .int .i64 mi, .int .i64 s, .int .i64 p, .int .i64 dg, .bool false, .int .i64 zn] : Array Value)[j]? = some x → w1.cell? ⟨w.heap.size, j, none⟩ = some x) := fun w1 hb j x hx => stamp_cells 7 y mo d h mi s p dg zn false hw0 hb j x hx
  clear hP hM
  have q0 := HC.out w0 (Below.refl _ _) 0 _ rfl
  have q1 := HC.out w0 (Below.refl _ _) 1 _ rfl
  have q2 := HC.out w0 (Below.refl _ _) 2 _ rfl
  have q3 := HC.out w0 (Below.refl _ _) 3 _ rfl
  have q4 := HC.out w0 (Below.refl _ _) 4 _ rfl
  have q5 := HC.out w0 (Below.refl _ _) 5 _ rfl
  have q6 := HC.out w0 (Below.refl _ _) 6 _ rfl
  have q7 := HC.out w0 (Below.refl _ _) 7 _ rfl
  have q8 := HC.out w0 (Below.refl _ _) 8 _ rfl
  have q9 := HC.out w0 (Below.refl _ _) 9 _ rfl
  have q10 := HC.out w0 (Below.refl _ _) 10 _ rfl
  go_enter Tryd.func6, Tryd.ntmps6
  go_wp2_with fail
  refine (Instant_ok HR.out _ H0.out.2.2).mono ?_
  rintro e w1 ⟨rfl, hb⟩
  have HB1 : Hid (Below w0.heap.size w0 w1) := hb
  clear hb
  clear q0 q1 q2 q3 q4 q5 q6 q7 q8 q9 q10
  have q0 := HC.out w1 HB1.out 0 _ rfl
  have q1 := HC.out w1 HB1.out 1 _ rfl
  have q2 := HC.out w1 HB1.out 2 _ rfl
  have q3 := HC.out w1 HB1.out 3 _ rfl
  have q4 := HC.out w1 HB1.out 4 _ rfl
  have q5 := HC.out w1 HB1.out 5 _ rfl
  have q6 := HC.out w1 HB1.out 6 _ rfl
  have q7 := HC.out w1 HB1.out 7 _ rfl
  have q8 := HC.out w1 HB1.out 8 _ rfl
  have q9 := HC.out w1 HB1.out 9 _ rfl
  have q10 := HC.out w1 HB1.out 10 _ rfl
  go_wp2_with fail
  refine (anchor_any _ (months_below H0.out.2.2 HB1.out) (H0.out.2.1.below HB1.out)).mono ?_
  rintro e wa ⟨rfl, hb⟩
  have HBa : Hid (Below w.heap.size w wa) := H0.out.1.trans ((below_then HB1.out hb).mono H0.out.1.size)
  clear hb
  go_wp2_with fail
  go_ret
  exact ⟨rfl, HBa.out⟩
theorem again_num6 {y mo d h mi s t : Int} (F : Facts 6 y mo d h mi s 0 0 0 false) (ht : instI 6 y mo d h mi s 0 0 0 = t) : 0 ≤ t ∧ t ≤ 3155378975999999 ∧ (∀ Y M D, vldB Y M D = true → num Y M D = t / 864000000 → ofV 6 t Y M D = .agg #[.int .i64 6, .int .i64 y, .int .i64 mo, .int .i64 d, .int .i64 h, .int .i64 mi, .int .i64 s, .int .i64 0, .int .i64 0, .bool false, .int .i64 0]) := by
  have hm1 := F.mo1 (by decide)
  have hd1 := F.d1 (by decide)
  have hv := F.v
  rw [show max mo 1 = mo by omega, show max d 1 = d by omega] at hv
  have hn := num_lim hv
  have e : t = num y mo d * 864000000 + h * 36000000 + mi * 600000 + s * 10000 := by
    rw [← ht]; unfold instI; rw [show max mo 1 = mo by omega, show max d 1 = d by omega]; simp
  have a1 := F.h0; have a2 := F.h2; have a3 := F.mi0; have a4 := F.mi2; have a5 := F.s0; have a6 := F.s2
  refine ⟨by omega, by omega, fun Y M D hv' hn' => ?_⟩
  obtain ⟨rfl, rfl, rfl⟩ := num_inj hv' hv (by omega)
  rw [ofV6]
  unfold hourOf minuteOf secondOf
  rw [show t % 864000000 / 36000000 = h by omega, show t % 36000000 / 600000 = mi by omega, show t % 600000 / 10000 = s by omega]
set_option maxRecDepth 100000 in
set_option maxHeartbeats 1000000 in
theorem again_ok6 (y mo d h mi s : Int) (w : World) (hr : rightB 6 y mo d h mi s 0 0 0 false = true) (hP : Pow w) (hM : Months w) : Calls Tryd.prog 6 #[.agg #[.int .i64 6, .int .i64 y, .int .i64 mo, .int .i64 d, .int .i64 h, .int .i64 mi, .int .i64 s, .int .i64 0, .int .i64 0, .bool false, .int .i64 0]] w fun e w' => e = .returned (.bool true) ∧ Below w.heap.size w w' := by
  have HR : Hid (rightB 6 y mo d h mi s 0 0 0 false = true) := hr
  have HF : Hid (Facts 6 y mo d h mi s 0 0 0 false) := facts_of hr
  clear hr
  obtain ⟨t, ht⟩ : ∃ t, instI 6 y mo d h mi s 0 0 0 = t := ⟨_, rfl⟩
  have HT : Hid (0 ≤ t ∧ t ≤ 3155378975999999 ∧ (∀ Y M D, vldB Y M D = true → num Y M D = t / 864000000 → ofV 6 t Y M D = .agg #[.int .i64 6, .int .i64 y, .int .i64 mo, .int .i64 d, .int .i64 h, .int .i64 mi, .int .i64 s, .int .i64 0, .int .i64 0, .bool false, .int .i64 0])) := again_num6 HF.out ht
  obtain ⟨w0, hw0⟩ : ∃ w0, w.alloc (.cells #[.int .i64 6, .int .i64 y, .int .i64 mo, .int .i64 d, .int .i64 h, .int .i64 mi, .int .i64 s, .int .i64 0, .int .i64 0, .bool false, .int .i64 0] 23) = w0 := ⟨_, rfl⟩
  have H0 : Hid (Below w.heap.size w w0 ∧ Pow w0 ∧ Months w0) := by
    have hb : Below w.heap.size w w0 := by rw [← hw0]; exact (Below.refl _ _).alloc (Nat.le_refl _) _
    exact ⟨hb, hP.below hb, months_below hM hb⟩
  have HC : Hid (∀ w1, Below w0.heap.size w0 w1 → ∀ j x, (#[.int .i64 6, .int .i64 y, .int .i64 mo, .int .i64 d, .int .i64 h, .int .i64 mi, .int .i64 s, .int .i64 0, .int .i64 0, .bool false, .int .i64 0] : Array Value)[j]? = some x → w1.cell? ⟨w.heap.size, j, none⟩ = some x) := fun w1 hb j x hx => stamp_cells 6 y mo d h mi s 0 0 0 false hw0 hb j x hx
  clear hP hM
  have q0 := HC.out w0 (Below.refl _ _) 0 _ rfl
  have q1 := HC.out w0 (Below.refl _ _) 1 _ rfl
  have q2 := HC.out w0 (Below.refl _ _) 2 _ rfl
  have q3 := HC.out w0 (Below.refl _ _) 3 _ rfl
  have q4 := HC.out w0 (Below.refl _ _) 4 _ rfl
  have q5 := HC.out w0 (Below.refl _ _) 5 _ rfl
  have q6 := HC.out w0 (Below.refl _ _) 6 _ rfl
  have q7 := HC.out w0 (Below.refl _ _) 7 _ rfl
  have q8 := HC.out w0 (Below.refl _ _) 8 _ rfl
  have q9 := HC.out w0 (Below.refl _ _) 9 _ rfl
  have q10 := HC.out w0 (Below.refl _ _) 10 _ rfl
  go_enter Tryd.func6, Tryd.ntmps6
  go_wp2_with fail
  refine (Instant_ok HR.out _ H0.out.2.2).mono ?_
  rintro e w1 ⟨he, hb⟩
  rw [ht] at he
  subst he
  have HB1 : Hid (Below w0.heap.size w0 w1) := hb
  clear hb ht
  clear q0 q1 q2 q3 q4 q5 q6 q7 q8 q9 q10
  have q0 := HC.out w1 HB1.out 0 _ rfl
  have q1 := HC.out w1 HB1.out 1 _ rfl
  have q2 := HC.out w1 HB1.out 2 _ rfl
  have q3 := HC.out w1 HB1.out 3 _ rfl
  have q4 := HC.out w1 HB1.out 4 _ rfl
  have q5 := HC.out w1 HB1.out 5 _ rfl
  have q6 := HC.out w1 HB1.out 6 _ rfl
  have q7 := HC.out w1 HB1.out 7 _ rfl
  have q8 := HC.out w1 HB1.out 8 _ rfl
  have q9 := HC.out w1 HB1.out 9 _ rfl
  have q10 := HC.out w1 HB1.out 10 _ rfl
  go_wp2_with fail
  refine (of_ok t 6 _ (months_below H0.out.2.2 HB1.out) HT.out.1 HT.out.2.1 (by decide)).mono ?_
  rintro e w2 ⟨⟨Y, M, D, he, hv, hn⟩, hb⟩
  rw [HT.out.2.2 Y M D hv hn] at he
  subst he
  have HB2 : Hid (Below w0.heap.size w0 w2) := below_then HB1.out hb
  clear hb hv hn
  clear q0 q1 q2 q3 q4 q5 q6 q7 q8 q9 q10
  have HA2 : Hid (Below w0.heap.size w0 (w2.alloc (.cells #[.int .i64 6, .int .i64 y, .int .i64 mo, .int .i64 d, .int .i64 h, .int .i64 mi, .int .i64 s, .int .i64 0, .int .i64 0, .bool false, .int .i64 0] 23))) := HB2.out.alloc HB2.out.size _
  have q0 := HC.out _ HA2.out 0 _ rfl
  have q1 := HC.out _ HA2.out 1 _ rfl
  have q2 := HC.out _ HA2.out 2 _ rfl
  have q3 := HC.out _ HA2.out 3 _ rfl
  have q4 := HC.out _ HA2.out 4 _ rfl
  have q5 := HC.out _ HA2.out 5 _ rfl
  have q6 := HC.out _ HA2.out 6 _ rfl
  have q7 := HC.out _ HA2.out 7 _ rfl
  have q8 := HC.out _ HA2.out 8 _ rfl
  have q9 := HC.out _ HA2.out 9 _ rfl
  have q10 := HC.out _ HA2.out 10 _ rfl
  go_wp2_with fail
  refine (anchor_any _ (months_below H0.out.2.2 HA2.out) (H0.out.2.1.below HA2.out)).mono ?_
  rintro e wa ⟨rfl, hb⟩
  have HBa : Hid (Below w.heap.size w wa) := H0.out.1.trans ((below_then HA2.out hb).mono H0.out.1.size)
  clear hb
  go_wp2_with fail
  go_ret
  exact ⟨rfl, HBa.out⟩
theorem again_num7 {y mo d h mi s p t : Int} (F : Facts 7 y mo d h mi s p 4 0 false) (ht : instI 7 y mo d h mi s p 4 0 = t) : 0 ≤ t ∧ t ≤ 3155378975999999 ∧ (∀ Y M D, vldB Y M D = true → num Y M D = t / 864000000 → ofV 7 t Y M D = .agg #[.int .i64 7, .int .i64 y, .int .i64 mo, .int .i64 d, .int .i64 h, .int .i64 mi, .int .i64 s, .int .i64 p, .int .i64 4, .bool false, .int .i64 0]) := by
  have hm1 := F.mo1 (by decide)
  have hd1 := F.d1 (by decide)
  have hv := F.v
  rw [show max mo 1 = mo by omega, show max d 1 = d by omega] at hv
  have hn := num_lim hv
  have e : t = num y mo d * 864000000 + h * 36000000 + mi * 600000 + s * 10000 + p := by
    rw [← ht]; unfold instI; rw [show max mo 1 = mo by omega, show max d 1 = d by omega, if_pos rfl, show (4 : Int) - 4 = 0 from rfl, tens_at.1]; omega
  have a1 := F.h0; have a2 := F.h2; have a3 := F.mi0; have a4 := F.mi2; have a5 := F.s0; have a6 := F.s2; have a7 := F.p0; have a8 := F.p2
  rw [tens_at.2.2.2.2] at a8
  refine ⟨by omega, by omega, fun Y M D hv' hn' => ?_⟩
  obtain ⟨rfl, rfl, rfl⟩ := num_inj hv' hv (by omega)
  rw [ofV7]
  unfold hourOf minuteOf secondOf partOf
  rw [show t % 864000000 / 36000000 = h by omega, show t % 36000000 / 600000 = mi by omega, show t % 600000 / 10000 = s by omega, show t % 10000 = p by omega]
set_option maxRecDepth 100000 in
set_option maxHeartbeats 1000000 in
theorem again_ok7 (y mo d h mi s p : Int) (w : World) (hr : rightB 7 y mo d h mi s p 4 0 false = true) (hP : Pow w) (hM : Months w) : Calls Tryd.prog 6 #[.agg #[.int .i64 7, .int .i64 y, .int .i64 mo, .int .i64 d, .int .i64 h, .int .i64 mi, .int .i64 s, .int .i64 p, .int .i64 4, .bool false, .int .i64 0]] w fun e w' => e = .returned (.bool true) ∧ Below w.heap.size w w' := by
  have HR : Hid (rightB 7 y mo d h mi s p 4 0 false = true) := hr
  have HF : Hid (Facts 7 y mo d h mi s p 4 0 false) := facts_of hr
  clear hr
  obtain ⟨t, ht⟩ : ∃ t, instI 7 y mo d h mi s p 4 0 = t := ⟨_, rfl⟩
  have HT : Hid (0 ≤ t ∧ t ≤ 3155378975999999 ∧ (∀ Y M D, vldB Y M D = true → num Y M D = t / 864000000 → ofV 7 t Y M D = .agg #[.int .i64 7, .int .i64 y, .int .i64 mo, .int .i64 d, .int .i64 h, .int .i64 mi, .int .i64 s, .int .i64 p, .int .i64 4, .bool false, .int .i64 0])) := again_num7 HF.out ht
  obtain ⟨w0, hw0⟩ : ∃ w0, w.alloc (.cells #[.int .i64 7, .int .i64 y, .int .i64 mo, .int .i64 d, .int .i64 h, .int .i64 mi, .int .i64 s, .int .i64 p, .int .i64 4, .bool false, .int .i64 0] 23) = w0 := ⟨_, rfl⟩
  have H0 : Hid (Below w.heap.size w w0 ∧ Pow w0 ∧ Months w0) := by
    have hb : Below w.heap.size w w0 := by rw [← hw0]; exact (Below.refl _ _).alloc (Nat.le_refl _) _
    exact ⟨hb, hP.below hb, months_below hM hb⟩
  have HC : Hid (∀ w1, Below w0.heap.size w0 w1 → ∀ j x, (#[.int .i64 7, .int .i64 y, .int .i64 mo, .int .i64 d, .int .i64 h, .int .i64 mi, .int .i64 s, .int .i64 p, .int .i64 4, .bool false, .int .i64 0] : Array Value)[j]? = some x → w1.cell? ⟨w.heap.size, j, none⟩ = some x) := fun w1 hb j x hx => stamp_cells 7 y mo d h mi s p 4 0 false hw0 hb j x hx
  clear hP hM
  have q0 := HC.out w0 (Below.refl _ _) 0 _ rfl
  have q1 := HC.out w0 (Below.refl _ _) 1 _ rfl
  have q2 := HC.out w0 (Below.refl _ _) 2 _ rfl
  have q3 := HC.out w0 (Below.refl _ _) 3 _ rfl
  have q4 := HC.out w0 (Below.refl _ _) 4 _ rfl
  have q5 := HC.out w0 (Below.refl _ _) 5 _ rfl
  have q6 := HC.out w0 (Below.refl _ _) 6 _ rfl
  have q7 := HC.out w0 (Below.refl _ _) 7 _ rfl
  have q8 := HC.out w0 (Below.refl _ _) 8 _ rfl
  have q9 := HC.out w0 (Below.refl _ _) 9 _ rfl
  have q10 := HC.out w0 (Below.refl _ _) 10 _ rfl
  go_enter Tryd.func6, Tryd.ntmps6
  go_wp2_with fail
  refine (Instant_ok HR.out _ H0.out.2.2).mono ?_
  rintro e w1 ⟨he, hb⟩
  rw [ht] at he
  subst he
  have HB1 : Hid (Below w0.heap.size w0 w1) := hb
  clear hb ht
  clear q0 q1 q2 q3 q4 q5 q6 q7 q8 q9 q10
  have q0 := HC.out w1 HB1.out 0 _ rfl
  have q1 := HC.out w1 HB1.out 1 _ rfl
  have q2 := HC.out w1 HB1.out 2 _ rfl
  have q3 := HC.out w1 HB1.out 3 _ rfl
  have q4 := HC.out w1 HB1.out 4 _ rfl
  have q5 := HC.out w1 HB1.out 5 _ rfl
  have q6 := HC.out w1 HB1.out 6 _ rfl
  have q7 := HC.out w1 HB1.out 7 _ rfl
  have q8 := HC.out w1 HB1.out 8 _ rfl
  have q9 := HC.out w1 HB1.out 9 _ rfl
  have q10 := HC.out w1 HB1.out 10 _ rfl
  go_wp2_with fail
  refine (of_ok t 7 _ (months_below H0.out.2.2 HB1.out) HT.out.1 HT.out.2.1 (by decide)).mono ?_
  rintro e w2 ⟨⟨Y, M, D, he, hv, hn⟩, hb⟩
  rw [HT.out.2.2 Y M D hv hn] at he
  subst he
  have HB2 : Hid (Below w0.heap.size w0 w2) := below_then HB1.out hb
  clear hb hv hn
  clear q0 q1 q2 q3 q4 q5 q6 q7 q8 q9 q10
  have HA2 : Hid (Below w0.heap.size w0 (w2.alloc (.cells #[.int .i64 7, .int .i64 y, .int .i64 mo, .int .i64 d, .int .i64 h, .int .i64 mi, .int .i64 s, .int .i64 p, .int .i64 4, .bool false, .int .i64 0] 23))) := HB2.out.alloc HB2.out.size _
  have q0 := HC.out _ HA2.out 0 _ rfl
  have q1 := HC.out _ HA2.out 1 _ rfl
  have q2 := HC.out _ HA2.out 2 _ rfl
  have q3 := HC.out _ HA2.out 3 _ rfl
  have q4 := HC.out _ HA2.out 4 _ rfl
  have q5 := HC.out _ HA2.out 5 _ rfl
  have q6 := HC.out _ HA2.out 6 _ rfl
  have q7 := HC.out _ HA2.out 7 _ rfl
  have q8 := HC.out _ HA2.out 8 _ rfl
  have q9 := HC.out _ HA2.out 9 _ rfl
  have q10 := HC.out _ HA2.out 10 _ rfl
  go_wp2_with fail
  refine (anchor_any _ (months_below H0.out.2.2 HA2.out) (H0.out.2.1.below HA2.out)).mono ?_
  rintro e wa ⟨rfl, hb⟩
  have HBa : Hid (Below w.heap.size w wa) := H0.out.1.trans ((below_then HA2.out hb).mono H0.out.1.size)
  clear hb
  go_wp2_with fail
  go_ret
  exact ⟨rfl, HBa.out⟩
theorem again_any (lv y mo d h mi s p dg zn : Int) (z : Bool) (w : World) (hP : Pow w) (hM : Months w) : Calls Tryd.prog 6 #[.agg #[.int .i64 lv, .int .i64 y, .int .i64 mo, .int .i64 d, .int .i64 h, .int .i64 mi, .int .i64 s, .int .i64 p, .int .i64 dg, .bool z, .int .i64 zn]] w fun e w' => e = .returned (.bool true) ∧ Below w.heap.size w w' := by
  cases hr : rightB lv y mo d h mi s p dg zn z with
  | false => exact again_bad lv y mo d h mi s p dg zn z w hr hP hM
  | true =>
    cases z with
    | true => exact again_zoned lv y mo d h mi s p dg zn w hr hP hM
    | false =>
      by_cases hl : lv < 6
      · exact again_low lv y mo d h mi s p dg zn w hr hl hP hM
      · have hz : zn = 0 := by
          have hr' := hr
          unfold rightB zoneB at hr'
          simp only [Bool.and_eq_true] at hr'
          simpa [fitB] using hr'.2
        subst hz
        have F := facts_of hr
        have f1 := F.l2
        by_cases h7 : lv = 7
        · by_cases hg : dg = 4
          · subst h7 hg
            exact again_ok7 y mo d h mi s p w hr hP hM
          · exact again_digits lv y mo d h mi s p dg 0 w hr h7 hg hP hM
        · obtain rfl : lv = 6 := by omega
          have hpd : dg = 0 ∧ p = 0 := by
            have hr' := hr
            unfold rightB partB at hr'
            simp only [Bool.and_eq_true] at hr'
            simpa [fitB] using hr'.1.2
          obtain ⟨rfl, rfl⟩ := hpd
          exact again_ok6 y mo d h mi s w hr hP hM
end Go.Proofs.YtpcdkafjogpdkaaDoor
