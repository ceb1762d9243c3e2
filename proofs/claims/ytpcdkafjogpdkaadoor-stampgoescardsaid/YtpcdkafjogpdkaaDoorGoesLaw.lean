/-
  The law StampGoes, walked.
-/
import Derived.Test.YtpcdkafjogpdkaaDoorAnchor
import Derived.Test.YtpcdkafjogpdkaaDoorAt
namespace Go.Proofs.YtpcdkafjogpdkaaDoor
open Go.RowKit

theorem fit_t {v lo hi : Int} (h1 : lo ≤ v) (h2 : v ≤ hi) : fitB true v lo hi = true := by simp [fitB, inB]; omega
theorem of_right {y m d t : Int} (hv : vldB y m d = true) : rightB 6 y m d (hourOf t) (minuteOf t) (secondOf t) 0 0 0 false = true := by
  obtain ⟨h1, h2, h3, h4, h5, h6⟩ := vld_iff.1 hv
  have hd : dinB y m = dim y m := by unfold dinB; rw [if_pos (by rw [inB_iff]; omega)]
  unfold rightB dateB clockB partB zoneB
  simp only [Bool.and_eq_true]
  refine ⟨⟨⟨⟨⟨⟨by rw [inB_iff]; omega, by rw [inB_iff]; omega⟩, fit_t (by omega) (by omega)⟩, ?_⟩, ⟨⟨?_, ?_⟩, ?_⟩⟩, ⟨rfl, rfl⟩⟩, rfl⟩
  · rw [hd]; exact fit_t (by omega) (by omega)
  · exact fit_t (by unfold hourOf; omega) (by unfold hourOf; omega)
  · exact fit_t (by unfold minuteOf; omega) (by unfold minuteOf; omega)
  · exact fit_t (by unfold secondOf; omega) (by unfold secondOf; omega)
theorem of_inst {y m d S : Int} (hv : vldB y m d = true) (hn : num y m d = S * 10000 / 864000000) : instI 6 y m d (hourOf (S * 10000)) (minuteOf (S * 10000)) (secondOf (S * 10000)) 0 0 0 = S * 10000 := by
  obtain ⟨h1, h2, h3, h4, h5, h6⟩ := vld_iff.1 hv
  unfold instI hourOf minuteOf secondOf
  rw [show max m 1 = m by omega, show max d 1 = d by omega, hn, if_neg (by decide)]
  omega
theorem at_err {lv y mo d h mi s p dg zn : Int} {z : Bool} (hb : ¬ (rightB lv y mo d h mi s p dg zn z = true ∧ lv = 6 ∧ z = false)) (tick : Int) (w : World) (hM : Months w) :
    Calls Tryd.prog 19 #[.agg #[.int .i64 lv, .int .i64 y, .int .i64 mo, .int .i64 d, .int .i64 h, .int .i64 mi, .int .i64 s, .int .i64 p, .int .i64 dg, .bool z, .int .i64 zn], .int .i64 tick] w fun e w' => (∃ b, e = .returned (.tuple #[.agg #[.int .i64 0, .int .i64 0, .int .i64 0, .int .i64 0, .int .i64 0, .int .i64 0, .int .i64 0, .int .i64 0, .int .i64 0, .bool false, .int .i64 0], .iface 52 (.pointer (some ⟨b, 0, none⟩))]) ∧ FaultAt w' b 0 20) ∧ Below w.heap.size w w' := by
  cases hr : rightB lv y mo d h mi s p dg zn z with
  | false => exact at_bad hr tick w hM
  | true =>
    by_cases h6 : lv = 6
    · cases z with
      | true => subst h6; exact at_zone hr tick w hM
      | false => exact absurd ⟨hr, h6, rfl⟩ hb
    · exact at_level hr h6 tick w hM
set_option maxRecDepth 100000 in
set_option maxHeartbeats 2000000 in
theorem goes_out_a (lv y mo d h mi s p dg zn : Int) (z : Bool) (n m : Int) (w : World) (c : n < 0) (hP : Pow w) (hM : Months w) : Calls Tryd.prog 8 #[.agg #[.int .i64 lv, .int .i64 y, .int .i64 mo, .int .i64 d, .int .i64 h, .int .i64 mi, .int .i64 s, .int .i64 p, .int .i64 dg, .bool z, .int .i64 zn], .int .i64 n, .int .i64 m] w fun e w' => e = .returned (.bool true) ∧ Below w.heap.size w w' := by
  obtain ⟨w0, hw0⟩ : ∃ w0, w.alloc (.cells #[.int .i64 lv, .int .i64 y, .int .i64 mo, .int .i64 d, .int .i64 h, .int .i64 mi, .int .i64 s, .int .i64 p, .int .i64 dg, .bool z, .int .i64 zn] 23) = w0 := ⟨_, rfl⟩
  have H0 : Hid (Below w.heap.size w w0 ∧ Pow w0 ∧ Months w0) := by
    have hb : Below w.heap.size w w0 := by rw [← hw0]; exact (Below.refl _ _).alloc (Nat.le_refl _) _
    exact ⟨hb, hP.below hb, months_below hM hb⟩
  have HC : Hid (∀ w1, Below w0.heap.size w0 w1 → ∀ j x, (#[.int .i64 lv, .int .i64 y, .int .i64 mo, .int .i64 d, .int .i64 h, .int .i64 mi, .int .i64 s, .int .i64 p, .int .i64 dg, .bool z, .int .i64 zn] : Array Value)[j]? = some x → w1.cell? ⟨w.heap.size, j, none⟩ = some x) := fun w1 hb j x hx => stamp_cells lv y mo d h mi s p dg zn z hw0 hb j x hx
  clear hP hM
  have HN : Hid (Below w0.heap.size w0 w0) := Below.refl _ _
  go_enter Tryd.func8, Tryd.ntmps8
  go_wp2_with fail
  refine (anchor_any _ (months_below H0.out.2.2 HN.out) (H0.out.2.1.below HN.out)).mono ?_
  rintro e wa ⟨rfl, hb⟩
  have HBa : Hid (Below w.heap.size w wa) := H0.out.1.trans ((below_then HN.out hb).mono H0.out.1.size)
  clear hb
  go_wp2_with fail
  go_ret
  exact ⟨rfl, HBa.out⟩
set_option maxRecDepth 100000 in
set_option maxHeartbeats 2000000 in
theorem goes_out_b (lv y mo d h mi s p dg zn : Int) (z : Bool) (n m : Int) (w : World) (c0 : ¬ n < 0) (c : m < 0) (hP : Pow w) (hM : Months w) : Calls Tryd.prog 8 #[.agg #[.int .i64 lv, .int .i64 y, .int .i64 mo, .int .i64 d, .int .i64 h, .int .i64 mi, .int .i64 s, .int .i64 p, .int .i64 dg, .bool z, .int .i64 zn], .int .i64 n, .int .i64 m] w fun e w' => e = .returned (.bool true) ∧ Below w.heap.size w w' := by
  obtain ⟨w0, hw0⟩ : ∃ w0, w.alloc (.cells #[.int .i64 lv, .int .i64 y, .int .i64 mo, .int .i64 d, .int .i64 h, .int .i64 mi, .int .i64 s, .int .i64 p, .int .i64 dg, .bool z, .int .i64 zn] 23) = w0 := ⟨_, rfl⟩
  have H0 : Hid (Below w.heap.size w w0 ∧ Pow w0 ∧ Months w0) := by
    have hb : Below w.heap.size w w0 := by rw [← hw0]; exact (Below.refl _ _).alloc (Nat.le_refl _) _
    exact ⟨hb, hP.below hb, months_below hM hb⟩
  have HC : Hid (∀ w1, Below w0.heap.size w0 w1 → ∀ j x, (#[.int .i64 lv, .int .i64 y, .int .i64 mo, .int .i64 d, .int .i64 h, .int .i64 mi, .int .i64 s, .int .i64 p, .int .i64 dg, .bool z, .int .i64 zn] : Array Value)[j]? = some x → w1.cell? ⟨w.heap.size, j, none⟩ = some x) := fun w1 hb j x hx => stamp_cells lv y mo d h mi s p dg zn z hw0 hb j x hx
  clear hP hM
  have HN : Hid (Below w0.heap.size w0 w0) := Below.refl _ _
  go_enter Tryd.func8, Tryd.ntmps8
  go_wp2_with fail
  refine (anchor_any _ (months_below H0.out.2.2 HN.out) (H0.out.2.1.below HN.out)).mono ?_
  rintro e wa ⟨rfl, hb⟩
  have HBa : Hid (Below w.heap.size w wa) := H0.out.1.trans ((below_then HN.out hb).mono H0.out.1.size)
  clear hb
  go_wp2_with fail
  go_ret
  exact ⟨rfl, HBa.out⟩
set_option maxRecDepth 100000 in
set_option maxHeartbeats 2000000 in
theorem goes_out_c (lv y mo d h mi s p dg zn : Int) (z : Bool) (n m : Int) (w : World) (c0 : ¬ n < 0) (c1 : ¬ m < 0) (c : 1099511627776 < n) (hP : Pow w) (hM : Months w) : Calls Tryd.prog 8 #[.agg #[.int .i64 lv, .int .i64 y, .int .i64 mo, .int .i64 d, .int .i64 h, .int .i64 mi, .int .i64 s, .int .i64 p, .int .i64 dg, .bool z, .int .i64 zn], .int .i64 n, .int .i64 m] w fun e w' => e = .returned (.bool true) ∧ Below w.heap.size w w' := by
  obtain ⟨w0, hw0⟩ : ∃ w0, w.alloc (.cells #[.int .i64 lv, .int .i64 y, .int .i64 mo, .int .i64 d, .int .i64 h, .int .i64 mi, .int .i64 s, .int .i64 p, .int .i64 dg, .bool z, .int .i64 zn] 23) = w0 := ⟨_, rfl⟩
  have H0 : Hid (Below w.heap.size w w0 ∧ Pow w0 ∧ Months w0) := by
    have hb : Below w.heap.size w w0 := by rw [← hw0]; exact (Below.refl _ _).alloc (Nat.le_refl _) _
    exact ⟨hb, hP.below hb, months_below hM hb⟩
  have HC : Hid (∀ w1, Below w0.heap.size w0 w1 → ∀ j x, (#[.int .i64 lv, .int .i64 y, .int .i64 mo, .int .i64 d, .int .i64 h, .int .i64 mi, .int .i64 s, .int .i64 p, .int .i64 dg, .bool z, .int .i64 zn] : Array Value)[j]? = some x → w1.cell? ⟨w.heap.size, j, none⟩ = some x) := fun w1 hb j x hx => stamp_cells lv y mo d h mi s p dg zn z hw0 hb j x hx
  clear hP hM
  have HN : Hid (Below w0.heap.size w0 w0) := Below.refl _ _
  go_enter Tryd.func8, Tryd.ntmps8
  go_wp2_with fail
  refine (anchor_any _ (months_below H0.out.2.2 HN.out) (H0.out.2.1.below HN.out)).mono ?_
  rintro e wa ⟨rfl, hb⟩
  have HBa : Hid (Below w.heap.size w wa) := H0.out.1.trans ((below_then HN.out hb).mono H0.out.1.size)
  clear hb
  go_wp2_with fail
  go_ret
  exact ⟨rfl, HBa.out⟩
set_option maxRecDepth 100000 in
set_option maxHeartbeats 2000000 in
theorem goes_out_d (lv y mo d h mi s p dg zn : Int) (z : Bool) (n m : Int) (w : World) (c0 : ¬ n < 0) (c1 : ¬ m < 0) (c2 : ¬ 1099511627776 < n) (c : 1099511627776 < m) (hP : Pow w) (hM : Months w) : Calls Tryd.prog 8 #[.agg #[.int .i64 lv, .int .i64 y, .int .i64 mo, .int .i64 d, .int .i64 h, .int .i64 mi, .int .i64 s, .int .i64 p, .int .i64 dg, .bool z, .int .i64 zn], .int .i64 n, .int .i64 m] w fun e w' => e = .returned (.bool true) ∧ Below w.heap.size w w' := by
  obtain ⟨w0, hw0⟩ : ∃ w0, w.alloc (.cells #[.int .i64 lv, .int .i64 y, .int .i64 mo, .int .i64 d, .int .i64 h, .int .i64 mi, .int .i64 s, .int .i64 p, .int .i64 dg, .bool z, .int .i64 zn] 23) = w0 := ⟨_, rfl⟩
  have H0 : Hid (Below w.heap.size w w0 ∧ Pow w0 ∧ Months w0) := by
    have hb : Below w.heap.size w w0 := by rw [← hw0]; exact (Below.refl _ _).alloc (Nat.le_refl _) _
    exact ⟨hb, hP.below hb, months_below hM hb⟩
  have HC : Hid (∀ w1, Below w0.heap.size w0 w1 → ∀ j x, (#[.int .i64 lv, .int .i64 y, .int .i64 mo, .int .i64 d, .int .i64 h, .int .i64 mi, .int .i64 s, .int .i64 p, .int .i64 dg, .bool z, .int .i64 zn] : Array Value)[j]? = some x → w1.cell? ⟨w.heap.size, j, none⟩ = some x) := fun w1 hb j x hx => stamp_cells lv y mo d h mi s p dg zn z hw0 hb j x hx
  clear hP hM
  have HN : Hid (Below w0.heap.size w0 w0) := Below.refl _ _
  go_enter Tryd.func8, Tryd.ntmps8
  go_wp2_with fail
  refine (anchor_any _ (months_below H0.out.2.2 HN.out) (H0.out.2.1.below HN.out)).mono ?_
  rintro e wa ⟨rfl, hb⟩
  have HBa : Hid (Below w.heap.size w wa) := H0.out.1.trans ((below_then HN.out hb).mono H0.out.1.size)
  clear hb
  go_wp2_with fail
  go_ret
  exact ⟨rfl, HBa.out⟩
set_option maxRecDepth 100000 in
set_option maxHeartbeats 2000000 in
theorem goes_out_e (lv y mo d h mi s p dg zn : Int) (z : Bool) (n m : Int) (w : World) (c0 : ¬ n < 0) (c1 : ¬ m < 0) (c2 : ¬ 1099511627776 < n) (c3 : ¬ 1099511627776 < m) (c : 1099511627776 < n + m) (hP : Pow w) (hM : Months w) : Calls Tryd.prog 8 #[.agg #[.int .i64 lv, .int .i64 y, .int .i64 mo, .int .i64 d, .int .i64 h, .int .i64 mi, .int .i64 s, .int .i64 p, .int .i64 dg, .bool z, .int .i64 zn], .int .i64 n, .int .i64 m] w fun e w' => e = .returned (.bool true) ∧ Below w.heap.size w w' := by
  obtain ⟨w0, hw0⟩ : ∃ w0, w.alloc (.cells #[.int .i64 lv, .int .i64 y, .int .i64 mo, .int .i64 d, .int .i64 h, .int .i64 mi, .int .i64 s, .int .i64 p, .int .i64 dg, .bool z, .int .i64 zn] 23) = w0 := ⟨_, rfl⟩
  have H0 : Hid (Below w.heap.size w w0 ∧ Pow w0 ∧ Months w0) := by
    have hb : Below w.heap.size w w0 := by rw [← hw0]; exact (Below.refl _ _).alloc (Nat.le_refl _) _
    exact ⟨hb, hP.below hb, months_below hM hb⟩
  have HC : Hid (∀ w1, Below w0.heap.size w0 w1 → ∀ j x, (#[.int .i64 lv, .int .i64 y, .int .i64 mo, .int .i64 d, .int .i64 h, .int .i64 mi, .int .i64 s, .int .i64 p, .int .i64 dg, .bool z, .int .i64 zn] : Array Value)[j]? = some x → w1.cell? ⟨w.heap.size, j, none⟩ = some x) := fun w1 hb j x hx => stamp_cells lv y mo d h mi s p dg zn z hw0 hb j x hx
  clear hP hM
  have HN : Hid (Below w0.heap.size w0 w0) := Below.refl _ _
  go_enter Tryd.func8, Tryd.ntmps8
  go_wp2_with fail
  refine (anchor_any _ (months_below H0.out.2.2 HN.out) (H0.out.2.1.below HN.out)).mono ?_
  rintro e wa ⟨rfl, hb⟩
  have HBa : Hid (Below w.heap.size w wa) := H0.out.1.trans ((below_then HN.out hb).mono H0.out.1.size)
  clear hb
  go_wp2_with fail
  go_ret
  exact ⟨rfl, HBa.out⟩
set_option maxRecDepth 100000 in
set_option maxHeartbeats 2000000 in
theorem goes_err (lv y mo d h mi s p dg zn : Int) (z : Bool) (n m : Int) (w : World) (c0 : ¬ n < 0) (c1 : ¬ m < 0) (c2 : ¬ 1099511627776 < n) (c3 : ¬ 1099511627776 < m) (c4 : ¬ 1099511627776 < n + m) (hb : ¬ (rightB lv y mo d h mi s p dg zn z = true ∧ lv = 6 ∧ z = false)) (hP : Pow w) (hM : Months w) : Calls Tryd.prog 8 #[.agg #[.int .i64 lv, .int .i64 y, .int .i64 mo, .int .i64 d, .int .i64 h, .int .i64 mi, .int .i64 s, .int .i64 p, .int .i64 dg, .bool z, .int .i64 zn], .int .i64 n, .int .i64 m] w fun e w' => e = .returned (.bool true) ∧ Below w.heap.size w w' := by
  have HR : Hid (¬ (rightB lv y mo d h mi s p dg zn z = true ∧ lv = 6 ∧ z = false)) := hb
  clear hb
  obtain ⟨w0, hw0⟩ : ∃ w0, w.alloc (.cells #[.int .i64 lv, .int .i64 y, .int .i64 mo, .int .i64 d, .int .i64 h, .int .i64 mi, .int .i64 s, .int .i64 p, .int .i64 dg, .bool z, .int .i64 zn] 23) = w0 := ⟨_, rfl⟩
  have H0 : Hid (Below w.heap.size w w0 ∧ Pow w0 ∧ Months w0) := by
    have hb : Below w.heap.size w w0 := by rw [← hw0]; exact (Below.refl _ _).alloc (Nat.le_refl _) _
    exact ⟨hb, hP.below hb, months_below hM hb⟩
  have HC : Hid (∀ w1, Below w0.heap.size w0 w1 → ∀ j x, (#[.int .i64 lv, .int .i64 y, .int .i64 mo, .int .i64 d, .int .i64 h, .int .i64 mi, .int .i64 s, .int .i64 p, .int .i64 dg, .bool z, .int .i64 zn] : Array Value)[j]? = some x → w1.cell? ⟨w.heap.size, j, none⟩ = some x) := fun w1 hb j x hx => stamp_cells lv y mo d h mi s p dg zn z hw0 hb j x hx
  clear hP hM
  have q0 := HC.out w0 (Below.refl _ _) 0 _ rfl
  have q1 := HC.out w0 (Below.refl _ _) 1 _ rfl
  have q2 := HC.out w0 (Below.refl _ _) 2 _ rfl
  have q3 := HC.out w0 (Below.refl _ _) 3 _ rfl
  have q4 := HC.out w0 (Below.refl _ _) 4 _ rfl
  have q5 := HC.out w0 (Below.refl _ _) 5 _ rfl
  have q6 := HC.out w0 (Below.refl _ _) 6 _ rfl
  have q7 := HC.out w0 (Below.refl _ _) 7 _ rfl
  have q8 := HC.out w0 (Below.refl _ _) 8 _ rfl
  have q9 := HC.out w0 (Below.refl _ _) 9 _ rfl
  have q10 := HC.out w0 (Below.refl _ _) 10 _ rfl
  go_enter Tryd.func8, Tryd.ntmps8
  go_wp2_with fail
  refine (at_err HR.out n _ H0.out.2.2).mono ?_
  rintro e w1 ⟨⟨b, rfl, _⟩, hb⟩
  have HB1 : Hid (Below w0.heap.size w0 (w1.alloc (.cells #[.int .i64 0, .int .i64 0, .int .i64 0, .int .i64 0, .int .i64 0, .int .i64 0, .int .i64 0, .int .i64 0, .int .i64 0, .bool false, .int .i64 0] 23))) := hb.alloc hb.size _
  clear hb
  clear q0 q1 q2 q3 q4 q5 q6 q7 q8 q9 q10
  go_wp2_with fail
  refine (anchor_any _ (months_below H0.out.2.2 HB1.out) (H0.out.2.1.below HB1.out)).mono ?_
  rintro e wa ⟨rfl, hb⟩
  have HBa : Hid (Below w.heap.size w wa) := H0.out.1.trans ((below_then HB1.out hb).mono H0.out.1.size)
  clear hb
  go_wp2_with fail
  go_ret
  exact ⟨rfl, HBa.out⟩
theorem goes_num {t0 n m A : Int} (_h0 : 0 ≤ t0) (_h1 : t0 ≤ 3155378975990000) (_h2 : t0 % 10000 = 0) (_hn : 0 ≤ n) (_hm : 0 ≤ m) (hA : A = atS t0 n * 10000) : atS A m = atS t0 (n + m) ∧ (A - t0) / 10000 ≤ n ∧ ((A - t0) / 10000 = n ∨ A = 3155378975990000) ∧ A / 10000 * 10000 = A := by
  subst hA
  unfold atS
  omega
theorem last_date {y m d : Int} (hv : vldB y m d = true) (hn : num y m d = 3155378975990000 / 864000000) : y = 9999 ∧ m = 12 ∧ d = 31 :=
  num_inj hv (by decide) (by rw [hn]; decide)
set_option maxRecDepth 100000 in
set_option maxHeartbeats 2000000 in
theorem goes_ok_n (y mo d h mi s p dg zn : Int) (n m : Int) (w : World) (c0 : ¬ n < 0) (c1 : ¬ m < 0) (c2 : ¬ 1099511627776 < n) (c3 : ¬ 1099511627776 < m) (c4 : ¬ 1099511627776 < n + m) (hr : rightB 6 y mo d h mi s p dg zn false = true) (hk : (atS (instI 6 y mo d h mi s p dg zn) n * 10000 - instI 6 y mo d h mi s p dg zn) / 10000 = n) (hP : Pow w) (hM : Months w) : Calls Tryd.prog 8 #[.agg #[.int .i64 6, .int .i64 y, .int .i64 mo, .int .i64 d, .int .i64 h, .int .i64 mi, .int .i64 s, .int .i64 p, .int .i64 dg, .bool false, .int .i64 zn], .int .i64 n, .int .i64 m] w fun e w' => e = .returned (.bool true) ∧ Below w.heap.size w w' := by
  have HR : Hid (rightB 6 y mo d h mi s p dg zn false = true) := hr
  obtain ⟨i0, i1, i2⟩ := inst_6 hr
  obtain ⟨t0, ht0⟩ : ∃ t0, instI 6 y mo d h mi s p dg zn = t0 := ⟨_, rfl⟩
  rw [ht0] at i0 i1 i2 hk
  obtain ⟨A, hA⟩ : ∃ A, atS t0 n * 10000 = A := ⟨_, rfl⟩
  obtain ⟨g1, g2, _, g4⟩ := goes_num i0 i1 i2 (by omega : 0 ≤ n) (by omega : 0 ≤ m) hA.symm
  rw [hA] at hk
  have HT : Hid (instI 6 y mo d h mi s p dg zn = t0) := ht0
  have HA : Hid (atS t0 n * 10000 = A) := hA
  have HG : Hid (atS A m = atS t0 (n + m)) := g1
  clear hr i0 i1 i2 ht0 hA g1
  obtain ⟨w0, hw0⟩ : ∃ w0, w.alloc (.cells #[.int .i64 6, .int .i64 y, .int .i64 mo, .int .i64 d, .int .i64 h, .int .i64 mi, .int .i64 s, .int .i64 p, .int .i64 dg, .bool false, .int .i64 zn] 23) = w0 := ⟨_, rfl⟩
  have H0 : Hid (Below w.heap.size w w0 ∧ Pow w0 ∧ Months w0) := by
    have hb : Below w.heap.size w w0 := by rw [← hw0]; exact (Below.refl _ _).alloc (Nat.le_refl _) _
    exact ⟨hb, hP.below hb, months_below hM hb⟩
  have HC : Hid (∀ w1, Below w0.heap.size w0 w1 → ∀ j x, (#[.int .i64 6, .int .i64 y, .int .i64 mo, .int .i64 d, .int .i64 h, .int .i64 mi, .int .i64 s, .int .i64 p, .int .i64 dg, .bool false, .int .i64 zn] : Array Value)[j]? = some x → w1.cell? ⟨w.heap.size, j, none⟩ = some x) := fun w1 hb j x hx => stamp_cells 6 y mo d h mi s p dg zn false hw0 hb j x hx
  clear hP hM
  have q0 := HC.out w0 (Below.refl _ _) 0 _ rfl
  have q1 := HC.out w0 (Below.refl _ _) 1 _ rfl
  have q2 := HC.out w0 (Below.refl _ _) 2 _ rfl
  have q3 := HC.out w0 (Below.refl _ _) 3 _ rfl
  have q4 := HC.out w0 (Below.refl _ _) 4 _ rfl
  have q5 := HC.out w0 (Below.refl _ _) 5 _ rfl
  have q6 := HC.out w0 (Below.refl _ _) 6 _ rfl
  have q7 := HC.out w0 (Below.refl _ _) 7 _ rfl
  have q8 := HC.out w0 (Below.refl _ _) 8 _ rfl
  have q9 := HC.out w0 (Below.refl _ _) 9 _ rfl
  have q10 := HC.out w0 (Below.refl _ _) 10 _ rfl
  go_enter Tryd.func8, Tryd.ntmps8
  go_wp2_with fail
  refine (at_ok HR.out n _ H0.out.2.2 (by omega) (by omega)).mono ?_
  rintro e w1 ⟨⟨y1, m1, d1, he, hv1, hn1⟩, hb⟩
  rw [HT.out, HA.out] at he hn1
  rw [ofV6] at he
  have HRA : Hid (rightB 6 y1 m1 d1 (hourOf A) (minuteOf A) (secondOf A) 0 0 0 false = true) := of_right hv1
  have HIA : Hid (instI 6 y1 m1 d1 (hourOf A) (minuteOf A) (secondOf A) 0 0 0 = A) := by
    have e := of_inst (S := A / 10000) hv1 (by rw [g4]; exact hn1)
    rw [g4] at e; exact e
  obtain ⟨ha, hha⟩ : ∃ ha, hourOf A = ha := ⟨_, rfl⟩
  obtain ⟨ia, hia⟩ : ∃ ia, minuteOf A = ia := ⟨_, rfl⟩
  obtain ⟨sa, hsa⟩ : ∃ sa, secondOf A = sa := ⟨_, rfl⟩
  rw [hha, hia, hsa] at he HRA HIA
  subst he
  clear hha hia hsa
  obtain ⟨v0, hv0⟩ : ∃ v0, w1.alloc (.cells #[.int .i64 6, .int .i64 y1, .int .i64 m1, .int .i64 d1, .int .i64 ha, .int .i64 ia, .int .i64 sa, .int .i64 0, .int .i64 0, .bool false, .int .i64 0] 23) = v0 := ⟨_, rfl⟩
  have HCA : Hid (∀ w', Below v0.heap.size v0 w' → ∀ j x, (#[.int .i64 6, .int .i64 y1, .int .i64 m1, .int .i64 d1, .int .i64 ha, .int .i64 ia, .int .i64 sa, .int .i64 0, .int .i64 0, .bool false, .int .i64 0] : Array Value)[j]? = some x → w'.cell? ⟨w1.heap.size, j, none⟩ = some x) := fun w' hb j x hx => stamp_cells 6 y1 m1 d1 ha ia sa 0 0 0 false hv0 hb j x hx
  have HB1 : Hid (Below w0.heap.size w0 v0) := by unfold Hid; rw [← hv0]; exact hb.alloc hb.size _
  have HE0 : Hid (w1.alloc (.cells #[.int .i64 6, .int .i64 y1, .int .i64 m1, .int .i64 d1, .int .i64 ha, .int .i64 ia, .int .i64 sa, .int .i64 0, .int .i64 0, .bool false, .int .i64 0] 23) = v0) := hv0
  clear hb hv1 hn1 hv0
  clear q0 q1 q2 q3 q4 q5 q6 q7 q8 q9 q10
  go_wp2_with fail
  rw [HE0.out]
  clear HE0
  refine (at_ok HRA.out m _ (months_below H0.out.2.2 HB1.out) (by omega) (by omega)).mono ?_
  rintro e w2 ⟨⟨y2, m2, d2, he, hv2, hn2⟩, hb⟩
  rw [HIA.out, HG.out] at he hn2
  rw [ofV6] at he
  obtain ⟨B, hB⟩ : ∃ B, atS t0 (n + m) * 10000 = B := ⟨_, rfl⟩
  rw [hB] at he hn2
  have HBB : Hid (atS t0 (n + m) * 10000 = B) := hB
  obtain ⟨hb2, hhb⟩ : ∃ hb2, hourOf B = hb2 := ⟨_, rfl⟩
  obtain ⟨ib2, hib⟩ : ∃ ib2, minuteOf B = ib2 := ⟨_, rfl⟩
  obtain ⟨sb2, hsb⟩ : ∃ sb2, secondOf B = sb2 := ⟨_, rfl⟩
  rw [hhb, hib, hsb] at he
  subst he
  have HH : Hid (hourOf B = hb2 ∧ minuteOf B = ib2 ∧ secondOf B = sb2 ∧ vldB y2 m2 d2 = true ∧ num y2 m2 d2 = B / 864000000) := ⟨hhb, hib, hsb, hv2, hn2⟩
  clear hhb hib hsb hB hv2 hn2
  have HB2 : Hid (Below v0.heap.size v0 w2) := hb
  clear hb
  obtain ⟨v1, hv1⟩ : ∃ v1, w2.alloc (.cells #[.int .i64 6, .int .i64 y2, .int .i64 m2, .int .i64 d2, .int .i64 hb2, .int .i64 ib2, .int .i64 sb2, .int .i64 0, .int .i64 0, .bool false, .int .i64 0] 23) = v1 := ⟨_, rfl⟩
  have HCB : Hid (∀ w', Below v1.heap.size v1 w' → ∀ j x, (#[.int .i64 6, .int .i64 y2, .int .i64 m2, .int .i64 d2, .int .i64 hb2, .int .i64 ib2, .int .i64 sb2, .int .i64 0, .int .i64 0, .bool false, .int .i64 0] : Array Value)[j]? = some x → w'.cell? ⟨w2.heap.size, j, none⟩ = some x) := fun w' hb j x hx => stamp_cells 6 y2 m2 d2 hb2 ib2 sb2 0 0 0 false hv1 hb j x hx
  have HV1 : Hid (Below v0.heap.size v0 v1) := by unfold Hid; rw [← hv1]; exact HB2.out.alloc HB2.out.size _
  have HW1 : Hid (Below w0.heap.size w0 v1) := below_then HB1.out HV1.out
  have q0 := HC.out _ HW1.out 0 _ rfl
  have q1 := HC.out _ HW1.out 1 _ rfl
  have q2 := HC.out _ HW1.out 2 _ rfl
  have q3 := HC.out _ HW1.out 3 _ rfl
  have q4 := HC.out _ HW1.out 4 _ rfl
  have q5 := HC.out _ HW1.out 5 _ rfl
  have q6 := HC.out _ HW1.out 6 _ rfl
  have q7 := HC.out _ HW1.out 7 _ rfl
  have q8 := HC.out _ HW1.out 8 _ rfl
  have q9 := HC.out _ HW1.out 9 _ rfl
  have q10 := HC.out _ HW1.out 10 _ rfl
  have HE1 : Hid (w2.alloc (.cells #[.int .i64 6, .int .i64 y2, .int .i64 m2, .int .i64 d2, .int .i64 hb2, .int .i64 ib2, .int .i64 sb2, .int .i64 0, .int .i64 0, .bool false, .int .i64 0] 23) = v1) := hv1
  clear hv1
  rw [← HE1.out] at q0 q1 q2 q3 q4 q5 q6 q7 q8 q9 q10
  go_wp2_with fail
  rw [HE1.out]
  clear HE1 q0 q1 q2 q3 q4 q5 q6 q7 q8 q9 q10
  refine (at_ok HR.out (n + m) _ (months_below H0.out.2.2 HW1.out) (by omega) (by omega)).mono ?_
  rintro e w3 ⟨⟨y3, m3, d3, he, hv3, hn3⟩, hb⟩
  rw [HT.out, HBB.out] at he hn3
  obtain ⟨rfl, rfl, rfl⟩ := num_inj hv3 HH.out.2.2.2.1 (by rw [hn3]; exact HH.out.2.2.2.2.symm)
  rw [ofV6, HH.out.1, HH.out.2.1, HH.out.2.2.1] at he
  subst he
  have HB3 : Hid (Below v1.heap.size v1 w3) := hb
  clear hb hv3 hn3
  obtain ⟨v2, hv2⟩ : ∃ v2, w3.alloc (.cells #[.int .i64 6, .int .i64 y3, .int .i64 m3, .int .i64 d3, .int .i64 hb2, .int .i64 ib2, .int .i64 sb2, .int .i64 0, .int .i64 0, .bool false, .int .i64 0] 23) = v2 := ⟨_, rfl⟩
  have HCC : Hid (∀ w', Below v2.heap.size v2 w' → ∀ j x, (#[.int .i64 6, .int .i64 y3, .int .i64 m3, .int .i64 d3, .int .i64 hb2, .int .i64 ib2, .int .i64 sb2, .int .i64 0, .int .i64 0, .bool false, .int .i64 0] : Array Value)[j]? = some x → w'.cell? ⟨w3.heap.size, j, none⟩ = some x) := fun w' hb j x hx => stamp_cells 6 y3 m3 d3 hb2 ib2 sb2 0 0 0 false hv2 hb j x hx
  have HV2 : Hid (Below v1.heap.size v1 v2) := by unfold Hid; rw [← hv2]; exact HB3.out.alloc HB3.out.size _
  have HW2 : Hid (Below w0.heap.size w0 v2) := below_then HW1.out HV2.out
  have HA2 : Hid (Below v0.heap.size v0 v2) := below_then HV1.out HV2.out
  have q0 := HC.out _ HW2.out 0 _ rfl
  have r0 := HCA.out _ HA2.out 0 _ rfl
  have q1 := HC.out _ HW2.out 1 _ rfl
  have r1 := HCA.out _ HA2.out 1 _ rfl
  have q2 := HC.out _ HW2.out 2 _ rfl
  have r2 := HCA.out _ HA2.out 2 _ rfl
  have q3 := HC.out _ HW2.out 3 _ rfl
  have r3 := HCA.out _ HA2.out 3 _ rfl
  have q4 := HC.out _ HW2.out 4 _ rfl
  have r4 := HCA.out _ HA2.out 4 _ rfl
  have q5 := HC.out _ HW2.out 5 _ rfl
  have r5 := HCA.out _ HA2.out 5 _ rfl
  have q6 := HC.out _ HW2.out 6 _ rfl
  have r6 := HCA.out _ HA2.out 6 _ rfl
  have q7 := HC.out _ HW2.out 7 _ rfl
  have r7 := HCA.out _ HA2.out 7 _ rfl
  have q8 := HC.out _ HW2.out 8 _ rfl
  have r8 := HCA.out _ HA2.out 8 _ rfl
  have q9 := HC.out _ HW2.out 9 _ rfl
  have r9 := HCA.out _ HA2.out 9 _ rfl
  have q10 := HC.out _ HW2.out 10 _ rfl
  have r10 := HCA.out _ HA2.out 10 _ rfl
  have HE2 : Hid (w3.alloc (.cells #[.int .i64 6, .int .i64 y3, .int .i64 m3, .int .i64 d3, .int .i64 hb2, .int .i64 ib2, .int .i64 sb2, .int .i64 0, .int .i64 0, .bool false, .int .i64 0] 23) = v2) := hv2
  clear hv2
  rw [← HE2.out] at q0 r0 q1 r1 q2 r2 q3 r3 q4 r4 q5 r5 q6 r6 q7 r7 q8 r8 q9 r9 q10 r10
  go_wp2_with fail
  rw [HE2.out]
  clear HE2 q0 r0 q1 r1 q2 r2 q3 r3 q4 r4 q5 r5 q6 r6 q7 r7 q8 r8 q9 r9 q10 r10
  refine (Ticks_ok HR.out HRA.out _ (months_below H0.out.2.2 HW2.out)).mono ?_
  rintro e w4 ⟨he, hb⟩
  rw [HIA.out, HT.out] at he
  rw [hk] at he
  subst he
  have HB4 : Hid (Below v2.heap.size v2 w4) := hb
  have HW4 : Hid (Below w0.heap.size w0 w4) := below_then HW2.out hb
  clear hb
  have r0 := HCA.out _ (below_then HA2.out HB4.out) 0 _ rfl
  have s0 := HCB.out _ (below_then HV2.out HB4.out) 0 _ rfl
  have t0 := HCC.out _ HB4.out 0 _ rfl
  have r1 := HCA.out _ (below_then HA2.out HB4.out) 1 _ rfl
  have s1 := HCB.out _ (below_then HV2.out HB4.out) 1 _ rfl
  have t1 := HCC.out _ HB4.out 1 _ rfl
  have r2 := HCA.out _ (below_then HA2.out HB4.out) 2 _ rfl
  have s2 := HCB.out _ (below_then HV2.out HB4.out) 2 _ rfl
  have t2 := HCC.out _ HB4.out 2 _ rfl
  have r3 := HCA.out _ (below_then HA2.out HB4.out) 3 _ rfl
  have s3 := HCB.out _ (below_then HV2.out HB4.out) 3 _ rfl
  have t3 := HCC.out _ HB4.out 3 _ rfl
  have r4 := HCA.out _ (below_then HA2.out HB4.out) 4 _ rfl
  have s4 := HCB.out _ (below_then HV2.out HB4.out) 4 _ rfl
  have t4 := HCC.out _ HB4.out 4 _ rfl
  have r5 := HCA.out _ (below_then HA2.out HB4.out) 5 _ rfl
  have s5 := HCB.out _ (below_then HV2.out HB4.out) 5 _ rfl
  have t5 := HCC.out _ HB4.out 5 _ rfl
  have r6 := HCA.out _ (below_then HA2.out HB4.out) 6 _ rfl
  have s6 := HCB.out _ (below_then HV2.out HB4.out) 6 _ rfl
  have t6 := HCC.out _ HB4.out 6 _ rfl
  have r7 := HCA.out _ (below_then HA2.out HB4.out) 7 _ rfl
  have s7 := HCB.out _ (below_then HV2.out HB4.out) 7 _ rfl
  have t7 := HCC.out _ HB4.out 7 _ rfl
  have r8 := HCA.out _ (below_then HA2.out HB4.out) 8 _ rfl
  have s8 := HCB.out _ (below_then HV2.out HB4.out) 8 _ rfl
  have t8 := HCC.out _ HB4.out 8 _ rfl
  have r9 := HCA.out _ (below_then HA2.out HB4.out) 9 _ rfl
  have s9 := HCB.out _ (below_then HV2.out HB4.out) 9 _ rfl
  have t9 := HCC.out _ HB4.out 9 _ rfl
  have r10 := HCA.out _ (below_then HA2.out HB4.out) 10 _ rfl
  have s10 := HCB.out _ (below_then HV2.out HB4.out) 10 _ rfl
  have t10 := HCC.out _ HB4.out 10 _ rfl
  go_wp2_with fail
  all_goals
    refine (anchor_any _ (months_below H0.out.2.2 HW4.out) (H0.out.2.1.below HW4.out)).mono ?_
    rintro e wa ⟨rfl, hb⟩
    have HBa : Hid (Below w.heap.size w wa) := H0.out.1.trans ((below_then HW4.out hb).mono H0.out.1.size)
    clear hb
    go_wp2_with fail
    go_ret
    exact ⟨rfl, HBa.out⟩
set_option maxRecDepth 100000 in
set_option maxHeartbeats 2000000 in
theorem goes_ok_l (y mo d h mi s p dg zn : Int) (n m : Int) (w : World) (c0 : ¬ n < 0) (c1 : ¬ m < 0) (c2 : ¬ 1099511627776 < n) (c3 : ¬ 1099511627776 < m) (c4 : ¬ 1099511627776 < n + m) (hr : rightB 6 y mo d h mi s p dg zn false = true) (hk : atS (instI 6 y mo d h mi s p dg zn) n * 10000 = 3155378975990000) (hP : Pow w) (hM : Months w) : Calls Tryd.prog 8 #[.agg #[.int .i64 6, .int .i64 y, .int .i64 mo, .int .i64 d, .int .i64 h, .int .i64 mi, .int .i64 s, .int .i64 p, .int .i64 dg, .bool false, .int .i64 zn], .int .i64 n, .int .i64 m] w fun e w' => e = .returned (.bool true) ∧ Below w.heap.size w w' := by
  have HR : Hid (rightB 6 y mo d h mi s p dg zn false = true) := hr
  obtain ⟨i0, i1, i2⟩ := inst_6 hr
  obtain ⟨t0, ht0⟩ : ∃ t0, instI 6 y mo d h mi s p dg zn = t0 := ⟨_, rfl⟩
  rw [ht0] at i0 i1 i2 hk
  obtain ⟨A, hA⟩ : ∃ A, atS t0 n * 10000 = A := ⟨_, rfl⟩
  obtain ⟨g1, g2, _, g4⟩ := goes_num i0 i1 i2 (by omega : 0 ≤ n) (by omega : 0 ≤ m) hA.symm
  rw [hA] at hk
  have HT : Hid (instI 6 y mo d h mi s p dg zn = t0) := ht0
  have HA : Hid (atS t0 n * 10000 = A) := hA
  have HG : Hid (atS A m = atS t0 (n + m)) := g1
  clear hr i0 i1 i2 ht0 hA g1
  obtain ⟨w0, hw0⟩ : ∃ w0, w.alloc (.cells #[.int .i64 6, .int .i64 y, .int .i64 mo, .int .i64 d, .int .i64 h, .int .i64 mi, .int .i64 s, .int .i64 p, .int .i64 dg, .bool false, .int .i64 zn] 23) = w0 := ⟨_, rfl⟩
  have H0 : Hid (Below w.heap.size w w0 ∧ Pow w0 ∧ Months w0) := by
    have hb : Below w.heap.size w w0 := by rw [← hw0]; exact (Below.refl _ _).alloc (Nat.le_refl _) _
    exact ⟨hb, hP.below hb, months_below hM hb⟩
  have HC : Hid (∀ w1, Below w0.heap.size w0 w1 → ∀ j x, (#[.int .i64 6, .int .i64 y, .int .i64 mo, .int .i64 d, .int .i64 h, .int .i64 mi, .int .i64 s, .int .i64 p, .int .i64 dg, .bool false, .int .i64 zn] : Array Value)[j]? = some x → w1.cell? ⟨w.heap.size, j, none⟩ = some x) := fun w1 hb j x hx => stamp_cells 6 y mo d h mi s p dg zn false hw0 hb j x hx
  clear hP hM
  have q0 := HC.out w0 (Below.refl _ _) 0 _ rfl
  have q1 := HC.out w0 (Below.refl _ _) 1 _ rfl
  have q2 := HC.out w0 (Below.refl _ _) 2 _ rfl
  have q3 := HC.out w0 (Below.refl _ _) 3 _ rfl
  have q4 := HC.out w0 (Below.refl _ _) 4 _ rfl
  have q5 := HC.out w0 (Below.refl _ _) 5 _ rfl
  have q6 := HC.out w0 (Below.refl _ _) 6 _ rfl
  have q7 := HC.out w0 (Below.refl _ _) 7 _ rfl
  have q8 := HC.out w0 (Below.refl _ _) 8 _ rfl
  have q9 := HC.out w0 (Below.refl _ _) 9 _ rfl
  have q10 := HC.out w0 (Below.refl _ _) 10 _ rfl
  go_enter Tryd.func8, Tryd.ntmps8
  go_wp2_with fail
  refine (at_ok HR.out n _ H0.out.2.2 (by omega) (by omega)).mono ?_
  rintro e w1 ⟨⟨y1, m1, d1, he, hv1, hn1⟩, hb⟩
  rw [HT.out, HA.out] at he hn1
  rw [ofV6] at he
  subst hk
  obtain ⟨rfl, rfl, rfl⟩ := last_date hv1 hn1
  have HRA : Hid (rightB 6 9999 12 31 23 59 59 0 0 0 false = true) := of_right (t := 3155378975990000) hv1
  have HIA : Hid (instI 6 9999 12 31 23 59 59 0 0 0 = 3155378975990000) := by
    exact of_inst (S := 315537897599) hv1 hn1
  rw [show hourOf 3155378975990000 = 23 from by decide, show minuteOf 3155378975990000 = 59 from by decide, show secondOf 3155378975990000 = 59 from by decide] at he
  subst he
  obtain ⟨v0, hv0⟩ : ∃ v0, w1.alloc (.cells #[.int .i64 6, .int .i64 9999, .int .i64 12, .int .i64 31, .int .i64 23, .int .i64 59, .int .i64 59, .int .i64 0, .int .i64 0, .bool false, .int .i64 0] 23) = v0 := ⟨_, rfl⟩
  have HCA : Hid (∀ w', Below v0.heap.size v0 w' → ∀ j x, (#[.int .i64 6, .int .i64 9999, .int .i64 12, .int .i64 31, .int .i64 23, .int .i64 59, .int .i64 59, .int .i64 0, .int .i64 0, .bool false, .int .i64 0] : Array Value)[j]? = some x → w'.cell? ⟨w1.heap.size, j, none⟩ = some x) := fun w' hb j x hx => stamp_cells 6 9999 12 31 23 59 59 0 0 0 false hv0 hb j x hx
  have HB1 : Hid (Below w0.heap.size w0 v0) := by unfold Hid; rw [← hv0]; exact hb.alloc hb.size _
  have HE0 : Hid (w1.alloc (.cells #[.int .i64 6, .int .i64 9999, .int .i64 12, .int .i64 31, .int .i64 23, .int .i64 59, .int .i64 59, .int .i64 0, .int .i64 0, .bool false, .int .i64 0] 23) = v0) := hv0
  clear hb hv1 hn1 hv0
  clear q0 q1 q2 q3 q4 q5 q6 q7 q8 q9 q10
  go_wp2_with fail
  rw [HE0.out]
  clear HE0
  refine (at_ok HRA.out m _ (months_below H0.out.2.2 HB1.out) (by omega) (by omega)).mono ?_
  rintro e w2 ⟨⟨y2, m2, d2, he, hv2, hn2⟩, hb⟩
  rw [HIA.out, HG.out] at he hn2
  rw [ofV6] at he
  obtain ⟨B, hB⟩ : ∃ B, atS t0 (n + m) * 10000 = B := ⟨_, rfl⟩
  rw [hB] at he hn2
  have HBB : Hid (atS t0 (n + m) * 10000 = B) := hB
  obtain ⟨hb2, hhb⟩ : ∃ hb2, hourOf B = hb2 := ⟨_, rfl⟩
  obtain ⟨ib2, hib⟩ : ∃ ib2, minuteOf B = ib2 := ⟨_, rfl⟩
  obtain ⟨sb2, hsb⟩ : ∃ sb2, secondOf B = sb2 := ⟨_, rfl⟩
  rw [hhb, hib, hsb] at he
  subst he
  have HH : Hid (hourOf B = hb2 ∧ minuteOf B = ib2 ∧ secondOf B = sb2 ∧ vldB y2 m2 d2 = true ∧ num y2 m2 d2 = B / 864000000) := ⟨hhb, hib, hsb, hv2, hn2⟩
  clear hhb hib hsb hB hv2 hn2
  have HB2 : Hid (Below v0.heap.size v0 w2) := hb
  clear hb
  obtain ⟨v1, hv1⟩ : ∃ v1, w2.alloc (.cells #[.int .i64 6, .int .i64 y2, .int .i64 m2, .int .i64 d2, .int .i64 hb2, .int .i64 ib2, .int .i64 sb2, .int .i64 0, .int .i64 0, .bool false, .int .i64 0] 23) = v1 := ⟨_, rfl⟩
  have HCB : Hid (∀ w', Below v1.heap.size v1 w' → ∀ j x, (#[.int .i64 6, .int .i64 y2, .int .i64 m2, .int .i64 d2, .int .i64 hb2, .int .i64 ib2, .int .i64 sb2, .int .i64 0, .int .i64 0, .bool false, .int .i64 0] : Array Value)[j]? = some x → w'.cell? ⟨w2.heap.size, j, none⟩ = some x) := fun w' hb j x hx => stamp_cells 6 y2 m2 d2 hb2 ib2 sb2 0 0 0 false hv1 hb j x hx
  have HV1 : Hid (Below v0.heap.size v0 v1) := by unfold Hid; rw [← hv1]; exact HB2.out.alloc HB2.out.size _
  have HW1 : Hid (Below w0.heap.size w0 v1) := below_then HB1.out HV1.out
  have q0 := HC.out _ HW1.out 0 _ rfl
  have q1 := HC.out _ HW1.out 1 _ rfl
  have q2 := HC.out _ HW1.out 2 _ rfl
  have q3 := HC.out _ HW1.out 3 _ rfl
  have q4 := HC.out _ HW1.out 4 _ rfl
  have q5 := HC.out _ HW1.out 5 _ rfl
  have q6 := HC.out _ HW1.out 6 _ rfl
  have q7 := HC.out _ HW1.out 7 _ rfl
  have q8 := HC.out _ HW1.out 8 _ rfl
  have q9 := HC.out _ HW1.out 9 _ rfl
  have q10 := HC.out _ HW1.out 10 _ rfl
  have HE1 : Hid (w2.alloc (.cells #[.int .i64 6, .int .i64 y2, .int .i64 m2, .int .i64 d2, .int .i64 hb2, .int .i64 ib2, .int .i64 sb2, .int .i64 0, .int .i64 0, .bool false, .int .i64 0] 23) = v1) := hv1
  clear hv1
  rw [← HE1.out] at q0 q1 q2 q3 q4 q5 q6 q7 q8 q9 q10
  go_wp2_with fail
  rw [HE1.out]
  clear HE1 q0 q1 q2 q3 q4 q5 q6 q7 q8 q9 q10
  refine (at_ok HR.out (n + m) _ (months_below H0.out.2.2 HW1.out) (by omega) (by omega)).mono ?_
  rintro e w3 ⟨⟨y3, m3, d3, he, hv3, hn3⟩, hb⟩
  rw [HT.out, HBB.out] at he hn3
  obtain ⟨rfl, rfl, rfl⟩ := num_inj hv3 HH.out.2.2.2.1 (by rw [hn3]; exact HH.out.2.2.2.2.symm)
  rw [ofV6, HH.out.1, HH.out.2.1, HH.out.2.2.1] at he
  subst he
  have HB3 : Hid (Below v1.heap.size v1 w3) := hb
  clear hb hv3 hn3
  obtain ⟨v2, hv2⟩ : ∃ v2, w3.alloc (.cells #[.int .i64 6, .int .i64 y3, .int .i64 m3, .int .i64 d3, .int .i64 hb2, .int .i64 ib2, .int .i64 sb2, .int .i64 0, .int .i64 0, .bool false, .int .i64 0] 23) = v2 := ⟨_, rfl⟩
  have HCC : Hid (∀ w', Below v2.heap.size v2 w' → ∀ j x, (#[.int .i64 6, .int .i64 y3, .int .i64 m3, .int .i64 d3, .int .i64 hb2, .int .i64 ib2, .int .i64 sb2, .int .i64 0, .int .i64 0, .bool false, .int .i64 0] : Array Value)[j]? = some x → w'.cell? ⟨w3.heap.size, j, none⟩ = some x) := fun w' hb j x hx => stamp_cells 6 y3 m3 d3 hb2 ib2 sb2 0 0 0 false hv2 hb j x hx
  have HV2 : Hid (Below v1.heap.size v1 v2) := by unfold Hid; rw [← hv2]; exact HB3.out.alloc HB3.out.size _
  have HW2 : Hid (Below w0.heap.size w0 v2) := below_then HW1.out HV2.out
  have HA2 : Hid (Below v0.heap.size v0 v2) := below_then HV1.out HV2.out
  have q0 := HC.out _ HW2.out 0 _ rfl
  have r0 := HCA.out _ HA2.out 0 _ rfl
  have q1 := HC.out _ HW2.out 1 _ rfl
  have r1 := HCA.out _ HA2.out 1 _ rfl
  have q2 := HC.out _ HW2.out 2 _ rfl
  have r2 := HCA.out _ HA2.out 2 _ rfl
  have q3 := HC.out _ HW2.out 3 _ rfl
  have r3 := HCA.out _ HA2.out 3 _ rfl
  have q4 := HC.out _ HW2.out 4 _ rfl
  have r4 := HCA.out _ HA2.out 4 _ rfl
  have q5 := HC.out _ HW2.out 5 _ rfl
  have r5 := HCA.out _ HA2.out 5 _ rfl
  have q6 := HC.out _ HW2.out 6 _ rfl
  have r6 := HCA.out _ HA2.out 6 _ rfl
  have q7 := HC.out _ HW2.out 7 _ rfl
  have r7 := HCA.out _ HA2.out 7 _ rfl
  have q8 := HC.out _ HW2.out 8 _ rfl
  have r8 := HCA.out _ HA2.out 8 _ rfl
  have q9 := HC.out _ HW2.out 9 _ rfl
  have r9 := HCA.out _ HA2.out 9 _ rfl
  have q10 := HC.out _ HW2.out 10 _ rfl
  have r10 := HCA.out _ HA2.out 10 _ rfl
  have HE2 : Hid (w3.alloc (.cells #[.int .i64 6, .int .i64 y3, .int .i64 m3, .int .i64 d3, .int .i64 hb2, .int .i64 ib2, .int .i64 sb2, .int .i64 0, .int .i64 0, .bool false, .int .i64 0] 23) = v2) := hv2
  clear hv2
  rw [← HE2.out] at q0 r0 q1 r1 q2 r2 q3 r3 q4 r4 q5 r5 q6 r6 q7 r7 q8 r8 q9 r9 q10 r10
  go_wp2_with fail
  rw [HE2.out]
  clear HE2 q0 r0 q1 r1 q2 r2 q3 r3 q4 r4 q5 r5 q6 r6 q7 r7 q8 r8 q9 r9 q10 r10
  refine (Ticks_ok HR.out HRA.out _ (months_below H0.out.2.2 HW2.out)).mono ?_
  rintro e w4 ⟨he, hb⟩
  rw [HIA.out, HT.out] at he
  obtain ⟨k, hk⟩ : ∃ k, (3155378975990000 - t0) / 10000 = k := ⟨_, rfl⟩
  rw [hk] at he g2
  subst he
  clear hk
  have HB4 : Hid (Below v2.heap.size v2 w4) := hb
  have HW4 : Hid (Below w0.heap.size w0 w4) := below_then HW2.out hb
  clear hb
  have r0 := HCA.out _ (below_then HA2.out HB4.out) 0 _ rfl
  have s0 := HCB.out _ (below_then HV2.out HB4.out) 0 _ rfl
  have t0 := HCC.out _ HB4.out 0 _ rfl
  have r1 := HCA.out _ (below_then HA2.out HB4.out) 1 _ rfl
  have s1 := HCB.out _ (below_then HV2.out HB4.out) 1 _ rfl
  have t1 := HCC.out _ HB4.out 1 _ rfl
  have r2 := HCA.out _ (below_then HA2.out HB4.out) 2 _ rfl
  have s2 := HCB.out _ (below_then HV2.out HB4.out) 2 _ rfl
  have t2 := HCC.out _ HB4.out 2 _ rfl
  have r3 := HCA.out _ (below_then HA2.out HB4.out) 3 _ rfl
  have s3 := HCB.out _ (below_then HV2.out HB4.out) 3 _ rfl
  have t3 := HCC.out _ HB4.out 3 _ rfl
  have r4 := HCA.out _ (below_then HA2.out HB4.out) 4 _ rfl
  have s4 := HCB.out _ (below_then HV2.out HB4.out) 4 _ rfl
  have t4 := HCC.out _ HB4.out 4 _ rfl
  have r5 := HCA.out _ (below_then HA2.out HB4.out) 5 _ rfl
  have s5 := HCB.out _ (below_then HV2.out HB4.out) 5 _ rfl
  have t5 := HCC.out _ HB4.out 5 _ rfl
  have r6 := HCA.out _ (below_then HA2.out HB4.out) 6 _ rfl
  have s6 := HCB.out _ (below_then HV2.out HB4.out) 6 _ rfl
  have t6 := HCC.out _ HB4.out 6 _ rfl
  have r7 := HCA.out _ (below_then HA2.out HB4.out) 7 _ rfl
  have s7 := HCB.out _ (below_then HV2.out HB4.out) 7 _ rfl
  have t7 := HCC.out _ HB4.out 7 _ rfl
  have r8 := HCA.out _ (below_then HA2.out HB4.out) 8 _ rfl
  have s8 := HCB.out _ (below_then HV2.out HB4.out) 8 _ rfl
  have t8 := HCC.out _ HB4.out 8 _ rfl
  have r9 := HCA.out _ (below_then HA2.out HB4.out) 9 _ rfl
  have s9 := HCB.out _ (below_then HV2.out HB4.out) 9 _ rfl
  have t9 := HCC.out _ HB4.out 9 _ rfl
  have r10 := HCA.out _ (below_then HA2.out HB4.out) 10 _ rfl
  have s10 := HCB.out _ (below_then HV2.out HB4.out) 10 _ rfl
  have t10 := HCC.out _ HB4.out 10 _ rfl
  go_wp2_with fail
  all_goals
    refine (anchor_any _ (months_below H0.out.2.2 HW4.out) (H0.out.2.1.below HW4.out)).mono ?_
    rintro e wa ⟨rfl, hb⟩
    have HBa : Hid (Below w.heap.size w wa) := H0.out.1.trans ((below_then HW4.out hb).mono H0.out.1.size)
    clear hb
    go_wp2_with fail
    go_ret
    exact ⟨rfl, HBa.out⟩
theorem goes_any (lv y mo d h mi s p dg zn : Int) (z : Bool) (n m : Int) (w : World) (hP : Pow w) (hM : Months w) : Calls Tryd.prog 8 #[.agg #[.int .i64 lv, .int .i64 y, .int .i64 mo, .int .i64 d, .int .i64 h, .int .i64 mi, .int .i64 s, .int .i64 p, .int .i64 dg, .bool z, .int .i64 zn], .int .i64 n, .int .i64 m] w fun e w' => e = .returned (.bool true) ∧ Below w.heap.size w w' := by
  by_cases c0 : n < 0
  · exact goes_out_a _ _ _ _ _ _ _ _ _ _ _ _ _ w c0 hP hM
  by_cases c1 : m < 0
  · exact goes_out_b _ _ _ _ _ _ _ _ _ _ _ _ _ w c0 c1 hP hM
  by_cases c2 : 1099511627776 < n
  · exact goes_out_c _ _ _ _ _ _ _ _ _ _ _ _ _ w c0 c1 c2 hP hM
  by_cases c3 : 1099511627776 < m
  · exact goes_out_d _ _ _ _ _ _ _ _ _ _ _ _ _ w c0 c1 c2 c3 hP hM
  by_cases c4 : 1099511627776 < n + m
  · exact goes_out_e _ _ _ _ _ _ _ _ _ _ _ _ _ w c0 c1 c2 c3 c4 hP hM
  by_cases hb : rightB lv y mo d h mi s p dg zn z = true ∧ lv = 6 ∧ z = false
  · obtain ⟨hr, rfl, rfl⟩ := hb
    obtain ⟨i0, i1, i2⟩ := inst_6 hr
    obtain ⟨_, _, g3, _⟩ := goes_num i0 i1 i2 (by omega : 0 ≤ n) (by omega : 0 ≤ m) rfl
    rcases g3 with g | g
    · exact goes_ok_n _ _ _ _ _ _ _ _ _ _ _ w c0 c1 c2 c3 c4 hr g hP hM
    · exact goes_ok_l _ _ _ _ _ _ _ _ _ _ _ w c0 c1 c2 c3 c4 hr g hP hM
  · exact goes_err _ _ _ _ _ _ _ _ _ _ _ _ _ w c0 c1 c2 c3 c4 hb hP hM
end Go.Proofs.YtpcdkafjogpdkaaDoor
