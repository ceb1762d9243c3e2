/-
  StampOrder's walks: N3a.
-/
import Derived.Test.YtpcdkafjogpdkaaDoorOrderBase
namespace Go.Proofs.YtpcdkafjogpdkaaDoor
open Go.RowKit

set_option maxRecDepth 100000 in
set_option maxHeartbeats 2000000 in
theorem order_N3a_0 (la ya ma da ha ia sa pa ga oa yb mb db hb ib sb pb ob lc yc mc dc hc ic sc pc gc oc : Int) (zc : Bool) (w : World) (h0 : rightB la ya ma da ha ia sa pa ga oa true = true) (h1 : rightB la yb mb db hb ib sb pb ga ob false = true) (h2 : rightB lc yc mc dc hc ic sc pc gc oc zc = true) (hab : instI la ya ma da ha ia sa pa ga oa < instI la yb mb db hb ib sb pb ga ob) (hbc : instI la yb mb db hb ib sb pb ga ob ≤ instI lc yc mc dc hc ic sc pc gc oc) (hP : Pow w) (hM : Months w) : Calls Tryd.prog 7 #[.agg #[.int .i64 la, .int .i64 ya, .int .i64 ma, .int .i64 da, .int .i64 ha, .int .i64 ia, .int .i64 sa, .int .i64 pa, .int .i64 ga, .bool true, .int .i64 oa], .agg #[.int .i64 la, .int .i64 yb, .int .i64 mb, .int .i64 db, .int .i64 hb, .int .i64 ib, .int .i64 sb, .int .i64 pb, .int .i64 ga, .bool false, .int .i64 ob], .agg #[.int .i64 lc, .int .i64 yc, .int .i64 mc, .int .i64 dc, .int .i64 hc, .int .i64 ic, .int .i64 sc, .int .i64 pc, .int .i64 gc, .bool zc, .int .i64 oc]] w fun e w' => e = .returned (.bool true) ∧ Below w.heap.size w w' := by
  have HRA : Hid (rightB la ya ma da ha ia sa pa ga oa true = true) := h0
  have HRB : Hid (rightB la yb mb db hb ib sb pb ga ob false = true) := h1
  have HRC : Hid (rightB lc yc mc dc hc ic sc pc gc oc zc = true) := h2
  have lpa := len_pos la ya ma ga
  have lpb := len_pos la yb mb ga
  clear h0 h2 h1
  obtain ⟨ta, hta⟩ : ∃ t, instI la ya ma da ha ia sa pa ga oa = t := ⟨_, rfl⟩
  obtain ⟨Ya, hya⟩ : ∃ t, instI la ya ma da ha ia sa pa ga oa + lenI la ya ma ga - 1 = t := ⟨_, rfl⟩
  obtain ⟨tb, htb⟩ : ∃ t, instI la yb mb db hb ib sb pb ga ob = t := ⟨_, rfl⟩
  obtain ⟨Yb, hyb⟩ : ∃ t, instI la yb mb db hb ib sb pb ga ob + lenI la yb mb ga - 1 = t := ⟨_, rfl⟩
  obtain ⟨tc, htc⟩ : ∃ t, instI lc yc mc dc hc ic sc pc gc oc = t := ⟨_, rfl⟩
  rw [hta, htb] at hab
  rw [htb, htc] at hbc
  have hxa : ta ≤ Ya := by omega
  have hxb : tb ≤ Yb := by omega
  have HEQ : Hid (instI la ya ma da ha ia sa pa ga oa = ta ∧ instI lc yc mc dc hc ic sc pc gc oc = tc ∧ instI la yb mb db hb ib sb pb ga ob = tb ∧ instI la ya ma da ha ia sa pa ga oa + lenI la ya ma ga - 1 = Ya ∧ instI la yb mb db hb ib sb pb ga ob + lenI la yb mb ga - 1 = Yb) := ⟨hta, htc, htb, hya, hyb⟩
  clear lpa hta htc hya lpb htb hyb
  have HAB : Hid (cmpI ta tb = (-1)) := (cmp_lt (by omega)).symm
  have HBA : Hid (cmpI tb ta = 1) := (cmp_gt (by omega)).symm
  obtain ⟨Bv, hBv⟩ : ∃ v, cmpI tb tc = v := ⟨_, rfl⟩
  have hB : Bv ≤ 0 := by rw [← hBv]; unfold cmpI; split <;> (try split) <;> omega
  have HBC : Hid (cmpI tb tc = Bv) := hBv
  clear hBv
  have HAC : Hid (cmpI ta tc = (-1)) := (cmp_lt (by omega)).symm
  clear hbc
  obtain ⟨w0, hw0⟩ : ∃ w0, ((w.alloc (.cells #[.int .i64 la, .int .i64 ya, .int .i64 ma, .int .i64 da, .int .i64 ha, .int .i64 ia, .int .i64 sa, .int .i64 pa, .int .i64 ga, .bool true, .int .i64 oa] 23)).alloc (.cells #[.int .i64 la, .int .i64 yb, .int .i64 mb, .int .i64 db, .int .i64 hb, .int .i64 ib, .int .i64 sb, .int .i64 pb, .int .i64 ga, .bool false, .int .i64 ob] 23)).alloc (.cells #[.int .i64 lc, .int .i64 yc, .int .i64 mc, .int .i64 dc, .int .i64 hc, .int .i64 ic, .int .i64 sc, .int .i64 pc, .int .i64 gc, .bool zc, .int .i64 oc] 23) = w0 := ⟨_, rfl⟩
  have H0 : Hid (Below w.heap.size w w0 ∧ Pow w0 ∧ Months w0) := by
    have hb : Below w.heap.size w w0 := by rw [← hw0]; exact (((Below.refl _ _).alloc (Nat.le_refl _) _).alloc (by simp) _).alloc (by simp; omega) _
    exact ⟨hb, hP.below hb, months_below hM hb⟩
  have HC : Hid (∀ w1, Below w0.heap.size w0 w1 → (∀ j x, (#[.int .i64 la, .int .i64 ya, .int .i64 ma, .int .i64 da, .int .i64 ha, .int .i64 ia, .int .i64 sa, .int .i64 pa, .int .i64 ga, .bool true, .int .i64 oa] : Array Value)[j]? = some x → w1.cell? ⟨w.heap.size, j, none⟩ = some x) ∧ (∀ j x, (#[.int .i64 la, .int .i64 yb, .int .i64 mb, .int .i64 db, .int .i64 hb, .int .i64 ib, .int .i64 sb, .int .i64 pb, .int .i64 ga, .bool false, .int .i64 ob] : Array Value)[j]? = some x → w1.cell? ⟨w.heap.size + 1, j, none⟩ = some x) ∧ (∀ j x, (#[.int .i64 lc, .int .i64 yc, .int .i64 mc, .int .i64 dc, .int .i64 hc, .int .i64 ic, .int .i64 sc, .int .i64 pc, .int .i64 gc, .bool zc, .int .i64 oc] : Array Value)[j]? = some x → w1.cell? ⟨w.heap.size + 2, j, none⟩ = some x)) := fun w1 hb => three_cells hw0 hb
  clear hP hM
  have HB0 : Hid (Below w0.heap.size w0 w0) := Below.refl _ _
  have q0 := (HC.out w0 HB0.out).1 0 _ rfl
  have q1 := (HC.out w0 HB0.out).1 1 _ rfl
  have q2 := (HC.out w0 HB0.out).1 2 _ rfl
  have q3 := (HC.out w0 HB0.out).1 3 _ rfl
  have q4 := (HC.out w0 HB0.out).1 4 _ rfl
  have q5 := (HC.out w0 HB0.out).1 5 _ rfl
  have q6 := (HC.out w0 HB0.out).1 6 _ rfl
  have q7 := (HC.out w0 HB0.out).1 7 _ rfl
  have q8 := (HC.out w0 HB0.out).1 8 _ rfl
  have q9 := (HC.out w0 HB0.out).1 9 _ rfl
  have q10 := (HC.out w0 HB0.out).1 10 _ rfl
  have r0 := (HC.out w0 HB0.out).2.1 0 _ rfl
  have r1 := (HC.out w0 HB0.out).2.1 1 _ rfl
  have r2 := (HC.out w0 HB0.out).2.1 2 _ rfl
  have r3 := (HC.out w0 HB0.out).2.1 3 _ rfl
  have r4 := (HC.out w0 HB0.out).2.1 4 _ rfl
  have r5 := (HC.out w0 HB0.out).2.1 5 _ rfl
  have r6 := (HC.out w0 HB0.out).2.1 6 _ rfl
  have r7 := (HC.out w0 HB0.out).2.1 7 _ rfl
  have r8 := (HC.out w0 HB0.out).2.1 8 _ rfl
  have r9 := (HC.out w0 HB0.out).2.1 9 _ rfl
  have r10 := (HC.out w0 HB0.out).2.1 10 _ rfl
  have u0 := (HC.out w0 HB0.out).2.2 0 _ rfl
  have u1 := (HC.out w0 HB0.out).2.2 1 _ rfl
  have u2 := (HC.out w0 HB0.out).2.2 2 _ rfl
  have u3 := (HC.out w0 HB0.out).2.2 3 _ rfl
  have u4 := (HC.out w0 HB0.out).2.2 4 _ rfl
  have u5 := (HC.out w0 HB0.out).2.2 5 _ rfl
  have u6 := (HC.out w0 HB0.out).2.2 6 _ rfl
  have u7 := (HC.out w0 HB0.out).2.2 7 _ rfl
  have u8 := (HC.out w0 HB0.out).2.2 8 _ rfl
  have u9 := (HC.out w0 HB0.out).2.2 9 _ rfl
  have u10 := (HC.out w0 HB0.out).2.2 10 _ rfl
  go_enter Tryd.func7, Tryd.ntmps7
  go_wp2_with fail
  refine (lright_is HRA.out _ (months_below H0.out.2.2 HB0.out) (H0.out.2.1.below HB0.out)).mono ?_
  rintro e w1 ⟨he, hb⟩
  subst he
  have HB1 : Hid (Below w0.heap.size w0 w1) := below_then HB0.out hb
  clear hb HB0
  clear q0 q1 q2 q3 q4 q5 q6 q7 q8 q9 q10 r0 r1 r2 r3 r4 r5 r6 r7 r8 r9 r10 u0 u1 u2 u3 u4 u5 u6 u7 u8 u9 u10
  have q0 := (HC.out w1 HB1.out).1 0 _ rfl
  have q1 := (HC.out w1 HB1.out).1 1 _ rfl
  have q2 := (HC.out w1 HB1.out).1 2 _ rfl
  have q3 := (HC.out w1 HB1.out).1 3 _ rfl
  have q4 := (HC.out w1 HB1.out).1 4 _ rfl
  have q5 := (HC.out w1 HB1.out).1 5 _ rfl
  have q6 := (HC.out w1 HB1.out).1 6 _ rfl
  have q7 := (HC.out w1 HB1.out).1 7 _ rfl
  have q8 := (HC.out w1 HB1.out).1 8 _ rfl
  have q9 := (HC.out w1 HB1.out).1 9 _ rfl
  have q10 := (HC.out w1 HB1.out).1 10 _ rfl
  have r0 := (HC.out w1 HB1.out).2.1 0 _ rfl
  have r1 := (HC.out w1 HB1.out).2.1 1 _ rfl
  have r2 := (HC.out w1 HB1.out).2.1 2 _ rfl
  have r3 := (HC.out w1 HB1.out).2.1 3 _ rfl
  have r4 := (HC.out w1 HB1.out).2.1 4 _ rfl
  have r5 := (HC.out w1 HB1.out).2.1 5 _ rfl
  have r6 := (HC.out w1 HB1.out).2.1 6 _ rfl
  have r7 := (HC.out w1 HB1.out).2.1 7 _ rfl
  have r8 := (HC.out w1 HB1.out).2.1 8 _ rfl
  have r9 := (HC.out w1 HB1.out).2.1 9 _ rfl
  have r10 := (HC.out w1 HB1.out).2.1 10 _ rfl
  have u0 := (HC.out w1 HB1.out).2.2 0 _ rfl
  have u1 := (HC.out w1 HB1.out).2.2 1 _ rfl
  have u2 := (HC.out w1 HB1.out).2.2 2 _ rfl
  have u3 := (HC.out w1 HB1.out).2.2 3 _ rfl
  have u4 := (HC.out w1 HB1.out).2.2 4 _ rfl
  have u5 := (HC.out w1 HB1.out).2.2 5 _ rfl
  have u6 := (HC.out w1 HB1.out).2.2 6 _ rfl
  have u7 := (HC.out w1 HB1.out).2.2 7 _ rfl
  have u8 := (HC.out w1 HB1.out).2.2 8 _ rfl
  have u9 := (HC.out w1 HB1.out).2.2 9 _ rfl
  have u10 := (HC.out w1 HB1.out).2.2 10 _ rfl
  go_wp2_with fail
  refine (lright_is HRB.out _ (months_below H0.out.2.2 HB1.out) (H0.out.2.1.below HB1.out)).mono ?_
  rintro e w2 ⟨he, hb⟩
  subst he
  have HB2 : Hid (Below w0.heap.size w0 w2) := below_then HB1.out hb
  clear hb HB1
  clear q0 q1 q2 q3 q4 q5 q6 q7 q8 q9 q10 r0 r1 r2 r3 r4 r5 r6 r7 r8 r9 r10 u0 u1 u2 u3 u4 u5 u6 u7 u8 u9 u10
  have q0 := (HC.out w2 HB2.out).1 0 _ rfl
  have q1 := (HC.out w2 HB2.out).1 1 _ rfl
  have q2 := (HC.out w2 HB2.out).1 2 _ rfl
  have q3 := (HC.out w2 HB2.out).1 3 _ rfl
  have q4 := (HC.out w2 HB2.out).1 4 _ rfl
  have q5 := (HC.out w2 HB2.out).1 5 _ rfl
  have q6 := (HC.out w2 HB2.out).1 6 _ rfl
  have q7 := (HC.out w2 HB2.out).1 7 _ rfl
  have q8 := (HC.out w2 HB2.out).1 8 _ rfl
  have q9 := (HC.out w2 HB2.out).1 9 _ rfl
  have q10 := (HC.out w2 HB2.out).1 10 _ rfl
  have r0 := (HC.out w2 HB2.out).2.1 0 _ rfl
  have r1 := (HC.out w2 HB2.out).2.1 1 _ rfl
  have r2 := (HC.out w2 HB2.out).2.1 2 _ rfl
  have r3 := (HC.out w2 HB2.out).2.1 3 _ rfl
  have r4 := (HC.out w2 HB2.out).2.1 4 _ rfl
  have r5 := (HC.out w2 HB2.out).2.1 5 _ rfl
  have r6 := (HC.out w2 HB2.out).2.1 6 _ rfl
  have r7 := (HC.out w2 HB2.out).2.1 7 _ rfl
  have r8 := (HC.out w2 HB2.out).2.1 8 _ rfl
  have r9 := (HC.out w2 HB2.out).2.1 9 _ rfl
  have r10 := (HC.out w2 HB2.out).2.1 10 _ rfl
  have u0 := (HC.out w2 HB2.out).2.2 0 _ rfl
  have u1 := (HC.out w2 HB2.out).2.2 1 _ rfl
  have u2 := (HC.out w2 HB2.out).2.2 2 _ rfl
  have u3 := (HC.out w2 HB2.out).2.2 3 _ rfl
  have u4 := (HC.out w2 HB2.out).2.2 4 _ rfl
  have u5 := (HC.out w2 HB2.out).2.2 5 _ rfl
  have u6 := (HC.out w2 HB2.out).2.2 6 _ rfl
  have u7 := (HC.out w2 HB2.out).2.2 7 _ rfl
  have u8 := (HC.out w2 HB2.out).2.2 8 _ rfl
  have u9 := (HC.out w2 HB2.out).2.2 9 _ rfl
  have u10 := (HC.out w2 HB2.out).2.2 10 _ rfl
  go_wp2_with fail
  refine (lright_is HRC.out _ (months_below H0.out.2.2 HB2.out) (H0.out.2.1.below HB2.out)).mono ?_
  rintro e w3 ⟨he, hb⟩
  subst he
  have HB3 : Hid (Below w0.heap.size w0 w3) := below_then HB2.out hb
  clear hb HB2
  clear q0 q1 q2 q3 q4 q5 q6 q7 q8 q9 q10 r0 r1 r2 r3 r4 r5 r6 r7 r8 r9 r10 u0 u1 u2 u3 u4 u5 u6 u7 u8 u9 u10
  have q0 := (HC.out w3 HB3.out).1 0 _ rfl
  have q1 := (HC.out w3 HB3.out).1 1 _ rfl
  have q2 := (HC.out w3 HB3.out).1 2 _ rfl
  have q3 := (HC.out w3 HB3.out).1 3 _ rfl
  have q4 := (HC.out w3 HB3.out).1 4 _ rfl
  have q5 := (HC.out w3 HB3.out).1 5 _ rfl
  have q6 := (HC.out w3 HB3.out).1 6 _ rfl
  have q7 := (HC.out w3 HB3.out).1 7 _ rfl
  have q8 := (HC.out w3 HB3.out).1 8 _ rfl
  have q9 := (HC.out w3 HB3.out).1 9 _ rfl
  have q10 := (HC.out w3 HB3.out).1 10 _ rfl
  have r0 := (HC.out w3 HB3.out).2.1 0 _ rfl
  have r1 := (HC.out w3 HB3.out).2.1 1 _ rfl
  have r2 := (HC.out w3 HB3.out).2.1 2 _ rfl
  have r3 := (HC.out w3 HB3.out).2.1 3 _ rfl
  have r4 := (HC.out w3 HB3.out).2.1 4 _ rfl
  have r5 := (HC.out w3 HB3.out).2.1 5 _ rfl
  have r6 := (HC.out w3 HB3.out).2.1 6 _ rfl
  have r7 := (HC.out w3 HB3.out).2.1 7 _ rfl
  have r8 := (HC.out w3 HB3.out).2.1 8 _ rfl
  have r9 := (HC.out w3 HB3.out).2.1 9 _ rfl
  have r10 := (HC.out w3 HB3.out).2.1 10 _ rfl
  have u0 := (HC.out w3 HB3.out).2.2 0 _ rfl
  have u1 := (HC.out w3 HB3.out).2.2 1 _ rfl
  have u2 := (HC.out w3 HB3.out).2.2 2 _ rfl
  have u3 := (HC.out w3 HB3.out).2.2 3 _ rfl
  have u4 := (HC.out w3 HB3.out).2.2 4 _ rfl
  have u5 := (HC.out w3 HB3.out).2.2 5 _ rfl
  have u6 := (HC.out w3 HB3.out).2.2 6 _ rfl
  have u7 := (HC.out w3 HB3.out).2.2 7 _ rfl
  have u8 := (HC.out w3 HB3.out).2.2 8 _ rfl
  have u9 := (HC.out w3 HB3.out).2.2 9 _ rfl
  have u10 := (HC.out w3 HB3.out).2.2 10 _ rfl
  go_wp2_with fail
  refine (Compare_ok HRA.out HRB.out _ (months_below H0.out.2.2 HB3.out)).mono ?_
  rintro e w4 ⟨he, hb⟩
  rw [HEQ.out.1, HEQ.out.2.2.1, HAB.out] at he
  subst he
  have HB4 : Hid (Below w0.heap.size w0 w4) := below_then HB3.out hb
  clear hb HB3
  clear q0 q1 q2 q3 q4 q5 q6 q7 q8 q9 q10 r0 r1 r2 r3 r4 r5 r6 r7 r8 r9 r10 u0 u1 u2 u3 u4 u5 u6 u7 u8 u9 u10
  have q0 := (HC.out w4 HB4.out).1 0 _ rfl
  have q1 := (HC.out w4 HB4.out).1 1 _ rfl
  have q2 := (HC.out w4 HB4.out).1 2 _ rfl
  have q3 := (HC.out w4 HB4.out).1 3 _ rfl
  have q4 := (HC.out w4 HB4.out).1 4 _ rfl
  have q5 := (HC.out w4 HB4.out).1 5 _ rfl
  have q6 := (HC.out w4 HB4.out).1 6 _ rfl
  have q7 := (HC.out w4 HB4.out).1 7 _ rfl
  have q8 := (HC.out w4 HB4.out).1 8 _ rfl
  have q9 := (HC.out w4 HB4.out).1 9 _ rfl
  have q10 := (HC.out w4 HB4.out).1 10 _ rfl
  have r0 := (HC.out w4 HB4.out).2.1 0 _ rfl
  have r1 := (HC.out w4 HB4.out).2.1 1 _ rfl
  have r2 := (HC.out w4 HB4.out).2.1 2 _ rfl
  have r3 := (HC.out w4 HB4.out).2.1 3 _ rfl
  have r4 := (HC.out w4 HB4.out).2.1 4 _ rfl
  have r5 := (HC.out w4 HB4.out).2.1 5 _ rfl
  have r6 := (HC.out w4 HB4.out).2.1 6 _ rfl
  have r7 := (HC.out w4 HB4.out).2.1 7 _ rfl
  have r8 := (HC.out w4 HB4.out).2.1 8 _ rfl
  have r9 := (HC.out w4 HB4.out).2.1 9 _ rfl
  have r10 := (HC.out w4 HB4.out).2.1 10 _ rfl
  have u0 := (HC.out w4 HB4.out).2.2 0 _ rfl
  have u1 := (HC.out w4 HB4.out).2.2 1 _ rfl
  have u2 := (HC.out w4 HB4.out).2.2 2 _ rfl
  have u3 := (HC.out w4 HB4.out).2.2 3 _ rfl
  have u4 := (HC.out w4 HB4.out).2.2 4 _ rfl
  have u5 := (HC.out w4 HB4.out).2.2 5 _ rfl
  have u6 := (HC.out w4 HB4.out).2.2 6 _ rfl
  have u7 := (HC.out w4 HB4.out).2.2 7 _ rfl
  have u8 := (HC.out w4 HB4.out).2.2 8 _ rfl
  have u9 := (HC.out w4 HB4.out).2.2 9 _ rfl
  have u10 := (HC.out w4 HB4.out).2.2 10 _ rfl
  go_wp2_with fail
  refine (Compare_ok HRB.out HRA.out _ (months_below H0.out.2.2 HB4.out)).mono ?_
  rintro e w5 ⟨he, hb⟩
  rw [HEQ.out.2.2.1, HEQ.out.1, HBA.out] at he
  subst he
  have HB5 : Hid (Below w0.heap.size w0 w5) := below_then HB4.out hb
  clear hb HB4
  clear q0 q1 q2 q3 q4 q5 q6 q7 q8 q9 q10 r0 r1 r2 r3 r4 r5 r6 r7 r8 r9 r10 u0 u1 u2 u3 u4 u5 u6 u7 u8 u9 u10
  have q0 := (HC.out w5 HB5.out).1 0 _ rfl
  have q1 := (HC.out w5 HB5.out).1 1 _ rfl
  have q2 := (HC.out w5 HB5.out).1 2 _ rfl
  have q3 := (HC.out w5 HB5.out).1 3 _ rfl
  have q4 := (HC.out w5 HB5.out).1 4 _ rfl
  have q5 := (HC.out w5 HB5.out).1 5 _ rfl
  have q6 := (HC.out w5 HB5.out).1 6 _ rfl
  have q7 := (HC.out w5 HB5.out).1 7 _ rfl
  have q8 := (HC.out w5 HB5.out).1 8 _ rfl
  have q9 := (HC.out w5 HB5.out).1 9 _ rfl
  have q10 := (HC.out w5 HB5.out).1 10 _ rfl
  have r0 := (HC.out w5 HB5.out).2.1 0 _ rfl
  have r1 := (HC.out w5 HB5.out).2.1 1 _ rfl
  have r2 := (HC.out w5 HB5.out).2.1 2 _ rfl
  have r3 := (HC.out w5 HB5.out).2.1 3 _ rfl
  have r4 := (HC.out w5 HB5.out).2.1 4 _ rfl
  have r5 := (HC.out w5 HB5.out).2.1 5 _ rfl
  have r6 := (HC.out w5 HB5.out).2.1 6 _ rfl
  have r7 := (HC.out w5 HB5.out).2.1 7 _ rfl
  have r8 := (HC.out w5 HB5.out).2.1 8 _ rfl
  have r9 := (HC.out w5 HB5.out).2.1 9 _ rfl
  have r10 := (HC.out w5 HB5.out).2.1 10 _ rfl
  have u0 := (HC.out w5 HB5.out).2.2 0 _ rfl
  have u1 := (HC.out w5 HB5.out).2.2 1 _ rfl
  have u2 := (HC.out w5 HB5.out).2.2 2 _ rfl
  have u3 := (HC.out w5 HB5.out).2.2 3 _ rfl
  have u4 := (HC.out w5 HB5.out).2.2 4 _ rfl
  have u5 := (HC.out w5 HB5.out).2.2 5 _ rfl
  have u6 := (HC.out w5 HB5.out).2.2 6 _ rfl
  have u7 := (HC.out w5 HB5.out).2.2 7 _ rfl
  have u8 := (HC.out w5 HB5.out).2.2 8 _ rfl
  have u9 := (HC.out w5 HB5.out).2.2 9 _ rfl
  have u10 := (HC.out w5 HB5.out).2.2 10 _ rfl
  go_wp2_with fail
  refine (Compare_ok HRB.out HRC.out _ (months_below H0.out.2.2 HB5.out)).mono ?_
  rintro e w6 ⟨he, hb⟩
  rw [HEQ.out.2.2.1, HEQ.out.2.1, HBC.out] at he
  subst he
  have HB6 : Hid (Below w0.heap.size w0 w6) := below_then HB5.out hb
  clear hb HB5
  clear q0 q1 q2 q3 q4 q5 q6 q7 q8 q9 q10 r0 r1 r2 r3 r4 r5 r6 r7 r8 r9 r10 u0 u1 u2 u3 u4 u5 u6 u7 u8 u9 u10
  have q0 := (HC.out w6 HB6.out).1 0 _ rfl
  have q1 := (HC.out w6 HB6.out).1 1 _ rfl
  have q2 := (HC.out w6 HB6.out).1 2 _ rfl
  have q3 := (HC.out w6 HB6.out).1 3 _ rfl
  have q4 := (HC.out w6 HB6.out).1 4 _ rfl
  have q5 := (HC.out w6 HB6.out).1 5 _ rfl
  have q6 := (HC.out w6 HB6.out).1 6 _ rfl
  have q7 := (HC.out w6 HB6.out).1 7 _ rfl
  have q8 := (HC.out w6 HB6.out).1 8 _ rfl
  have q9 := (HC.out w6 HB6.out).1 9 _ rfl
  have q10 := (HC.out w6 HB6.out).1 10 _ rfl
  have r0 := (HC.out w6 HB6.out).2.1 0 _ rfl
  have r1 := (HC.out w6 HB6.out).2.1 1 _ rfl
  have r2 := (HC.out w6 HB6.out).2.1 2 _ rfl
  have r3 := (HC.out w6 HB6.out).2.1 3 _ rfl
  have r4 := (HC.out w6 HB6.out).2.1 4 _ rfl
  have r5 := (HC.out w6 HB6.out).2.1 5 _ rfl
  have r6 := (HC.out w6 HB6.out).2.1 6 _ rfl
  have r7 := (HC.out w6 HB6.out).2.1 7 _ rfl
  have r8 := (HC.out w6 HB6.out).2.1 8 _ rfl
  have r9 := (HC.out w6 HB6.out).2.1 9 _ rfl
  have r10 := (HC.out w6 HB6.out).2.1 10 _ rfl
  have u0 := (HC.out w6 HB6.out).2.2 0 _ rfl
  have u1 := (HC.out w6 HB6.out).2.2 1 _ rfl
  have u2 := (HC.out w6 HB6.out).2.2 2 _ rfl
  have u3 := (HC.out w6 HB6.out).2.2 3 _ rfl
  have u4 := (HC.out w6 HB6.out).2.2 4 _ rfl
  have u5 := (HC.out w6 HB6.out).2.2 5 _ rfl
  have u6 := (HC.out w6 HB6.out).2.2 6 _ rfl
  have u7 := (HC.out w6 HB6.out).2.2 7 _ rfl
  have u8 := (HC.out w6 HB6.out).2.2 8 _ rfl
  have u9 := (HC.out w6 HB6.out).2.2 9 _ rfl
  have u10 := (HC.out w6 HB6.out).2.2 10 _ rfl
  go_wp2_with fail
  refine (Compare_ok HRA.out HRC.out _ (months_below H0.out.2.2 HB6.out)).mono ?_
  rintro e w7 ⟨he, hb⟩
  rw [HEQ.out.1, HEQ.out.2.1, HAC.out] at he
  subst he
  have HB7 : Hid (Below w0.heap.size w0 w7) := below_then HB6.out hb
  clear hb HB6
  clear q0 q1 q2 q3 q4 q5 q6 q7 q8 q9 q10 r0 r1 r2 r3 r4 r5 r6 r7 r8 r9 r10 u0 u1 u2 u3 u4 u5 u6 u7 u8 u9 u10
  have q0 := (HC.out w7 HB7.out).1 0 _ rfl
  have q1 := (HC.out w7 HB7.out).1 1 _ rfl
  have q2 := (HC.out w7 HB7.out).1 2 _ rfl
  have q3 := (HC.out w7 HB7.out).1 3 _ rfl
  have q4 := (HC.out w7 HB7.out).1 4 _ rfl
  have q5 := (HC.out w7 HB7.out).1 5 _ rfl
  have q6 := (HC.out w7 HB7.out).1 6 _ rfl
  have q7 := (HC.out w7 HB7.out).1 7 _ rfl
  have q8 := (HC.out w7 HB7.out).1 8 _ rfl
  have q9 := (HC.out w7 HB7.out).1 9 _ rfl
  have q10 := (HC.out w7 HB7.out).1 10 _ rfl
  have r0 := (HC.out w7 HB7.out).2.1 0 _ rfl
  have r1 := (HC.out w7 HB7.out).2.1 1 _ rfl
  have r2 := (HC.out w7 HB7.out).2.1 2 _ rfl
  have r3 := (HC.out w7 HB7.out).2.1 3 _ rfl
  have r4 := (HC.out w7 HB7.out).2.1 4 _ rfl
  have r5 := (HC.out w7 HB7.out).2.1 5 _ rfl
  have r6 := (HC.out w7 HB7.out).2.1 6 _ rfl
  have r7 := (HC.out w7 HB7.out).2.1 7 _ rfl
  have r8 := (HC.out w7 HB7.out).2.1 8 _ rfl
  have r9 := (HC.out w7 HB7.out).2.1 9 _ rfl
  have r10 := (HC.out w7 HB7.out).2.1 10 _ rfl
  have u0 := (HC.out w7 HB7.out).2.2 0 _ rfl
  have u1 := (HC.out w7 HB7.out).2.2 1 _ rfl
  have u2 := (HC.out w7 HB7.out).2.2 2 _ rfl
  have u3 := (HC.out w7 HB7.out).2.2 3 _ rfl
  have u4 := (HC.out w7 HB7.out).2.2 4 _ rfl
  have u5 := (HC.out w7 HB7.out).2.2 5 _ rfl
  have u6 := (HC.out w7 HB7.out).2.2 6 _ rfl
  have u7 := (HC.out w7 HB7.out).2.2 7 _ rfl
  have u8 := (HC.out w7 HB7.out).2.2 8 _ rfl
  have u9 := (HC.out w7 HB7.out).2.2 9 _ rfl
  have u10 := (HC.out w7 HB7.out).2.2 10 _ rfl
  go_wp2_with fail
  refine (Span_ok HRA.out _ (months_below H0.out.2.2 HB7.out)).mono ?_
  rintro e w8 ⟨he, hb⟩
  rw [HEQ.out.2.2.2.1, HEQ.out.1] at he
  subst he
  have HB8 : Hid (Below w0.heap.size w0 w8) := below_then HB7.out hb
  clear hb HB7
  clear q0 q1 q2 q3 q4 q5 q6 q7 q8 q9 q10 r0 r1 r2 r3 r4 r5 r6 r7 r8 r9 r10 u0 u1 u2 u3 u4 u5 u6 u7 u8 u9 u10
  have q0 := (HC.out w8 HB8.out).1 0 _ rfl
  have q1 := (HC.out w8 HB8.out).1 1 _ rfl
  have q2 := (HC.out w8 HB8.out).1 2 _ rfl
  have q3 := (HC.out w8 HB8.out).1 3 _ rfl
  have q4 := (HC.out w8 HB8.out).1 4 _ rfl
  have q5 := (HC.out w8 HB8.out).1 5 _ rfl
  have q6 := (HC.out w8 HB8.out).1 6 _ rfl
  have q7 := (HC.out w8 HB8.out).1 7 _ rfl
  have q8 := (HC.out w8 HB8.out).1 8 _ rfl
  have q9 := (HC.out w8 HB8.out).1 9 _ rfl
  have q10 := (HC.out w8 HB8.out).1 10 _ rfl
  have r0 := (HC.out w8 HB8.out).2.1 0 _ rfl
  have r1 := (HC.out w8 HB8.out).2.1 1 _ rfl
  have r2 := (HC.out w8 HB8.out).2.1 2 _ rfl
  have r3 := (HC.out w8 HB8.out).2.1 3 _ rfl
  have r4 := (HC.out w8 HB8.out).2.1 4 _ rfl
  have r5 := (HC.out w8 HB8.out).2.1 5 _ rfl
  have r6 := (HC.out w8 HB8.out).2.1 6 _ rfl
  have r7 := (HC.out w8 HB8.out).2.1 7 _ rfl
  have r8 := (HC.out w8 HB8.out).2.1 8 _ rfl
  have r9 := (HC.out w8 HB8.out).2.1 9 _ rfl
  have r10 := (HC.out w8 HB8.out).2.1 10 _ rfl
  have u0 := (HC.out w8 HB8.out).2.2 0 _ rfl
  have u1 := (HC.out w8 HB8.out).2.2 1 _ rfl
  have u2 := (HC.out w8 HB8.out).2.2 2 _ rfl
  have u3 := (HC.out w8 HB8.out).2.2 3 _ rfl
  have u4 := (HC.out w8 HB8.out).2.2 4 _ rfl
  have u5 := (HC.out w8 HB8.out).2.2 5 _ rfl
  have u6 := (HC.out w8 HB8.out).2.2 6 _ rfl
  have u7 := (HC.out w8 HB8.out).2.2 7 _ rfl
  have u8 := (HC.out w8 HB8.out).2.2 8 _ rfl
  have u9 := (HC.out w8 HB8.out).2.2 9 _ rfl
  have u10 := (HC.out w8 HB8.out).2.2 10 _ rfl
  go_wp2_with fail
  refine (Span_ok HRB.out _ (months_below H0.out.2.2 HB8.out)).mono ?_
  rintro e w9 ⟨he, hb⟩
  rw [HEQ.out.2.2.2.2, HEQ.out.2.2.1] at he
  subst he
  have HB9 : Hid (Below w0.heap.size w0 w9) := below_then HB8.out hb
  clear hb HB8
  clear q0 q1 q2 q3 q4 q5 q6 q7 q8 q9 q10 r0 r1 r2 r3 r4 r5 r6 r7 r8 r9 r10 u0 u1 u2 u3 u4 u5 u6 u7 u8 u9 u10
  have q0 := (HC.out w9 HB9.out).1 0 _ rfl
  have q1 := (HC.out w9 HB9.out).1 1 _ rfl
  have q2 := (HC.out w9 HB9.out).1 2 _ rfl
  have q3 := (HC.out w9 HB9.out).1 3 _ rfl
  have q4 := (HC.out w9 HB9.out).1 4 _ rfl
  have q5 := (HC.out w9 HB9.out).1 5 _ rfl
  have q6 := (HC.out w9 HB9.out).1 6 _ rfl
  have q7 := (HC.out w9 HB9.out).1 7 _ rfl
  have q8 := (HC.out w9 HB9.out).1 8 _ rfl
  have q9 := (HC.out w9 HB9.out).1 9 _ rfl
  have q10 := (HC.out w9 HB9.out).1 10 _ rfl
  have r0 := (HC.out w9 HB9.out).2.1 0 _ rfl
  have r1 := (HC.out w9 HB9.out).2.1 1 _ rfl
  have r2 := (HC.out w9 HB9.out).2.1 2 _ rfl
  have r3 := (HC.out w9 HB9.out).2.1 3 _ rfl
  have r4 := (HC.out w9 HB9.out).2.1 4 _ rfl
  have r5 := (HC.out w9 HB9.out).2.1 5 _ rfl
  have r6 := (HC.out w9 HB9.out).2.1 6 _ rfl
  have r7 := (HC.out w9 HB9.out).2.1 7 _ rfl
  have r8 := (HC.out w9 HB9.out).2.1 8 _ rfl
  have r9 := (HC.out w9 HB9.out).2.1 9 _ rfl
  have r10 := (HC.out w9 HB9.out).2.1 10 _ rfl
  have u0 := (HC.out w9 HB9.out).2.2 0 _ rfl
  have u1 := (HC.out w9 HB9.out).2.2 1 _ rfl
  have u2 := (HC.out w9 HB9.out).2.2 2 _ rfl
  have u3 := (HC.out w9 HB9.out).2.2 3 _ rfl
  have u4 := (HC.out w9 HB9.out).2.2 4 _ rfl
  have u5 := (HC.out w9 HB9.out).2.2 5 _ rfl
  have u6 := (HC.out w9 HB9.out).2.2 6 _ rfl
  have u7 := (HC.out w9 HB9.out).2.2 7 _ rfl
  have u8 := (HC.out w9 HB9.out).2.2 8 _ rfl
  have u9 := (HC.out w9 HB9.out).2.2 9 _ rfl
  have u10 := (HC.out w9 HB9.out).2.2 10 _ rfl
  go_wp2_with fail
  all_goals
    refine (anchor_any _ (months_below H0.out.2.2 HB9.out) (H0.out.2.1.below HB9.out)).mono ?_
    rintro e wa ⟨rfl, hb⟩
    have HBa : Hid (Below w.heap.size w wa) := H0.out.1.trans ((below_then HB9.out hb).mono H0.out.1.size)
    clear hb
    go_wp2_with fail
    go_ret
    exact ⟨rfl, HBa.out⟩
set_option maxRecDepth 100000 in
set_option maxHeartbeats 2000000 in
theorem order_N3a_1 (la ya ma da ha ia sa pa ga oa yb mb db hb ib sb pb ob lc yc mc dc hc ic sc pc gc oc : Int) (zc : Bool) (w : World) (h0 : rightB la ya ma da ha ia sa pa ga oa true = true) (h1 : rightB la yb mb db hb ib sb pb ga ob false = true) (h2 : rightB lc yc mc dc hc ic sc pc gc oc zc = true) (hab : instI la ya ma da ha ia sa pa ga oa < instI la yb mb db hb ib sb pb ga ob) (hbc : instI lc yc mc dc hc ic sc pc gc oc < instI la yb mb db hb ib sb pb ga ob) (hP : Pow w) (hM : Months w) : Calls Tryd.prog 7 #[.agg #[.int .i64 la, .int .i64 ya, .int .i64 ma, .int .i64 da, .int .i64 ha, .int .i64 ia, .int .i64 sa, .int .i64 pa, .int .i64 ga, .bool true, .int .i64 oa], .agg #[.int .i64 la, .int .i64 yb, .int .i64 mb, .int .i64 db, .int .i64 hb, .int .i64 ib, .int .i64 sb, .int .i64 pb, .int .i64 ga, .bool false, .int .i64 ob], .agg #[.int .i64 lc, .int .i64 yc, .int .i64 mc, .int .i64 dc, .int .i64 hc, .int .i64 ic, .int .i64 sc, .int .i64 pc, .int .i64 gc, .bool zc, .int .i64 oc]] w fun e w' => e = .returned (.bool true) ∧ Below w.heap.size w w' := by
  have HRA : Hid (rightB la ya ma da ha ia sa pa ga oa true = true) := h0
  have HRB : Hid (rightB la yb mb db hb ib sb pb ga ob false = true) := h1
  have HRC : Hid (rightB lc yc mc dc hc ic sc pc gc oc zc = true) := h2
  have lpa := len_pos la ya ma ga
  have lpb := len_pos la yb mb ga
  clear h0 h2 h1
  obtain ⟨ta, hta⟩ : ∃ t, instI la ya ma da ha ia sa pa ga oa = t := ⟨_, rfl⟩
  obtain ⟨Ya, hya⟩ : ∃ t, instI la ya ma da ha ia sa pa ga oa + lenI la ya ma ga - 1 = t := ⟨_, rfl⟩
  obtain ⟨tb, htb⟩ : ∃ t, instI la yb mb db hb ib sb pb ga ob = t := ⟨_, rfl⟩
  obtain ⟨Yb, hyb⟩ : ∃ t, instI la yb mb db hb ib sb pb ga ob + lenI la yb mb ga - 1 = t := ⟨_, rfl⟩
  obtain ⟨tc, htc⟩ : ∃ t, instI lc yc mc dc hc ic sc pc gc oc = t := ⟨_, rfl⟩
  rw [hta, htb] at hab
  rw [htb, htc] at hbc
  have hxa : ta ≤ Ya := by omega
  have hxb : tb ≤ Yb := by omega
  have HEQ : Hid (instI la ya ma da ha ia sa pa ga oa = ta ∧ instI lc yc mc dc hc ic sc pc gc oc = tc ∧ instI la yb mb db hb ib sb pb ga ob = tb ∧ instI la ya ma da ha ia sa pa ga oa + lenI la ya ma ga - 1 = Ya ∧ instI la yb mb db hb ib sb pb ga ob + lenI la yb mb ga - 1 = Yb) := ⟨hta, htc, htb, hya, hyb⟩
  clear lpa hta htc hya lpb htb hyb
  have HAB : Hid (cmpI ta tb = (-1)) := (cmp_lt (by omega)).symm
  have HBA : Hid (cmpI tb ta = 1) := (cmp_gt (by omega)).symm
  have HBC : Hid (cmpI tb tc = 1) := (cmp_gt (by omega)).symm
  obtain ⟨Xv, hXv⟩ : ∃ v, cmpI ta tc = v := ⟨_, rfl⟩
  have HAC : Hid (cmpI ta tc = Xv) := hXv
  clear hXv
  clear hbc
  obtain ⟨w0, hw0⟩ : ∃ w0, ((w.alloc (.cells #[.int .i64 la, .int .i64 ya, .int .i64 ma, .int .i64 da, .int .i64 ha, .int .i64 ia, .int .i64 sa, .int .i64 pa, .int .i64 ga, .bool true, .int .i64 oa] 23)).alloc (.cells #[.int .i64 la, .int .i64 yb, .int .i64 mb, .int .i64 db, .int .i64 hb, .int .i64 ib, .int .i64 sb, .int .i64 pb, .int .i64 ga, .bool false, .int .i64 ob] 23)).alloc (.cells #[.int .i64 lc, .int .i64 yc, .int .i64 mc, .int .i64 dc, .int .i64 hc, .int .i64 ic, .int .i64 sc, .int .i64 pc, .int .i64 gc, .bool zc, .int .i64 oc] 23) = w0 := ⟨_, rfl⟩
  have H0 : Hid (Below w.heap.size w w0 ∧ Pow w0 ∧ Months w0) := by
    have hb : Below w.heap.size w w0 := by rw [← hw0]; exact (((Below.refl _ _).alloc (Nat.le_refl _) _).alloc (by simp) _).alloc (by simp; omega) _
    exact ⟨hb, hP.below hb, months_below hM hb⟩
  have HC : Hid (∀ w1, Below w0.heap.size w0 w1 → (∀ j x, (#[.int .i64 la, .int .i64 ya, .int .i64 ma, .int .i64 da, .int .i64 ha, .int .i64 ia, .int .i64 sa, .int .i64 pa, .int .i64 ga, .bool true, .int .i64 oa] : Array Value)[j]? = some x → w1.cell? ⟨w.heap.size, j, none⟩ = some x) ∧ (∀ j x, (#[.int .i64 la, .int .i64 yb, .int .i64 mb, .int .i64 db, .int .i64 hb, .int .i64 ib, .int .i64 sb, .int .i64 pb, .int .i64 ga, .bool false, .int .i64 ob] : Array Value)[j]? = some x → w1.cell? ⟨w.heap.size + 1, j, none⟩ = some x) ∧ (∀ j x, (#[.int .i64 lc, .int .i64 yc, .int .i64 mc, .int .i64 dc, .int .i64 hc, .int .i64 ic, .int .i64 sc, .int .i64 pc, .int .i64 gc, .bool zc, .int .i64 oc] : Array Value)[j]? = some x → w1.cell? ⟨w.heap.size + 2, j, none⟩ = some x)) := fun w1 hb => three_cells hw0 hb
  clear hP hM
  have HB0 : Hid (Below w0.heap.size w0 w0) := Below.refl _ _
  have q0 := (HC.out w0 HB0.out).1 0 _ rfl
  have q1 := (HC.out w0 HB0.out).1 1 _ rfl
  have q2 := (HC.out w0 HB0.out).1 2 _ rfl
  have q3 := (HC.out w0 HB0.out).1 3 _ rfl
  have q4 := (HC.out w0 HB0.out).1 4 _ rfl
  have q5 := (HC.out w0 HB0.out).1 5 _ rfl
  have q6 := (HC.out w0 HB0.out).1 6 _ rfl
  have q7 := (HC.out w0 HB0.out).1 7 _ rfl
  have q8 := (HC.out w0 HB0.out).1 8 _ rfl
  have q9 := (HC.out w0 HB0.out).1 9 _ rfl
  have q10 := (HC.out w0 HB0.out).1 10 _ rfl
  have r0 := (HC.out w0 HB0.out).2.1 0 _ rfl
  have r1 := (HC.out w0 HB0.out).2.1 1 _ rfl
  have r2 := (HC.out w0 HB0.out).2.1 2 _ rfl
  have r3 := (HC.out w0 HB0.out).2.1 3 _ rfl
  have r4 := (HC.out w0 HB0.out).2.1 4 _ rfl
  have r5 := (HC.out w0 HB0.out).2.1 5 _ rfl
  have r6 := (HC.out w0 HB0.out).2.1 6 _ rfl
  have r7 := (HC.out w0 HB0.out).2.1 7 _ rfl
  have r8 := (HC.out w0 HB0.out).2.1 8 _ rfl
  have r9 := (HC.out w0 HB0.out).2.1 9 _ rfl
  have r10 := (HC.out w0 HB0.out).2.1 10 _ rfl
  have u0 := (HC.out w0 HB0.out).2.2 0 _ rfl
  have u1 := (HC.out w0 HB0.out).2.2 1 _ rfl
  have u2 := (HC.out w0 HB0.out).2.2 2 _ rfl
  have u3 := (HC.out w0 HB0.out).2.2 3 _ rfl
  have u4 := (HC.out w0 HB0.out).2.2 4 _ rfl
  have u5 := (HC.out w0 HB0.out).2.2 5 _ rfl
  have u6 := (HC.out w0 HB0.out).2.2 6 _ rfl
  have u7 := (HC.out w0 HB0.out).2.2 7 _ rfl
  have u8 := (HC.out w0 HB0.out).2.2 8 _ rfl
  have u9 := (HC.out w0 HB0.out).2.2 9 _ rfl
  have u10 := (HC.out w0 HB0.out).2.2 10 _ rfl
  go_enter Tryd.func7, Tryd.ntmps7
  go_wp2_with fail
  refine (lright_is HRA.out _ (months_below H0.out.2.2 HB0.out) (H0.out.2.1.below HB0.out)).mono ?_
  rintro e w1 ⟨he, hb⟩
  subst he
  have HB1 : Hid (Below w0.heap.size w0 w1) := below_then HB0.out hb
  clear hb HB0
  clear q0 q1 q2 q3 q4 q5 q6 q7 q8 q9 q10 r0 r1 r2 r3 r4 r5 r6 r7 r8 r9 r10 u0 u1 u2 u3 u4 u5 u6 u7 u8 u9 u10
  have q0 := (HC.out w1 HB1.out).1 0 _ rfl
  have q1 := (HC.out w1 HB1.out).1 1 _ rfl
  have q2 := (HC.out w1 HB1.out).1 2 _ rfl
  have q3 := (HC.out w1 HB1.out).1 3 _ rfl
  have q4 := (HC.out w1 HB1.out).1 4 _ rfl
  have q5 := (HC.out w1 HB1.out).1 5 _ rfl
  have q6 := (HC.out w1 HB1.out).1 6 _ rfl
  have q7 := (HC.out w1 HB1.out).1 7 _ rfl
  have q8 := (HC.out w1 HB1.out).1 8 _ rfl
  have q9 := (HC.out w1 HB1.out).1 9 _ rfl
  have q10 := (HC.out w1 HB1.out).1 10 _ rfl
  have r0 := (HC.out w1 HB1.out).2.1 0 _ rfl
  have r1 := (HC.out w1 HB1.out).2.1 1 _ rfl
  have r2 := (HC.out w1 HB1.out).2.1 2 _ rfl
  have r3 := (HC.out w1 HB1.out).2.1 3 _ rfl
  have r4 := (HC.out w1 HB1.out).2.1 4 _ rfl
  have r5 := (HC.out w1 HB1.out).2.1 5 _ rfl
  have r6 := (HC.out w1 HB1.out).2.1 6 _ rfl
  have r7 := (HC.out w1 HB1.out).2.1 7 _ rfl
  have r8 := (HC.out w1 HB1.out).2.1 8 _ rfl
  have r9 := (HC.out w1 HB1.out).2.1 9 _ rfl
  have r10 := (HC.out w1 HB1.out).2.1 10 _ rfl
  have u0 := (HC.out w1 HB1.out).2.2 0 _ rfl
  have u1 := (HC.out w1 HB1.out).2.2 1 _ rfl
  have u2 := (HC.out w1 HB1.out).2.2 2 _ rfl
  have u3 := (HC.out w1 HB1.out).2.2 3 _ rfl
  have u4 := (HC.out w1 HB1.out).2.2 4 _ rfl
  have u5 := (HC.out w1 HB1.out).2.2 5 _ rfl
  have u6 := (HC.out w1 HB1.out).2.2 6 _ rfl
  have u7 := (HC.out w1 HB1.out).2.2 7 _ rfl
  have u8 := (HC.out w1 HB1.out).2.2 8 _ rfl
  have u9 := (HC.out w1 HB1.out).2.2 9 _ rfl
  have u10 := (HC.out w1 HB1.out).2.2 10 _ rfl
  go_wp2_with fail
  refine (lright_is HRB.out _ (months_below H0.out.2.2 HB1.out) (H0.out.2.1.below HB1.out)).mono ?_
  rintro e w2 ⟨he, hb⟩
  subst he
  have HB2 : Hid (Below w0.heap.size w0 w2) := below_then HB1.out hb
  clear hb HB1
  clear q0 q1 q2 q3 q4 q5 q6 q7 q8 q9 q10 r0 r1 r2 r3 r4 r5 r6 r7 r8 r9 r10 u0 u1 u2 u3 u4 u5 u6 u7 u8 u9 u10
  have q0 := (HC.out w2 HB2.out).1 0 _ rfl
  have q1 := (HC.out w2 HB2.out).1 1 _ rfl
  have q2 := (HC.out w2 HB2.out).1 2 _ rfl
  have q3 := (HC.out w2 HB2.out).1 3 _ rfl
  have q4 := (HC.out w2 HB2.out).1 4 _ rfl
  have q5 := (HC.out w2 HB2.out).1 5 _ rfl
  have q6 := (HC.out w2 HB2.out).1 6 _ rfl
  have q7 := (HC.out w2 HB2.out).1 7 _ rfl
  have q8 := (HC.out w2 HB2.out).1 8 _ rfl
  have q9 := (HC.out w2 HB2.out).1 9 _ rfl
  have q10 := (HC.out w2 HB2.out).1 10 _ rfl
  have r0 := (HC.out w2 HB2.out).2.1 0 _ rfl
  have r1 := (HC.out w2 HB2.out).2.1 1 _ rfl
  have r2 := (HC.out w2 HB2.out).2.1 2 _ rfl
  have r3 := (HC.out w2 HB2.out).2.1 3 _ rfl
  have r4 := (HC.out w2 HB2.out).2.1 4 _ rfl
  have r5 := (HC.out w2 HB2.out).2.1 5 _ rfl
  have r6 := (HC.out w2 HB2.out).2.1 6 _ rfl
  have r7 := (HC.out w2 HB2.out).2.1 7 _ rfl
  have r8 := (HC.out w2 HB2.out).2.1 8 _ rfl
  have r9 := (HC.out w2 HB2.out).2.1 9 _ rfl
  have r10 := (HC.out w2 HB2.out).2.1 10 _ rfl
  have u0 := (HC.out w2 HB2.out).2.2 0 _ rfl
  have u1 := (HC.out w2 HB2.out).2.2 1 _ rfl
  have u2 := (HC.out w2 HB2.out).2.2 2 _ rfl
  have u3 := (HC.out w2 HB2.out).2.2 3 _ rfl
  have u4 := (HC.out w2 HB2.out).2.2 4 _ rfl
  have u5 := (HC.out w2 HB2.out).2.2 5 _ rfl
  have u6 := (HC.out w2 HB2.out).2.2 6 _ rfl
  have u7 := (HC.out w2 HB2.out).2.2 7 _ rfl
  have u8 := (HC.out w2 HB2.out).2.2 8 _ rfl
  have u9 := (HC.out w2 HB2.out).2.2 9 _ rfl
  have u10 := (HC.out w2 HB2.out).2.2 10 _ rfl
  go_wp2_with fail
  refine (lright_is HRC.out _ (months_below H0.out.2.2 HB2.out) (H0.out.2.1.below HB2.out)).mono ?_
  rintro e w3 ⟨he, hb⟩
  subst he
  have HB3 : Hid (Below w0.heap.size w0 w3) := below_then HB2.out hb
  clear hb HB2
  clear q0 q1 q2 q3 q4 q5 q6 q7 q8 q9 q10 r0 r1 r2 r3 r4 r5 r6 r7 r8 r9 r10 u0 u1 u2 u3 u4 u5 u6 u7 u8 u9 u10
  have q0 := (HC.out w3 HB3.out).1 0 _ rfl
  have q1 := (HC.out w3 HB3.out).1 1 _ rfl
  have q2 := (HC.out w3 HB3.out).1 2 _ rfl
  have q3 := (HC.out w3 HB3.out).1 3 _ rfl
  have q4 := (HC.out w3 HB3.out).1 4 _ rfl
  have q5 := (HC.out w3 HB3.out).1 5 _ rfl
  have q6 := (HC.out w3 HB3.out).1 6 _ rfl
  have q7 := (HC.out w3 HB3.out).1 7 _ rfl
  have q8 := (HC.out w3 HB3.out).1 8 _ rfl
  have q9 := (HC.out w3 HB3.out).1 9 _ rfl
  have q10 := (HC.out w3 HB3.out).1 10 _ rfl
  have r0 := (HC.out w3 HB3.out).2.1 0 _ rfl
  have r1 := (HC.out w3 HB3.out).2.1 1 _ rfl
  have r2 := (HC.out w3 HB3.out).2.1 2 _ rfl
  have r3 := (HC.out w3 HB3.out).2.1 3 _ rfl
  have r4 := (HC.out w3 HB3.out).2.1 4 _ rfl
  have r5 := (HC.out w3 HB3.out).2.1 5 _ rfl
  have r6 := (HC.out w3 HB3.out).2.1 6 _ rfl
  have r7 := (HC.out w3 HB3.out).2.1 7 _ rfl
  have r8 := (HC.out w3 HB3.out).2.1 8 _ rfl
  have r9 := (HC.out w3 HB3.out).2.1 9 _ rfl
  have r10 := (HC.out w3 HB3.out).2.1 10 _ rfl
  have u0 := (HC.out w3 HB3.out).2.2 0 _ rfl
  have u1 := (HC.out w3 HB3.out).2.2 1 _ rfl
  have u2 := (HC.out w3 HB3.out).2.2 2 _ rfl
  have u3 := (HC.out w3 HB3.out).2.2 3 _ rfl
  have u4 := (HC.out w3 HB3.out).2.2 4 _ rfl
  have u5 := (HC.out w3 HB3.out).2.2 5 _ rfl
  have u6 := (HC.out w3 HB3.out).2.2 6 _ rfl
  have u7 := (HC.out w3 HB3.out).2.2 7 _ rfl
  have u8 := (HC.out w3 HB3.out).2.2 8 _ rfl
  have u9 := (HC.out w3 HB3.out).2.2 9 _ rfl
  have u10 := (HC.out w3 HB3.out).2.2 10 _ rfl
  go_wp2_with fail
  refine (Compare_ok HRA.out HRB.out _ (months_below H0.out.2.2 HB3.out)).mono ?_
  rintro e w4 ⟨he, hb⟩
  rw [HEQ.out.1, HEQ.out.2.2.1, HAB.out] at he
  subst he
  have HB4 : Hid (Below w0.heap.size w0 w4) := below_then HB3.out hb
  clear hb HB3
  clear q0 q1 q2 q3 q4 q5 q6 q7 q8 q9 q10 r0 r1 r2 r3 r4 r5 r6 r7 r8 r9 r10 u0 u1 u2 u3 u4 u5 u6 u7 u8 u9 u10
  have q0 := (HC.out w4 HB4.out).1 0 _ rfl
  have q1 := (HC.out w4 HB4.out).1 1 _ rfl
  have q2 := (HC.out w4 HB4.out).1 2 _ rfl
  have q3 := (HC.out w4 HB4.out).1 3 _ rfl
  have q4 := (HC.out w4 HB4.out).1 4 _ rfl
  have q5 := (HC.out w4 HB4.out).1 5 _ rfl
  have q6 := (HC.out w4 HB4.out).1 6 _ rfl
  have q7 := (HC.out w4 HB4.out).1 7 _ rfl
  have q8 := (HC.out w4 HB4.out).1 8 _ rfl
  have q9 := (HC.out w4 HB4.out).1 9 _ rfl
  have q10 := (HC.out w4 HB4.out).1 10 _ rfl
  have r0 := (HC.out w4 HB4.out).2.1 0 _ rfl
  have r1 := (HC.out w4 HB4.out).2.1 1 _ rfl
  have r2 := (HC.out w4 HB4.out).2.1 2 _ rfl
  have r3 := (HC.out w4 HB4.out).2.1 3 _ rfl
  have r4 := (HC.out w4 HB4.out).2.1 4 _ rfl
  have r5 := (HC.out w4 HB4.out).2.1 5 _ rfl
  have r6 := (HC.out w4 HB4.out).2.1 6 _ rfl
  have r7 := (HC.out w4 HB4.out).2.1 7 _ rfl
  have r8 := (HC.out w4 HB4.out).2.1 8 _ rfl
  have r9 := (HC.out w4 HB4.out).2.1 9 _ rfl
  have r10 := (HC.out w4 HB4.out).2.1 10 _ rfl
  have u0 := (HC.out w4 HB4.out).2.2 0 _ rfl
  have u1 := (HC.out w4 HB4.out).2.2 1 _ rfl
  have u2 := (HC.out w4 HB4.out).2.2 2 _ rfl
  have u3 := (HC.out w4 HB4.out).2.2 3 _ rfl
  have u4 := (HC.out w4 HB4.out).2.2 4 _ rfl
  have u5 := (HC.out w4 HB4.out).2.2 5 _ rfl
  have u6 := (HC.out w4 HB4.out).2.2 6 _ rfl
  have u7 := (HC.out w4 HB4.out).2.2 7 _ rfl
  have u8 := (HC.out w4 HB4.out).2.2 8 _ rfl
  have u9 := (HC.out w4 HB4.out).2.2 9 _ rfl
  have u10 := (HC.out w4 HB4.out).2.2 10 _ rfl
  go_wp2_with fail
  refine (Compare_ok HRB.out HRA.out _ (months_below H0.out.2.2 HB4.out)).mono ?_
  rintro e w5 ⟨he, hb⟩
  rw [HEQ.out.2.2.1, HEQ.out.1, HBA.out] at he
  subst he
  have HB5 : Hid (Below w0.heap.size w0 w5) := below_then HB4.out hb
  clear hb HB4
  clear q0 q1 q2 q3 q4 q5 q6 q7 q8 q9 q10 r0 r1 r2 r3 r4 r5 r6 r7 r8 r9 r10 u0 u1 u2 u3 u4 u5 u6 u7 u8 u9 u10
  have q0 := (HC.out w5 HB5.out).1 0 _ rfl
  have q1 := (HC.out w5 HB5.out).1 1 _ rfl
  have q2 := (HC.out w5 HB5.out).1 2 _ rfl
  have q3 := (HC.out w5 HB5.out).1 3 _ rfl
  have q4 := (HC.out w5 HB5.out).1 4 _ rfl
  have q5 := (HC.out w5 HB5.out).1 5 _ rfl
  have q6 := (HC.out w5 HB5.out).1 6 _ rfl
  have q7 := (HC.out w5 HB5.out).1 7 _ rfl
  have q8 := (HC.out w5 HB5.out).1 8 _ rfl
  have q9 := (HC.out w5 HB5.out).1 9 _ rfl
  have q10 := (HC.out w5 HB5.out).1 10 _ rfl
  have r0 := (HC.out w5 HB5.out).2.1 0 _ rfl
  have r1 := (HC.out w5 HB5.out).2.1 1 _ rfl
  have r2 := (HC.out w5 HB5.out).2.1 2 _ rfl
  have r3 := (HC.out w5 HB5.out).2.1 3 _ rfl
  have r4 := (HC.out w5 HB5.out).2.1 4 _ rfl
  have r5 := (HC.out w5 HB5.out).2.1 5 _ rfl
  have r6 := (HC.out w5 HB5.out).2.1 6 _ rfl
  have r7 := (HC.out w5 HB5.out).2.1 7 _ rfl
  have r8 := (HC.out w5 HB5.out).2.1 8 _ rfl
  have r9 := (HC.out w5 HB5.out).2.1 9 _ rfl
  have r10 := (HC.out w5 HB5.out).2.1 10 _ rfl
  have u0 := (HC.out w5 HB5.out).2.2 0 _ rfl
  have u1 := (HC.out w5 HB5.out).2.2 1 _ rfl
  have u2 := (HC.out w5 HB5.out).2.2 2 _ rfl
  have u3 := (HC.out w5 HB5.out).2.2 3 _ rfl
  have u4 := (HC.out w5 HB5.out).2.2 4 _ rfl
  have u5 := (HC.out w5 HB5.out).2.2 5 _ rfl
  have u6 := (HC.out w5 HB5.out).2.2 6 _ rfl
  have u7 := (HC.out w5 HB5.out).2.2 7 _ rfl
  have u8 := (HC.out w5 HB5.out).2.2 8 _ rfl
  have u9 := (HC.out w5 HB5.out).2.2 9 _ rfl
  have u10 := (HC.out w5 HB5.out).2.2 10 _ rfl
  go_wp2_with fail
  refine (Compare_ok HRB.out HRC.out _ (months_below H0.out.2.2 HB5.out)).mono ?_
  rintro e w6 ⟨he, hb⟩
  rw [HEQ.out.2.2.1, HEQ.out.2.1, HBC.out] at he
  subst he
  have HB6 : Hid (Below w0.heap.size w0 w6) := below_then HB5.out hb
  clear hb HB5
  clear q0 q1 q2 q3 q4 q5 q6 q7 q8 q9 q10 r0 r1 r2 r3 r4 r5 r6 r7 r8 r9 r10 u0 u1 u2 u3 u4 u5 u6 u7 u8 u9 u10
  have q0 := (HC.out w6 HB6.out).1 0 _ rfl
  have q1 := (HC.out w6 HB6.out).1 1 _ rfl
  have q2 := (HC.out w6 HB6.out).1 2 _ rfl
  have q3 := (HC.out w6 HB6.out).1 3 _ rfl
  have q4 := (HC.out w6 HB6.out).1 4 _ rfl
  have q5 := (HC.out w6 HB6.out).1 5 _ rfl
  have q6 := (HC.out w6 HB6.out).1 6 _ rfl
  have q7 := (HC.out w6 HB6.out).1 7 _ rfl
  have q8 := (HC.out w6 HB6.out).1 8 _ rfl
  have q9 := (HC.out w6 HB6.out).1 9 _ rfl
  have q10 := (HC.out w6 HB6.out).1 10 _ rfl
  have r0 := (HC.out w6 HB6.out).2.1 0 _ rfl
  have r1 := (HC.out w6 HB6.out).2.1 1 _ rfl
  have r2 := (HC.out w6 HB6.out).2.1 2 _ rfl
  have r3 := (HC.out w6 HB6.out).2.1 3 _ rfl
  have r4 := (HC.out w6 HB6.out).2.1 4 _ rfl
  have r5 := (HC.out w6 HB6.out).2.1 5 _ rfl
  have r6 := (HC.out w6 HB6.out).2.1 6 _ rfl
  have r7 := (HC.out w6 HB6.out).2.1 7 _ rfl
  have r8 := (HC.out w6 HB6.out).2.1 8 _ rfl
  have r9 := (HC.out w6 HB6.out).2.1 9 _ rfl
  have r10 := (HC.out w6 HB6.out).2.1 10 _ rfl
  have u0 := (HC.out w6 HB6.out).2.2 0 _ rfl
  have u1 := (HC.out w6 HB6.out).2.2 1 _ rfl
  have u2 := (HC.out w6 HB6.out).2.2 2 _ rfl
  have u3 := (HC.out w6 HB6.out).2.2 3 _ rfl
  have u4 := (HC.out w6 HB6.out).2.2 4 _ rfl
  have u5 := (HC.out w6 HB6.out).2.2 5 _ rfl
  have u6 := (HC.out w6 HB6.out).2.2 6 _ rfl
  have u7 := (HC.out w6 HB6.out).2.2 7 _ rfl
  have u8 := (HC.out w6 HB6.out).2.2 8 _ rfl
  have u9 := (HC.out w6 HB6.out).2.2 9 _ rfl
  have u10 := (HC.out w6 HB6.out).2.2 10 _ rfl
  go_wp2_with fail
  refine (Compare_ok HRA.out HRC.out _ (months_below H0.out.2.2 HB6.out)).mono ?_
  rintro e w7 ⟨he, hb⟩
  rw [HEQ.out.1, HEQ.out.2.1, HAC.out] at he
  subst he
  have HB7 : Hid (Below w0.heap.size w0 w7) := below_then HB6.out hb
  clear hb HB6
  clear q0 q1 q2 q3 q4 q5 q6 q7 q8 q9 q10 r0 r1 r2 r3 r4 r5 r6 r7 r8 r9 r10 u0 u1 u2 u3 u4 u5 u6 u7 u8 u9 u10
  have q0 := (HC.out w7 HB7.out).1 0 _ rfl
  have q1 := (HC.out w7 HB7.out).1 1 _ rfl
  have q2 := (HC.out w7 HB7.out).1 2 _ rfl
  have q3 := (HC.out w7 HB7.out).1 3 _ rfl
  have q4 := (HC.out w7 HB7.out).1 4 _ rfl
  have q5 := (HC.out w7 HB7.out).1 5 _ rfl
  have q6 := (HC.out w7 HB7.out).1 6 _ rfl
  have q7 := (HC.out w7 HB7.out).1 7 _ rfl
  have q8 := (HC.out w7 HB7.out).1 8 _ rfl
  have q9 := (HC.out w7 HB7.out).1 9 _ rfl
  have q10 := (HC.out w7 HB7.out).1 10 _ rfl
  have r0 := (HC.out w7 HB7.out).2.1 0 _ rfl
  have r1 := (HC.out w7 HB7.out).2.1 1 _ rfl
  have r2 := (HC.out w7 HB7.out).2.1 2 _ rfl
  have r3 := (HC.out w7 HB7.out).2.1 3 _ rfl
  have r4 := (HC.out w7 HB7.out).2.1 4 _ rfl
  have r5 := (HC.out w7 HB7.out).2.1 5 _ rfl
  have r6 := (HC.out w7 HB7.out).2.1 6 _ rfl
  have r7 := (HC.out w7 HB7.out).2.1 7 _ rfl
  have r8 := (HC.out w7 HB7.out).2.1 8 _ rfl
  have r9 := (HC.out w7 HB7.out).2.1 9 _ rfl
  have r10 := (HC.out w7 HB7.out).2.1 10 _ rfl
  have u0 := (HC.out w7 HB7.out).2.2 0 _ rfl
  have u1 := (HC.out w7 HB7.out).2.2 1 _ rfl
  have u2 := (HC.out w7 HB7.out).2.2 2 _ rfl
  have u3 := (HC.out w7 HB7.out).2.2 3 _ rfl
  have u4 := (HC.out w7 HB7.out).2.2 4 _ rfl
  have u5 := (HC.out w7 HB7.out).2.2 5 _ rfl
  have u6 := (HC.out w7 HB7.out).2.2 6 _ rfl
  have u7 := (HC.out w7 HB7.out).2.2 7 _ rfl
  have u8 := (HC.out w7 HB7.out).2.2 8 _ rfl
  have u9 := (HC.out w7 HB7.out).2.2 9 _ rfl
  have u10 := (HC.out w7 HB7.out).2.2 10 _ rfl
  go_wp2_with fail
  refine (Span_ok HRA.out _ (months_below H0.out.2.2 HB7.out)).mono ?_
  rintro e w8 ⟨he, hb⟩
  rw [HEQ.out.2.2.2.1, HEQ.out.1] at he
  subst he
  have HB8 : Hid (Below w0.heap.size w0 w8) := below_then HB7.out hb
  clear hb HB7
  clear q0 q1 q2 q3 q4 q5 q6 q7 q8 q9 q10 r0 r1 r2 r3 r4 r5 r6 r7 r8 r9 r10 u0 u1 u2 u3 u4 u5 u6 u7 u8 u9 u10
  have q0 := (HC.out w8 HB8.out).1 0 _ rfl
  have q1 := (HC.out w8 HB8.out).1 1 _ rfl
  have q2 := (HC.out w8 HB8.out).1 2 _ rfl
  have q3 := (HC.out w8 HB8.out).1 3 _ rfl
  have q4 := (HC.out w8 HB8.out).1 4 _ rfl
  have q5 := (HC.out w8 HB8.out).1 5 _ rfl
  have q6 := (HC.out w8 HB8.out).1 6 _ rfl
  have q7 := (HC.out w8 HB8.out).1 7 _ rfl
  have q8 := (HC.out w8 HB8.out).1 8 _ rfl
  have q9 := (HC.out w8 HB8.out).1 9 _ rfl
  have q10 := (HC.out w8 HB8.out).1 10 _ rfl
  have r0 := (HC.out w8 HB8.out).2.1 0 _ rfl
  have r1 := (HC.out w8 HB8.out).2.1 1 _ rfl
  have r2 := (HC.out w8 HB8.out).2.1 2 _ rfl
  have r3 := (HC.out w8 HB8.out).2.1 3 _ rfl
  have r4 := (HC.out w8 HB8.out).2.1 4 _ rfl
  have r5 := (HC.out w8 HB8.out).2.1 5 _ rfl
  have r6 := (HC.out w8 HB8.out).2.1 6 _ rfl
  have r7 := (HC.out w8 HB8.out).2.1 7 _ rfl
  have r8 := (HC.out w8 HB8.out).2.1 8 _ rfl
  have r9 := (HC.out w8 HB8.out).2.1 9 _ rfl
  have r10 := (HC.out w8 HB8.out).2.1 10 _ rfl
  have u0 := (HC.out w8 HB8.out).2.2 0 _ rfl
  have u1 := (HC.out w8 HB8.out).2.2 1 _ rfl
  have u2 := (HC.out w8 HB8.out).2.2 2 _ rfl
  have u3 := (HC.out w8 HB8.out).2.2 3 _ rfl
  have u4 := (HC.out w8 HB8.out).2.2 4 _ rfl
  have u5 := (HC.out w8 HB8.out).2.2 5 _ rfl
  have u6 := (HC.out w8 HB8.out).2.2 6 _ rfl
  have u7 := (HC.out w8 HB8.out).2.2 7 _ rfl
  have u8 := (HC.out w8 HB8.out).2.2 8 _ rfl
  have u9 := (HC.out w8 HB8.out).2.2 9 _ rfl
  have u10 := (HC.out w8 HB8.out).2.2 10 _ rfl
  go_wp2_with fail
  refine (Span_ok HRB.out _ (months_below H0.out.2.2 HB8.out)).mono ?_
  rintro e w9 ⟨he, hb⟩
  rw [HEQ.out.2.2.2.2, HEQ.out.2.2.1] at he
  subst he
  have HB9 : Hid (Below w0.heap.size w0 w9) := below_then HB8.out hb
  clear hb HB8
  clear q0 q1 q2 q3 q4 q5 q6 q7 q8 q9 q10 r0 r1 r2 r3 r4 r5 r6 r7 r8 r9 r10 u0 u1 u2 u3 u4 u5 u6 u7 u8 u9 u10
  have q0 := (HC.out w9 HB9.out).1 0 _ rfl
  have q1 := (HC.out w9 HB9.out).1 1 _ rfl
  have q2 := (HC.out w9 HB9.out).1 2 _ rfl
  have q3 := (HC.out w9 HB9.out).1 3 _ rfl
  have q4 := (HC.out w9 HB9.out).1 4 _ rfl
  have q5 := (HC.out w9 HB9.out).1 5 _ rfl
  have q6 := (HC.out w9 HB9.out).1 6 _ rfl
  have q7 := (HC.out w9 HB9.out).1 7 _ rfl
  have q8 := (HC.out w9 HB9.out).1 8 _ rfl
  have q9 := (HC.out w9 HB9.out).1 9 _ rfl
  have q10 := (HC.out w9 HB9.out).1 10 _ rfl
  have r0 := (HC.out w9 HB9.out).2.1 0 _ rfl
  have r1 := (HC.out w9 HB9.out).2.1 1 _ rfl
  have r2 := (HC.out w9 HB9.out).2.1 2 _ rfl
  have r3 := (HC.out w9 HB9.out).2.1 3 _ rfl
  have r4 := (HC.out w9 HB9.out).2.1 4 _ rfl
  have r5 := (HC.out w9 HB9.out).2.1 5 _ rfl
  have r6 := (HC.out w9 HB9.out).2.1 6 _ rfl
  have r7 := (HC.out w9 HB9.out).2.1 7 _ rfl
  have r8 := (HC.out w9 HB9.out).2.1 8 _ rfl
  have r9 := (HC.out w9 HB9.out).2.1 9 _ rfl
  have r10 := (HC.out w9 HB9.out).2.1 10 _ rfl
  have u0 := (HC.out w9 HB9.out).2.2 0 _ rfl
  have u1 := (HC.out w9 HB9.out).2.2 1 _ rfl
  have u2 := (HC.out w9 HB9.out).2.2 2 _ rfl
  have u3 := (HC.out w9 HB9.out).2.2 3 _ rfl
  have u4 := (HC.out w9 HB9.out).2.2 4 _ rfl
  have u5 := (HC.out w9 HB9.out).2.2 5 _ rfl
  have u6 := (HC.out w9 HB9.out).2.2 6 _ rfl
  have u7 := (HC.out w9 HB9.out).2.2 7 _ rfl
  have u8 := (HC.out w9 HB9.out).2.2 8 _ rfl
  have u9 := (HC.out w9 HB9.out).2.2 9 _ rfl
  have u10 := (HC.out w9 HB9.out).2.2 10 _ rfl
  go_wp2_with fail
  all_goals
    refine (anchor_any _ (months_below H0.out.2.2 HB9.out) (H0.out.2.1.below HB9.out)).mono ?_
    rintro e wa ⟨rfl, hb⟩
    have HBa : Hid (Below w.heap.size w wa) := H0.out.1.trans ((below_then HB9.out hb).mono H0.out.1.size)
    clear hb
    go_wp2_with fail
    go_ret
    exact ⟨rfl, HBa.out⟩
set_option maxRecDepth 100000 in
set_option maxHeartbeats 2000000 in
theorem order_N3a_2 (la ya ma da ha ia sa pa ga oa yb mb db hb ib sb pb ob lc yc mc dc hc ic sc pc gc oc : Int) (zc : Bool) (w : World) (h0 : rightB la ya ma da ha ia sa pa ga oa true = true) (h1 : rightB la yb mb db hb ib sb pb ga ob false = true) (h2 : rightB lc yc mc dc hc ic sc pc gc oc zc = true) (hab : instI la ya ma da ha ia sa pa ga oa = instI la yb mb db hb ib sb pb ga ob) (hbc : instI la yb mb db hb ib sb pb ga ob < instI lc yc mc dc hc ic sc pc gc oc) (hP : Pow w) (hM : Months w) : Calls Tryd.prog 7 #[.agg #[.int .i64 la, .int .i64 ya, .int .i64 ma, .int .i64 da, .int .i64 ha, .int .i64 ia, .int .i64 sa, .int .i64 pa, .int .i64 ga, .bool true, .int .i64 oa], .agg #[.int .i64 la, .int .i64 yb, .int .i64 mb, .int .i64 db, .int .i64 hb, .int .i64 ib, .int .i64 sb, .int .i64 pb, .int .i64 ga, .bool false, .int .i64 ob], .agg #[.int .i64 lc, .int .i64 yc, .int .i64 mc, .int .i64 dc, .int .i64 hc, .int .i64 ic, .int .i64 sc, .int .i64 pc, .int .i64 gc, .bool zc, .int .i64 oc]] w fun e w' => e = .returned (.bool true) ∧ Below w.heap.size w w' := by
  have HRA : Hid (rightB la ya ma da ha ia sa pa ga oa true = true) := h0
  have HRB : Hid (rightB la yb mb db hb ib sb pb ga ob false = true) := h1
  have HRC : Hid (rightB lc yc mc dc hc ic sc pc gc oc zc = true) := h2
  have lpa := len_pos la ya ma ga
  have lpb := len_pos la yb mb ga
  clear h0 h2 h1
  obtain ⟨ta, hta⟩ : ∃ t, instI la ya ma da ha ia sa pa ga oa = t := ⟨_, rfl⟩
  obtain ⟨Ya, hya⟩ : ∃ t, instI la ya ma da ha ia sa pa ga oa + lenI la ya ma ga - 1 = t := ⟨_, rfl⟩
  obtain ⟨tb, htb⟩ : ∃ t, instI la yb mb db hb ib sb pb ga ob = t := ⟨_, rfl⟩
  obtain ⟨Yb, hyb⟩ : ∃ t, instI la yb mb db hb ib sb pb ga ob + lenI la yb mb ga - 1 = t := ⟨_, rfl⟩
  obtain ⟨tc, htc⟩ : ∃ t, instI lc yc mc dc hc ic sc pc gc oc = t := ⟨_, rfl⟩
  rw [hta, htb] at hab
  rw [htb, htc] at hbc
  have hxa : ta ≤ Ya := by omega
  have hxb : tb ≤ Yb := by omega
  have HEQ : Hid (instI la ya ma da ha ia sa pa ga oa = ta ∧ instI lc yc mc dc hc ic sc pc gc oc = tc ∧ instI la yb mb db hb ib sb pb ga ob = tb ∧ instI la ya ma da ha ia sa pa ga oa + lenI la ya ma ga - 1 = Ya ∧ instI la yb mb db hb ib sb pb ga ob + lenI la yb mb ga - 1 = Yb) := ⟨hta, htc, htb, hya, hyb⟩
  clear lpa hta htc hya lpb htb hyb
  subst hab
  have HAB : Hid (cmpI ta ta = 0) := (cmp_eq (by omega) (by omega)).symm
  have HBA : Hid (cmpI ta ta = 0) := (cmp_eq (by omega) (by omega)).symm
  have HBC : Hid (cmpI ta tc = (-1)) := (cmp_lt (by omega)).symm
  have HAC : Hid (cmpI ta tc = (-1)) := (cmp_lt (by omega)).symm
  clear hbc
  obtain ⟨w0, hw0⟩ : ∃ w0, ((w.alloc (.cells #[.int .i64 la, .int .i64 ya, .int .i64 ma, .int .i64 da, .int .i64 ha, .int .i64 ia, .int .i64 sa, .int .i64 pa, .int .i64 ga, .bool true, .int .i64 oa] 23)).alloc (.cells #[.int .i64 la, .int .i64 yb, .int .i64 mb, .int .i64 db, .int .i64 hb, .int .i64 ib, .int .i64 sb, .int .i64 pb, .int .i64 ga, .bool false, .int .i64 ob] 23)).alloc (.cells #[.int .i64 lc, .int .i64 yc, .int .i64 mc, .int .i64 dc, .int .i64 hc, .int .i64 ic, .int .i64 sc, .int .i64 pc, .int .i64 gc, .bool zc, .int .i64 oc] 23) = w0 := ⟨_, rfl⟩
  have H0 : Hid (Below w.heap.size w w0 ∧ Pow w0 ∧ Months w0) := by
    have hb : Below w.heap.size w w0 := by rw [← hw0]; exact (((Below.refl _ _).alloc (Nat.le_refl _) _).alloc (by simp) _).alloc (by simp; omega) _
    exact ⟨hb, hP.below hb, months_below hM hb⟩
  have HC : Hid (∀ w1, Below w0.heap.size w0 w1 → (∀ j x, (#[.int .i64 la, .int .i64 ya, .int .i64 ma, .int .i64 da, .int .i64 ha, .int .i64 ia, .int .i64 sa, .int .i64 pa, .int .i64 ga, .bool true, .int .i64 oa] : Array Value)[j]? = some x → w1.cell? ⟨w.heap.size, j, none⟩ = some x) ∧ (∀ j x, (#[.int .i64 la, .int .i64 yb, .int .i64 mb, .int .i64 db, .int .i64 hb, .int .i64 ib, .int .i64 sb, .int .i64 pb, .int .i64 ga, .bool false, .int .i64 ob] : Array Value)[j]? = some x → w1.cell? ⟨w.heap.size + 1, j, none⟩ = some x) ∧ (∀ j x, (#[.int .i64 lc, .int .i64 yc, .int .i64 mc, .int .i64 dc, .int .i64 hc, .int .i64 ic, .int .i64 sc, .int .i64 pc, .int .i64 gc, .bool zc, .int .i64 oc] : Array Value)[j]? = some x → w1.cell? ⟨w.heap.size + 2, j, none⟩ = some x)) := fun w1 hb => three_cells hw0 hb
  clear hP hM
  have HB0 : Hid (Below w0.heap.size w0 w0) := Below.refl _ _
  have q0 := (HC.out w0 HB0.out).1 0 _ rfl
  have q1 := (HC.out w0 HB0.out).1 1 _ rfl
  have q2 := (HC.out w0 HB0.out).1 2 _ rfl
  have q3 := (HC.out w0 HB0.out).1 3 _ rfl
  have q4 := (HC.out w0 HB0.out).1 4 _ rfl
  have q5 := (HC.out w0 HB0.out).1 5 _ rfl
  have q6 := (HC.out w0 HB0.out).1 6 _ rfl
  have q7 := (HC.out w0 HB0.out).1 7 _ rfl
  have q8 := (HC.out w0 HB0.out).1 8 _ rfl
  have q9 := (HC.out w0 HB0.out).1 9 _ rfl
  have q10 := (HC.out w0 HB0.out).1 10 _ rfl
  have r0 := (HC.out w0 HB0.out).2.1 0 _ rfl
  have r1 := (HC.out w0 HB0.out).2.1 1 _ rfl
  have r2 := (HC.out w0 HB0.out).2.1 2 _ rfl
  have r3 := (HC.out w0 HB0.out).2.1 3 _ rfl
  have r4 := (HC.out w0 HB0.out).2.1 4 _ rfl
  have r5 := (HC.out w0 HB0.out).2.1 5 _ rfl
  have r6 := (HC.out w0 HB0.out).2.1 6 _ rfl
  have r7 := (HC.out w0 HB0.out).2.1 7 _ rfl
  have r8 := (HC.out w0 HB0.out).2.1 8 _ rfl
  have r9 := (HC.out w0 HB0.out).2.1 9 _ rfl
  have r10 := (HC.out w0 HB0.out).2.1 10 _ rfl
  have u0 := (HC.out w0 HB0.out).2.2 0 _ rfl
  have u1 := (HC.out w0 HB0.out).2.2 1 _ rfl
  have u2 := (HC.out w0 HB0.out).2.2 2 _ rfl
  have u3 := (HC.out w0 HB0.out).2.2 3 _ rfl
  have u4 := (HC.out w0 HB0.out).2.2 4 _ rfl
  have u5 := (HC.out w0 HB0.out).2.2 5 _ rfl
  have u6 := (HC.out w0 HB0.out).2.2 6 _ rfl
  have u7 := (HC.out w0 HB0.out).2.2 7 _ rfl
  have u8 := (HC.out w0 HB0.out).2.2 8 _ rfl
  have u9 := (HC.out w0 HB0.out).2.2 9 _ rfl
  have u10 := (HC.out w0 HB0.out).2.2 10 _ rfl
  go_enter Tryd.func7, Tryd.ntmps7
  go_wp2_with fail
  refine (lright_is HRA.out _ (months_below H0.out.2.2 HB0.out) (H0.out.2.1.below HB0.out)).mono ?_
  rintro e w1 ⟨he, hb⟩
  subst he
  have HB1 : Hid (Below w0.heap.size w0 w1) := below_then HB0.out hb
  clear hb HB0
  clear q0 q1 q2 q3 q4 q5 q6 q7 q8 q9 q10 r0 r1 r2 r3 r4 r5 r6 r7 r8 r9 r10 u0 u1 u2 u3 u4 u5 u6 u7 u8 u9 u10
  have q0 := (HC.out w1 HB1.out).1 0 _ rfl
  have q1 := (HC.out w1 HB1.out).1 1 _ rfl
  have q2 := (HC.out w1 HB1.out).1 2 _ rfl
  have q3 := (HC.out w1 HB1.out).1 3 _ rfl
  have q4 := (HC.out w1 HB1.out).1 4 _ rfl
  have q5 := (HC.out w1 HB1.out).1 5 _ rfl
  have q6 := (HC.out w1 HB1.out).1 6 _ rfl
  have q7 := (HC.out w1 HB1.out).1 7 _ rfl
  have q8 := (HC.out w1 HB1.out).1 8 _ rfl
  have q9 := (HC.out w1 HB1.out).1 9 _ rfl
  have q10 := (HC.out w1 HB1.out).1 10 _ rfl
  have r0 := (HC.out w1 HB1.out).2.1 0 _ rfl
  have r1 := (HC.out w1 HB1.out).2.1 1 _ rfl
  have r2 := (HC.out w1 HB1.out).2.1 2 _ rfl
  have r3 := (HC.out w1 HB1.out).2.1 3 _ rfl
  have r4 := (HC.out w1 HB1.out).2.1 4 _ rfl
  have r5 := (HC.out w1 HB1.out).2.1 5 _ rfl
  have r6 := (HC.out w1 HB1.out).2.1 6 _ rfl
  have r7 := (HC.out w1 HB1.out).2.1 7 _ rfl
  have r8 := (HC.out w1 HB1.out).2.1 8 _ rfl
  have r9 := (HC.out w1 HB1.out).2.1 9 _ rfl
  have r10 := (HC.out w1 HB1.out).2.1 10 _ rfl
  have u0 := (HC.out w1 HB1.out).2.2 0 _ rfl
  have u1 := (HC.out w1 HB1.out).2.2 1 _ rfl
  have u2 := (HC.out w1 HB1.out).2.2 2 _ rfl
  have u3 := (HC.out w1 HB1.out).2.2 3 _ rfl
  have u4 := (HC.out w1 HB1.out).2.2 4 _ rfl
  have u5 := (HC.out w1 HB1.out).2.2 5 _ rfl
  have u6 := (HC.out w1 HB1.out).2.2 6 _ rfl
  have u7 := (HC.out w1 HB1.out).2.2 7 _ rfl
  have u8 := (HC.out w1 HB1.out).2.2 8 _ rfl
  have u9 := (HC.out w1 HB1.out).2.2 9 _ rfl
  have u10 := (HC.out w1 HB1.out).2.2 10 _ rfl
  go_wp2_with fail
  refine (lright_is HRB.out _ (months_below H0.out.2.2 HB1.out) (H0.out.2.1.below HB1.out)).mono ?_
  rintro e w2 ⟨he, hb⟩
  subst he
  have HB2 : Hid (Below w0.heap.size w0 w2) := below_then HB1.out hb
  clear hb HB1
  clear q0 q1 q2 q3 q4 q5 q6 q7 q8 q9 q10 r0 r1 r2 r3 r4 r5 r6 r7 r8 r9 r10 u0 u1 u2 u3 u4 u5 u6 u7 u8 u9 u10
  have q0 := (HC.out w2 HB2.out).1 0 _ rfl
  have q1 := (HC.out w2 HB2.out).1 1 _ rfl
  have q2 := (HC.out w2 HB2.out).1 2 _ rfl
  have q3 := (HC.out w2 HB2.out).1 3 _ rfl
  have q4 := (HC.out w2 HB2.out).1 4 _ rfl
  have q5 := (HC.out w2 HB2.out).1 5 _ rfl
  have q6 := (HC.out w2 HB2.out).1 6 _ rfl
  have q7 := (HC.out w2 HB2.out).1 7 _ rfl
  have q8 := (HC.out w2 HB2.out).1 8 _ rfl
  have q9 := (HC.out w2 HB2.out).1 9 _ rfl
  have q10 := (HC.out w2 HB2.out).1 10 _ rfl
  have r0 := (HC.out w2 HB2.out).2.1 0 _ rfl
  have r1 := (HC.out w2 HB2.out).2.1 1 _ rfl
  have r2 := (HC.out w2 HB2.out).2.1 2 _ rfl
  have r3 := (HC.out w2 HB2.out).2.1 3 _ rfl
  have r4 := (HC.out w2 HB2.out).2.1 4 _ rfl
  have r5 := (HC.out w2 HB2.out).2.1 5 _ rfl
  have r6 := (HC.out w2 HB2.out).2.1 6 _ rfl
  have r7 := (HC.out w2 HB2.out).2.1 7 _ rfl
  have r8 := (HC.out w2 HB2.out).2.1 8 _ rfl
  have r9 := (HC.out w2 HB2.out).2.1 9 _ rfl
  have r10 := (HC.out w2 HB2.out).2.1 10 _ rfl
  have u0 := (HC.out w2 HB2.out).2.2 0 _ rfl
  have u1 := (HC.out w2 HB2.out).2.2 1 _ rfl
  have u2 := (HC.out w2 HB2.out).2.2 2 _ rfl
  have u3 := (HC.out w2 HB2.out).2.2 3 _ rfl
  have u4 := (HC.out w2 HB2.out).2.2 4 _ rfl
  have u5 := (HC.out w2 HB2.out).2.2 5 _ rfl
  have u6 := (HC.out w2 HB2.out).2.2 6 _ rfl
  have u7 := (HC.out w2 HB2.out).2.2 7 _ rfl
  have u8 := (HC.out w2 HB2.out).2.2 8 _ rfl
  have u9 := (HC.out w2 HB2.out).2.2 9 _ rfl
  have u10 := (HC.out w2 HB2.out).2.2 10 _ rfl
  go_wp2_with fail
  refine (lright_is HRC.out _ (months_below H0.out.2.2 HB2.out) (H0.out.2.1.below HB2.out)).mono ?_
  rintro e w3 ⟨he, hb⟩
  subst he
  have HB3 : Hid (Below w0.heap.size w0 w3) := below_then HB2.out hb
  clear hb HB2
  clear q0 q1 q2 q3 q4 q5 q6 q7 q8 q9 q10 r0 r1 r2 r3 r4 r5 r6 r7 r8 r9 r10 u0 u1 u2 u3 u4 u5 u6 u7 u8 u9 u10
  have q0 := (HC.out w3 HB3.out).1 0 _ rfl
  have q1 := (HC.out w3 HB3.out).1 1 _ rfl
  have q2 := (HC.out w3 HB3.out).1 2 _ rfl
  have q3 := (HC.out w3 HB3.out).1 3 _ rfl
  have q4 := (HC.out w3 HB3.out).1 4 _ rfl
  have q5 := (HC.out w3 HB3.out).1 5 _ rfl
  have q6 := (HC.out w3 HB3.out).1 6 _ rfl
  have q7 := (HC.out w3 HB3.out).1 7 _ rfl
  have q8 := (HC.out w3 HB3.out).1 8 _ rfl
  have q9 := (HC.out w3 HB3.out).1 9 _ rfl
  have q10 := (HC.out w3 HB3.out).1 10 _ rfl
  have r0 := (HC.out w3 HB3.out).2.1 0 _ rfl
  have r1 := (HC.out w3 HB3.out).2.1 1 _ rfl
  have r2 := (HC.out w3 HB3.out).2.1 2 _ rfl
  have r3 := (HC.out w3 HB3.out).2.1 3 _ rfl
  have r4 := (HC.out w3 HB3.out).2.1 4 _ rfl
  have r5 := (HC.out w3 HB3.out).2.1 5 _ rfl
  have r6 := (HC.out w3 HB3.out).2.1 6 _ rfl
  have r7 := (HC.out w3 HB3.out).2.1 7 _ rfl
  have r8 := (HC.out w3 HB3.out).2.1 8 _ rfl
  have r9 := (HC.out w3 HB3.out).2.1 9 _ rfl
  have r10 := (HC.out w3 HB3.out).2.1 10 _ rfl
  have u0 := (HC.out w3 HB3.out).2.2 0 _ rfl
  have u1 := (HC.out w3 HB3.out).2.2 1 _ rfl
  have u2 := (HC.out w3 HB3.out).2.2 2 _ rfl
  have u3 := (HC.out w3 HB3.out).2.2 3 _ rfl
  have u4 := (HC.out w3 HB3.out).2.2 4 _ rfl
  have u5 := (HC.out w3 HB3.out).2.2 5 _ rfl
  have u6 := (HC.out w3 HB3.out).2.2 6 _ rfl
  have u7 := (HC.out w3 HB3.out).2.2 7 _ rfl
  have u8 := (HC.out w3 HB3.out).2.2 8 _ rfl
  have u9 := (HC.out w3 HB3.out).2.2 9 _ rfl
  have u10 := (HC.out w3 HB3.out).2.2 10 _ rfl
  go_wp2_with fail
  refine (Compare_ok HRA.out HRB.out _ (months_below H0.out.2.2 HB3.out)).mono ?_
  rintro e w4 ⟨he, hb⟩
  rw [HEQ.out.1, HEQ.out.2.2.1, HAB.out] at he
  subst he
  have HB4 : Hid (Below w0.heap.size w0 w4) := below_then HB3.out hb
  clear hb HB3
  clear q0 q1 q2 q3 q4 q5 q6 q7 q8 q9 q10 r0 r1 r2 r3 r4 r5 r6 r7 r8 r9 r10 u0 u1 u2 u3 u4 u5 u6 u7 u8 u9 u10
  have q0 := (HC.out w4 HB4.out).1 0 _ rfl
  have q1 := (HC.out w4 HB4.out).1 1 _ rfl
  have q2 := (HC.out w4 HB4.out).1 2 _ rfl
  have q3 := (HC.out w4 HB4.out).1 3 _ rfl
  have q4 := (HC.out w4 HB4.out).1 4 _ rfl
  have q5 := (HC.out w4 HB4.out).1 5 _ rfl
  have q6 := (HC.out w4 HB4.out).1 6 _ rfl
  have q7 := (HC.out w4 HB4.out).1 7 _ rfl
  have q8 := (HC.out w4 HB4.out).1 8 _ rfl
  have q9 := (HC.out w4 HB4.out).1 9 _ rfl
  have q10 := (HC.out w4 HB4.out).1 10 _ rfl
  have r0 := (HC.out w4 HB4.out).2.1 0 _ rfl
  have r1 := (HC.out w4 HB4.out).2.1 1 _ rfl
  have r2 := (HC.out w4 HB4.out).2.1 2 _ rfl
  have r3 := (HC.out w4 HB4.out).2.1 3 _ rfl
  have r4 := (HC.out w4 HB4.out).2.1 4 _ rfl
  have r5 := (HC.out w4 HB4.out).2.1 5 _ rfl
  have r6 := (HC.out w4 HB4.out).2.1 6 _ rfl
  have r7 := (HC.out w4 HB4.out).2.1 7 _ rfl
  have r8 := (HC.out w4 HB4.out).2.1 8 _ rfl
  have r9 := (HC.out w4 HB4.out).2.1 9 _ rfl
  have r10 := (HC.out w4 HB4.out).2.1 10 _ rfl
  have u0 := (HC.out w4 HB4.out).2.2 0 _ rfl
  have u1 := (HC.out w4 HB4.out).2.2 1 _ rfl
  have u2 := (HC.out w4 HB4.out).2.2 2 _ rfl
  have u3 := (HC.out w4 HB4.out).2.2 3 _ rfl
  have u4 := (HC.out w4 HB4.out).2.2 4 _ rfl
  have u5 := (HC.out w4 HB4.out).2.2 5 _ rfl
  have u6 := (HC.out w4 HB4.out).2.2 6 _ rfl
  have u7 := (HC.out w4 HB4.out).2.2 7 _ rfl
  have u8 := (HC.out w4 HB4.out).2.2 8 _ rfl
  have u9 := (HC.out w4 HB4.out).2.2 9 _ rfl
  have u10 := (HC.out w4 HB4.out).2.2 10 _ rfl
  go_wp2_with fail
  refine (Compare_ok HRB.out HRA.out _ (months_below H0.out.2.2 HB4.out)).mono ?_
  rintro e w5 ⟨he, hb⟩
  rw [HEQ.out.2.2.1, HEQ.out.1, HBA.out] at he
  subst he
  have HB5 : Hid (Below w0.heap.size w0 w5) := below_then HB4.out hb
  clear hb HB4
  clear q0 q1 q2 q3 q4 q5 q6 q7 q8 q9 q10 r0 r1 r2 r3 r4 r5 r6 r7 r8 r9 r10 u0 u1 u2 u3 u4 u5 u6 u7 u8 u9 u10
  have q0 := (HC.out w5 HB5.out).1 0 _ rfl
  have q1 := (HC.out w5 HB5.out).1 1 _ rfl
  have q2 := (HC.out w5 HB5.out).1 2 _ rfl
  have q3 := (HC.out w5 HB5.out).1 3 _ rfl
  have q4 := (HC.out w5 HB5.out).1 4 _ rfl
  have q5 := (HC.out w5 HB5.out).1 5 _ rfl
  have q6 := (HC.out w5 HB5.out).1 6 _ rfl
  have q7 := (HC.out w5 HB5.out).1 7 _ rfl
  have q8 := (HC.out w5 HB5.out).1 8 _ rfl
  have q9 := (HC.out w5 HB5.out).1 9 _ rfl
  have q10 := (HC.out w5 HB5.out).1 10 _ rfl
  have r0 := (HC.out w5 HB5.out).2.1 0 _ rfl
  have r1 := (HC.out w5 HB5.out).2.1 1 _ rfl
  have r2 := (HC.out w5 HB5.out).2.1 2 _ rfl
  have r3 := (HC.out w5 HB5.out).2.1 3 _ rfl
  have r4 := (HC.out w5 HB5.out).2.1 4 _ rfl
  have r5 := (HC.out w5 HB5.out).2.1 5 _ rfl
  have r6 := (HC.out w5 HB5.out).2.1 6 _ rfl
  have r7 := (HC.out w5 HB5.out).2.1 7 _ rfl
  have r8 := (HC.out w5 HB5.out).2.1 8 _ rfl
  have r9 := (HC.out w5 HB5.out).2.1 9 _ rfl
  have r10 := (HC.out w5 HB5.out).2.1 10 _ rfl
  have u0 := (HC.out w5 HB5.out).2.2 0 _ rfl
  have u1 := (HC.out w5 HB5.out).2.2 1 _ rfl
  have u2 := (HC.out w5 HB5.out).2.2 2 _ rfl
  have u3 := (HC.out w5 HB5.out).2.2 3 _ rfl
  have u4 := (HC.out w5 HB5.out).2.2 4 _ rfl
  have u5 := (HC.out w5 HB5.out).2.2 5 _ rfl
  have u6 := (HC.out w5 HB5.out).2.2 6 _ rfl
  have u7 := (HC.out w5 HB5.out).2.2 7 _ rfl
  have u8 := (HC.out w5 HB5.out).2.2 8 _ rfl
  have u9 := (HC.out w5 HB5.out).2.2 9 _ rfl
  have u10 := (HC.out w5 HB5.out).2.2 10 _ rfl
  go_wp2_with fail
  refine (Compare_ok HRB.out HRC.out _ (months_below H0.out.2.2 HB5.out)).mono ?_
  rintro e w6 ⟨he, hb⟩
  rw [HEQ.out.2.2.1, HEQ.out.2.1, HBC.out] at he
  subst he
  have HB6 : Hid (Below w0.heap.size w0 w6) := below_then HB5.out hb
  clear hb HB5
  clear q0 q1 q2 q3 q4 q5 q6 q7 q8 q9 q10 r0 r1 r2 r3 r4 r5 r6 r7 r8 r9 r10 u0 u1 u2 u3 u4 u5 u6 u7 u8 u9 u10
  have q0 := (HC.out w6 HB6.out).1 0 _ rfl
  have q1 := (HC.out w6 HB6.out).1 1 _ rfl
  have q2 := (HC.out w6 HB6.out).1 2 _ rfl
  have q3 := (HC.out w6 HB6.out).1 3 _ rfl
  have q4 := (HC.out w6 HB6.out).1 4 _ rfl
  have q5 := (HC.out w6 HB6.out).1 5 _ rfl
  have q6 := (HC.out w6 HB6.out).1 6 _ rfl
  have q7 := (HC.out w6 HB6.out).1 7 _ rfl
  have q8 := (HC.out w6 HB6.out).1 8 _ rfl
  have q9 := (HC.out w6 HB6.out).1 9 _ rfl
  have q10 := (HC.out w6 HB6.out).1 10 _ rfl
  have r0 := (HC.out w6 HB6.out).2.1 0 _ rfl
  have r1 := (HC.out w6 HB6.out).2.1 1 _ rfl
  have r2 := (HC.out w6 HB6.out).2.1 2 _ rfl
  have r3 := (HC.out w6 HB6.out).2.1 3 _ rfl
  have r4 := (HC.out w6 HB6.out).2.1 4 _ rfl
  have r5 := (HC.out w6 HB6.out).2.1 5 _ rfl
  have r6 := (HC.out w6 HB6.out).2.1 6 _ rfl
  have r7 := (HC.out w6 HB6.out).2.1 7 _ rfl
  have r8 := (HC.out w6 HB6.out).2.1 8 _ rfl
  have r9 := (HC.out w6 HB6.out).2.1 9 _ rfl
  have r10 := (HC.out w6 HB6.out).2.1 10 _ rfl
  have u0 := (HC.out w6 HB6.out).2.2 0 _ rfl
  have u1 := (HC.out w6 HB6.out).2.2 1 _ rfl
  have u2 := (HC.out w6 HB6.out).2.2 2 _ rfl
  have u3 := (HC.out w6 HB6.out).2.2 3 _ rfl
  have u4 := (HC.out w6 HB6.out).2.2 4 _ rfl
  have u5 := (HC.out w6 HB6.out).2.2 5 _ rfl
  have u6 := (HC.out w6 HB6.out).2.2 6 _ rfl
  have u7 := (HC.out w6 HB6.out).2.2 7 _ rfl
  have u8 := (HC.out w6 HB6.out).2.2 8 _ rfl
  have u9 := (HC.out w6 HB6.out).2.2 9 _ rfl
  have u10 := (HC.out w6 HB6.out).2.2 10 _ rfl
  go_wp2_with fail
  refine (Compare_ok HRA.out HRC.out _ (months_below H0.out.2.2 HB6.out)).mono ?_
  rintro e w7 ⟨he, hb⟩
  rw [HEQ.out.1, HEQ.out.2.1, HAC.out] at he
  subst he
  have HB7 : Hid (Below w0.heap.size w0 w7) := below_then HB6.out hb
  clear hb HB6
  clear q0 q1 q2 q3 q4 q5 q6 q7 q8 q9 q10 r0 r1 r2 r3 r4 r5 r6 r7 r8 r9 r10 u0 u1 u2 u3 u4 u5 u6 u7 u8 u9 u10
  have q0 := (HC.out w7 HB7.out).1 0 _ rfl
  have q1 := (HC.out w7 HB7.out).1 1 _ rfl
  have q2 := (HC.out w7 HB7.out).1 2 _ rfl
  have q3 := (HC.out w7 HB7.out).1 3 _ rfl
  have q4 := (HC.out w7 HB7.out).1 4 _ rfl
  have q5 := (HC.out w7 HB7.out).1 5 _ rfl
  have q6 := (HC.out w7 HB7.out).1 6 _ rfl
  have q7 := (HC.out w7 HB7.out).1 7 _ rfl
  have q8 := (HC.out w7 HB7.out).1 8 _ rfl
  have q9 := (HC.out w7 HB7.out).1 9 _ rfl
  have q10 := (HC.out w7 HB7.out).1 10 _ rfl
  have r0 := (HC.out w7 HB7.out).2.1 0 _ rfl
  have r1 := (HC.out w7 HB7.out).2.1 1 _ rfl
  have r2 := (HC.out w7 HB7.out).2.1 2 _ rfl
  have r3 := (HC.out w7 HB7.out).2.1 3 _ rfl
  have r4 := (HC.out w7 HB7.out).2.1 4 _ rfl
  have r5 := (HC.out w7 HB7.out).2.1 5 _ rfl
  have r6 := (HC.out w7 HB7.out).2.1 6 _ rfl
  have r7 := (HC.out w7 HB7.out).2.1 7 _ rfl
  have r8 := (HC.out w7 HB7.out).2.1 8 _ rfl
  have r9 := (HC.out w7 HB7.out).2.1 9 _ rfl
  have r10 := (HC.out w7 HB7.out).2.1 10 _ rfl
  have u0 := (HC.out w7 HB7.out).2.2 0 _ rfl
  have u1 := (HC.out w7 HB7.out).2.2 1 _ rfl
  have u2 := (HC.out w7 HB7.out).2.2 2 _ rfl
  have u3 := (HC.out w7 HB7.out).2.2 3 _ rfl
  have u4 := (HC.out w7 HB7.out).2.2 4 _ rfl
  have u5 := (HC.out w7 HB7.out).2.2 5 _ rfl
  have u6 := (HC.out w7 HB7.out).2.2 6 _ rfl
  have u7 := (HC.out w7 HB7.out).2.2 7 _ rfl
  have u8 := (HC.out w7 HB7.out).2.2 8 _ rfl
  have u9 := (HC.out w7 HB7.out).2.2 9 _ rfl
  have u10 := (HC.out w7 HB7.out).2.2 10 _ rfl
  go_wp2_with fail
  refine (Span_ok HRA.out _ (months_below H0.out.2.2 HB7.out)).mono ?_
  rintro e w8 ⟨he, hb⟩
  rw [HEQ.out.2.2.2.1, HEQ.out.1] at he
  subst he
  have HB8 : Hid (Below w0.heap.size w0 w8) := below_then HB7.out hb
  clear hb HB7
  clear q0 q1 q2 q3 q4 q5 q6 q7 q8 q9 q10 r0 r1 r2 r3 r4 r5 r6 r7 r8 r9 r10 u0 u1 u2 u3 u4 u5 u6 u7 u8 u9 u10
  have q0 := (HC.out w8 HB8.out).1 0 _ rfl
  have q1 := (HC.out w8 HB8.out).1 1 _ rfl
  have q2 := (HC.out w8 HB8.out).1 2 _ rfl
  have q3 := (HC.out w8 HB8.out).1 3 _ rfl
  have q4 := (HC.out w8 HB8.out).1 4 _ rfl
  have q5 := (HC.out w8 HB8.out).1 5 _ rfl
  have q6 := (HC.out w8 HB8.out).1 6 _ rfl
  have q7 := (HC.out w8 HB8.out).1 7 _ rfl
  have q8 := (HC.out w8 HB8.out).1 8 _ rfl
  have q9 := (HC.out w8 HB8.out).1 9 _ rfl
  have q10 := (HC.out w8 HB8.out).1 10 _ rfl
  have r0 := (HC.out w8 HB8.out).2.1 0 _ rfl
  have r1 := (HC.out w8 HB8.out).2.1 1 _ rfl
  have r2 := (HC.out w8 HB8.out).2.1 2 _ rfl
  have r3 := (HC.out w8 HB8.out).2.1 3 _ rfl
  have r4 := (HC.out w8 HB8.out).2.1 4 _ rfl
  have r5 := (HC.out w8 HB8.out).2.1 5 _ rfl
  have r6 := (HC.out w8 HB8.out).2.1 6 _ rfl
  have r7 := (HC.out w8 HB8.out).2.1 7 _ rfl
  have r8 := (HC.out w8 HB8.out).2.1 8 _ rfl
  have r9 := (HC.out w8 HB8.out).2.1 9 _ rfl
  have r10 := (HC.out w8 HB8.out).2.1 10 _ rfl
  have u0 := (HC.out w8 HB8.out).2.2 0 _ rfl
  have u1 := (HC.out w8 HB8.out).2.2 1 _ rfl
  have u2 := (HC.out w8 HB8.out).2.2 2 _ rfl
  have u3 := (HC.out w8 HB8.out).2.2 3 _ rfl
  have u4 := (HC.out w8 HB8.out).2.2 4 _ rfl
  have u5 := (HC.out w8 HB8.out).2.2 5 _ rfl
  have u6 := (HC.out w8 HB8.out).2.2 6 _ rfl
  have u7 := (HC.out w8 HB8.out).2.2 7 _ rfl
  have u8 := (HC.out w8 HB8.out).2.2 8 _ rfl
  have u9 := (HC.out w8 HB8.out).2.2 9 _ rfl
  have u10 := (HC.out w8 HB8.out).2.2 10 _ rfl
  go_wp2_with fail
  refine (Span_ok HRB.out _ (months_below H0.out.2.2 HB8.out)).mono ?_
  rintro e w9 ⟨he, hb⟩
  rw [HEQ.out.2.2.2.2, HEQ.out.2.2.1] at he
  subst he
  have HB9 : Hid (Below w0.heap.size w0 w9) := below_then HB8.out hb
  clear hb HB8
  clear q0 q1 q2 q3 q4 q5 q6 q7 q8 q9 q10 r0 r1 r2 r3 r4 r5 r6 r7 r8 r9 r10 u0 u1 u2 u3 u4 u5 u6 u7 u8 u9 u10
  have q0 := (HC.out w9 HB9.out).1 0 _ rfl
  have q1 := (HC.out w9 HB9.out).1 1 _ rfl
  have q2 := (HC.out w9 HB9.out).1 2 _ rfl
  have q3 := (HC.out w9 HB9.out).1 3 _ rfl
  have q4 := (HC.out w9 HB9.out).1 4 _ rfl
  have q5 := (HC.out w9 HB9.out).1 5 _ rfl
  have q6 := (HC.out w9 HB9.out).1 6 _ rfl
  have q7 := (HC.out w9 HB9.out).1 7 _ rfl
  have q8 := (HC.out w9 HB9.out).1 8 _ rfl
  have q9 := (HC.out w9 HB9.out).1 9 _ rfl
  have q10 := (HC.out w9 HB9.out).1 10 _ rfl
  have r0 := (HC.out w9 HB9.out).2.1 0 _ rfl
  have r1 := (HC.out w9 HB9.out).2.1 1 _ rfl
  have r2 := (HC.out w9 HB9.out).2.1 2 _ rfl
  have r3 := (HC.out w9 HB9.out).2.1 3 _ rfl
  have r4 := (HC.out w9 HB9.out).2.1 4 _ rfl
  have r5 := (HC.out w9 HB9.out).2.1 5 _ rfl
  have r6 := (HC.out w9 HB9.out).2.1 6 _ rfl
  have r7 := (HC.out w9 HB9.out).2.1 7 _ rfl
  have r8 := (HC.out w9 HB9.out).2.1 8 _ rfl
  have r9 := (HC.out w9 HB9.out).2.1 9 _ rfl
  have r10 := (HC.out w9 HB9.out).2.1 10 _ rfl
  have u0 := (HC.out w9 HB9.out).2.2 0 _ rfl
  have u1 := (HC.out w9 HB9.out).2.2 1 _ rfl
  have u2 := (HC.out w9 HB9.out).2.2 2 _ rfl
  have u3 := (HC.out w9 HB9.out).2.2 3 _ rfl
  have u4 := (HC.out w9 HB9.out).2.2 4 _ rfl
  have u5 := (HC.out w9 HB9.out).2.2 5 _ rfl
  have u6 := (HC.out w9 HB9.out).2.2 6 _ rfl
  have u7 := (HC.out w9 HB9.out).2.2 7 _ rfl
  have u8 := (HC.out w9 HB9.out).2.2 8 _ rfl
  have u9 := (HC.out w9 HB9.out).2.2 9 _ rfl
  have u10 := (HC.out w9 HB9.out).2.2 10 _ rfl
  go_wp2_with fail
  all_goals
    refine (anchor_any _ (months_below H0.out.2.2 HB9.out) (H0.out.2.1.below HB9.out)).mono ?_
    rintro e wa ⟨rfl, hb⟩
    have HBa : Hid (Below w.heap.size w wa) := H0.out.1.trans ((below_then HB9.out hb).mono H0.out.1.size)
    clear hb
    go_wp2_with fail
    go_ret
    exact ⟨rfl, HBa.out⟩
set_option maxRecDepth 100000 in
set_option maxHeartbeats 2000000 in
theorem order_N3a_3 (la ya ma da ha ia sa pa ga oa yb mb db hb ib sb pb ob lc yc mc dc hc ic sc pc gc oc : Int) (zc : Bool) (w : World) (h0 : rightB la ya ma da ha ia sa pa ga oa true = true) (h1 : rightB la yb mb db hb ib sb pb ga ob false = true) (h2 : rightB lc yc mc dc hc ic sc pc gc oc zc = true) (hab : instI la ya ma da ha ia sa pa ga oa = instI la yb mb db hb ib sb pb ga ob) (hbc : instI la yb mb db hb ib sb pb ga ob = instI lc yc mc dc hc ic sc pc gc oc) (hP : Pow w) (hM : Months w) : Calls Tryd.prog 7 #[.agg #[.int .i64 la, .int .i64 ya, .int .i64 ma, .int .i64 da, .int .i64 ha, .int .i64 ia, .int .i64 sa, .int .i64 pa, .int .i64 ga, .bool true, .int .i64 oa], .agg #[.int .i64 la, .int .i64 yb, .int .i64 mb, .int .i64 db, .int .i64 hb, .int .i64 ib, .int .i64 sb, .int .i64 pb, .int .i64 ga, .bool false, .int .i64 ob], .agg #[.int .i64 lc, .int .i64 yc, .int .i64 mc, .int .i64 dc, .int .i64 hc, .int .i64 ic, .int .i64 sc, .int .i64 pc, .int .i64 gc, .bool zc, .int .i64 oc]] w fun e w' => e = .returned (.bool true) ∧ Below w.heap.size w w' := by
  have HRA : Hid (rightB la ya ma da ha ia sa pa ga oa true = true) := h0
  have HRB : Hid (rightB la yb mb db hb ib sb pb ga ob false = true) := h1
  have HRC : Hid (rightB lc yc mc dc hc ic sc pc gc oc zc = true) := h2
  have lpa := len_pos la ya ma ga
  have lpb := len_pos la yb mb ga
  clear h0 h2 h1
  obtain ⟨ta, hta⟩ : ∃ t, instI la ya ma da ha ia sa pa ga oa = t := ⟨_, rfl⟩
  obtain ⟨Ya, hya⟩ : ∃ t, instI la ya ma da ha ia sa pa ga oa + lenI la ya ma ga - 1 = t := ⟨_, rfl⟩
  obtain ⟨tb, htb⟩ : ∃ t, instI la yb mb db hb ib sb pb ga ob = t := ⟨_, rfl⟩
  obtain ⟨Yb, hyb⟩ : ∃ t, instI la yb mb db hb ib sb pb ga ob + lenI la yb mb ga - 1 = t := ⟨_, rfl⟩
  obtain ⟨tc, htc⟩ : ∃ t, instI lc yc mc dc hc ic sc pc gc oc = t := ⟨_, rfl⟩
  rw [hta, htb] at hab
  rw [htb, htc] at hbc
  have hxa : ta ≤ Ya := by omega
  have hxb : tb ≤ Yb := by omega
  have HEQ : Hid (instI la ya ma da ha ia sa pa ga oa = ta ∧ instI lc yc mc dc hc ic sc pc gc oc = tc ∧ instI la yb mb db hb ib sb pb ga ob = tb ∧ instI la ya ma da ha ia sa pa ga oa + lenI la ya ma ga - 1 = Ya ∧ instI la yb mb db hb ib sb pb ga ob + lenI la yb mb ga - 1 = Yb) := ⟨hta, htc, htb, hya, hyb⟩
  clear lpa hta htc hya lpb htb hyb
  subst hab
  have HAB : Hid (cmpI ta ta = 0) := (cmp_eq (by omega) (by omega)).symm
  have HBA : Hid (cmpI ta ta = 0) := (cmp_eq (by omega) (by omega)).symm
  have HBC : Hid (cmpI ta tc = 0) := (cmp_eq (by omega) (by omega)).symm
  have HAC : Hid (cmpI ta tc = 0) := (cmp_eq (by omega) (by omega)).symm
  clear hbc
  obtain ⟨w0, hw0⟩ : ∃ w0, ((w.alloc (.cells #[.int .i64 la, .int .i64 ya, .int .i64 ma, .int .i64 da, .int .i64 ha, .int .i64 ia, .int .i64 sa, .int .i64 pa, .int .i64 ga, .bool true, .int .i64 oa] 23)).alloc (.cells #[.int .i64 la, .int .i64 yb, .int .i64 mb, .int .i64 db, .int .i64 hb, .int .i64 ib, .int .i64 sb, .int .i64 pb, .int .i64 ga, .bool false, .int .i64 ob] 23)).alloc (.cells #[.int .i64 lc, .int .i64 yc, .int .i64 mc, .int .i64 dc, .int .i64 hc, .int .i64 ic, .int .i64 sc, .int .i64 pc, .int .i64 gc, .bool zc, .int .i64 oc] 23) = w0 := ⟨_, rfl⟩
  have H0 : Hid (Below w.heap.size w w0 ∧ Pow w0 ∧ Months w0) := by
    have hb : Below w.heap.size w w0 := by rw [← hw0]; exact (((Below.refl _ _).alloc (Nat.le_refl _) _).alloc (by simp) _).alloc (by simp; omega) _
    exact ⟨hb, hP.below hb, months_below hM hb⟩
  have HC : Hid (∀ w1, Below w0.heap.size w0 w1 → (∀ j x, (#[.int .i64 la, .int .i64 ya, .int .i64 ma, .int .i64 da, .int .i64 ha, .int .i64 ia, .int .i64 sa, .int .i64 pa, .int .i64 ga, .bool true, .int .i64 oa] : Array Value)[j]? = some x → w1.cell? ⟨w.heap.size, j, none⟩ = some x) ∧ (∀ j x, (#[.int .i64 la, .int .i64 yb, .int .i64 mb, .int .i64 db, .int .i64 hb, .int .i64 ib, .int .i64 sb, .int .i64 pb, .int .i64 ga, .bool false, .int .i64 ob] : Array Value)[j]? = some x → w1.cell? ⟨w.heap.size + 1, j, none⟩ = some x) ∧ (∀ j x, (#[.int .i64 lc, .int .i64 yc, .int .i64 mc, .int .i64 dc, .int .i64 hc, .int .i64 ic, .int .i64 sc, .int .i64 pc, .int .i64 gc, .bool zc, .int .i64 oc] : Array Value)[j]? = some x → w1.cell? ⟨w.heap.size + 2, j, none⟩ = some x)) := fun w1 hb => three_cells hw0 hb
  clear hP hM
  have HB0 : Hid (Below w0.heap.size w0 w0) := Below.refl _ _
  have q0 := (HC.out w0 HB0.out).1 0 _ rfl
  have q1 := (HC.out w0 HB0.out).1 1 _ rfl
  have q2 := (HC.out w0 HB0.out).1 2 _ rfl
  have q3 := (HC.out w0 HB0.out).1 3 _ rfl
  have q4 := (HC.out w0 HB0.out).1 4 _ rfl
  have q5 := (HC.out w0 HB0.out).1 5 _ rfl
  have q6 := (HC.out w0 HB0.out).1 6 _ rfl
  have q7 := (HC.out w0 HB0.out).1 7 _ rfl
  have q8 := (HC.out w0 HB0.out).1 8 _ rfl
  have q9 := (HC.out w0 HB0.out).1 9 _ rfl
  have q10 := (HC.out w0 HB0.out).1 10 _ rfl
  have r0 := (HC.out w0 HB0.out).2.1 0 _ rfl
  have r1 := (HC.out w0 HB0.out).2.1 1 _ rfl
  have r2 := (HC.out w0 HB0.out).2.1 2 _ rfl
  have r3 := (HC.out w0 HB0.out).2.1 3 _ rfl
  have r4 := (HC.out w0 HB0.out).2.1 4 _ rfl
  have r5 := (HC.out w0 HB0.out).2.1 5 _ rfl
  have r6 := (HC.out w0 HB0.out).2.1 6 _ rfl
  have r7 := (HC.out w0 HB0.out).2.1 7 _ rfl
  have r8 := (HC.out w0 HB0.out).2.1 8 _ rfl
  have r9 := (HC.out w0 HB0.out).2.1 9 _ rfl
  have r10 := (HC.out w0 HB0.out).2.1 10 _ rfl
  have u0 := (HC.out w0 HB0.out).2.2 0 _ rfl
  have u1 := (HC.out w0 HB0.out).2.2 1 _ rfl
  have u2 := (HC.out w0 HB0.out).2.2 2 _ rfl
  have u3 := (HC.out w0 HB0.out).2.2 3 _ rfl
  have u4 := (HC.out w0 HB0.out).2.2 4 _ rfl
  have u5 := (HC.out w0 HB0.out).2.2 5 _ rfl
  have u6 := (HC.out w0 HB0.out).2.2 6 _ rfl
  have u7 := (HC.out w0 HB0.out).2.2 7 _ rfl
  have u8 := (HC.out w0 HB0.out).2.2 8 _ rfl
  have u9 := (HC.out w0 HB0.out).2.2 9 _ rfl
  have u10 := (HC.out w0 HB0.out).2.2 10 _ rfl
  go_enter Tryd.func7, Tryd.ntmps7
  go_wp2_with fail
  refine (lright_is HRA.out _ (months_below H0.out.2.2 HB0.out) (H0.out.2.1.below HB0.out)).mono ?_
  rintro e w1 ⟨he, hb⟩
  subst he
  have HB1 : Hid (Below w0.heap.size w0 w1) := below_then HB0.out hb
  clear hb HB0
  clear q0 q1 q2 q3 q4 q5 q6 q7 q8 q9 q10 r0 r1 r2 r3 r4 r5 r6 r7 r8 r9 r10 u0 u1 u2 u3 u4 u5 u6 u7 u8 u9 u10
  have q0 := (HC.out w1 HB1.out).1 0 _ rfl
  have q1 := (HC.out w1 HB1.out).1 1 _ rfl
  have q2 := (HC.out w1 HB1.out).1 2 _ rfl
  have q3 := (HC.out w1 HB1.out).1 3 _ rfl
  have q4 := (HC.out w1 HB1.out).1 4 _ rfl
  have q5 := (HC.out w1 HB1.out).1 5 _ rfl
  have q6 := (HC.out w1 HB1.out).1 6 _ rfl
  have q7 := (HC.out w1 HB1.out).1 7 _ rfl
  have q8 := (HC.out w1 HB1.out).1 8 _ rfl
  have q9 := (HC.out w1 HB1.out).1 9 _ rfl
  have q10 := (HC.out w1 HB1.out).1 10 _ rfl
  have r0 := (HC.out w1 HB1.out).2.1 0 _ rfl
  have r1 := (HC.out w1 HB1.out).2.1 1 _ rfl
  have r2 := (HC.out w1 HB1.out).2.1 2 _ rfl
  have r3 := (HC.out w1 HB1.out).2.1 3 _ rfl
  have r4 := (HC.out w1 HB1.out).2.1 4 _ rfl
  have r5 := (HC.out w1 HB1.out).2.1 5 _ rfl
  have r6 := (HC.out w1 HB1.out).2.1 6 _ rfl
  have r7 := (HC.out w1 HB1.out).2.1 7 _ rfl
  have r8 := (HC.out w1 HB1.out).2.1 8 _ rfl
  have r9 := (HC.out w1 HB1.out).2.1 9 _ rfl
  have r10 := (HC.out w1 HB1.out).2.1 10 _ rfl
  have u0 := (HC.out w1 HB1.out).2.2 0 _ rfl
  have u1 := (HC.out w1 HB1.out).2.2 1 _ rfl
  have u2 := (HC.out w1 HB1.out).2.2 2 _ rfl
  have u3 := (HC.out w1 HB1.out).2.2 3 _ rfl
  have u4 := (HC.out w1 HB1.out).2.2 4 _ rfl
  have u5 := (HC.out w1 HB1.out).2.2 5 _ rfl
  have u6 := (HC.out w1 HB1.out).2.2 6 _ rfl
  have u7 := (HC.out w1 HB1.out).2.2 7 _ rfl
  have u8 := (HC.out w1 HB1.out).2.2 8 _ rfl
  have u9 := (HC.out w1 HB1.out).2.2 9 _ rfl
  have u10 := (HC.out w1 HB1.out).2.2 10 _ rfl
  go_wp2_with fail
  refine (lright_is HRB.out _ (months_below H0.out.2.2 HB1.out) (H0.out.2.1.below HB1.out)).mono ?_
  rintro e w2 ⟨he, hb⟩
  subst he
  have HB2 : Hid (Below w0.heap.size w0 w2) := below_then HB1.out hb
  clear hb HB1
  clear q0 q1 q2 q3 q4 q5 q6 q7 q8 q9 q10 r0 r1 r2 r3 r4 r5 r6 r7 r8 r9 r10 u0 u1 u2 u3 u4 u5 u6 u7 u8 u9 u10
  have q0 := (HC.out w2 HB2.out).1 0 _ rfl
  have q1 := (HC.out w2 HB2.out).1 1 _ rfl
  have q2 := (HC.out w2 HB2.out).1 2 _ rfl
  have q3 := (HC.out w2 HB2.out).1 3 _ rfl
  have q4 := (HC.out w2 HB2.out).1 4 _ rfl
  have q5 := (HC.out w2 HB2.out).1 5 _ rfl
  have q6 := (HC.out w2 HB2.out).1 6 _ rfl
  have q7 := (HC.out w2 HB2.out).1 7 _ rfl
  have q8 := (HC.out w2 HB2.out).1 8 _ rfl
  have q9 := (HC.out w2 HB2.out).1 9 _ rfl
  have q10 := (HC.out w2 HB2.out).1 10 _ rfl
  have r0 := (HC.out w2 HB2.out).2.1 0 _ rfl
  have r1 := (HC.out w2 HB2.out).2.1 1 _ rfl
  have r2 := (HC.out w2 HB2.out).2.1 2 _ rfl
  have r3 := (HC.out w2 HB2.out).2.1 3 _ rfl
  have r4 := (HC.out w2 HB2.out).2.1 4 _ rfl
  have r5 := (HC.out w2 HB2.out).2.1 5 _ rfl
  have r6 := (HC.out w2 HB2.out).2.1 6 _ rfl
  have r7 := (HC.out w2 HB2.out).2.1 7 _ rfl
  have r8 := (HC.out w2 HB2.out).2.1 8 _ rfl
  have r9 := (HC.out w2 HB2.out).2.1 9 _ rfl
  have r10 := (HC.out w2 HB2.out).2.1 10 _ rfl
  have u0 := (HC.out w2 HB2.out).2.2 0 _ rfl
  have u1 := (HC.out w2 HB2.out).2.2 1 _ rfl
  have u2 := (HC.out w2 HB2.out).2.2 2 _ rfl
  have u3 := (HC.out w2 HB2.out).2.2 3 _ rfl
  have u4 := (HC.out w2 HB2.out).2.2 4 _ rfl
  have u5 := (HC.out w2 HB2.out).2.2 5 _ rfl
  have u6 := (HC.out w2 HB2.out).2.2 6 _ rfl
  have u7 := (HC.out w2 HB2.out).2.2 7 _ rfl
  have u8 := (HC.out w2 HB2.out).2.2 8 _ rfl
  have u9 := (HC.out w2 HB2.out).2.2 9 _ rfl
  have u10 := (HC.out w2 HB2.out).2.2 10 _ rfl
  go_wp2_with fail
  refine (lright_is HRC.out _ (months_below H0.out.2.2 HB2.out) (H0.out.2.1.below HB2.out)).mono ?_
  rintro e w3 ⟨he, hb⟩
  subst he
  have HB3 : Hid (Below w0.heap.size w0 w3) := below_then HB2.out hb
  clear hb HB2
  clear q0 q1 q2 q3 q4 q5 q6 q7 q8 q9 q10 r0 r1 r2 r3 r4 r5 r6 r7 r8 r9 r10 u0 u1 u2 u3 u4 u5 u6 u7 u8 u9 u10
  have q0 := (HC.out w3 HB3.out).1 0 _ rfl
  have q1 := (HC.out w3 HB3.out).1 1 _ rfl
  have q2 := (HC.out w3 HB3.out).1 2 _ rfl
  have q3 := (HC.out w3 HB3.out).1 3 _ rfl
  have q4 := (HC.out w3 HB3.out).1 4 _ rfl
  have q5 := (HC.out w3 HB3.out).1 5 _ rfl
  have q6 := (HC.out w3 HB3.out).1 6 _ rfl
  have q7 := (HC.out w3 HB3.out).1 7 _ rfl
  have q8 := (HC.out w3 HB3.out).1 8 _ rfl
  have q9 := (HC.out w3 HB3.out).1 9 _ rfl
  have q10 := (HC.out w3 HB3.out).1 10 _ rfl
  have r0 := (HC.out w3 HB3.out).2.1 0 _ rfl
  have r1 := (HC.out w3 HB3.out).2.1 1 _ rfl
  have r2 := (HC.out w3 HB3.out).2.1 2 _ rfl
  have r3 := (HC.out w3 HB3.out).2.1 3 _ rfl
  have r4 := (HC.out w3 HB3.out).2.1 4 _ rfl
  have r5 := (HC.out w3 HB3.out).2.1 5 _ rfl
  have r6 := (HC.out w3 HB3.out).2.1 6 _ rfl
  have r7 := (HC.out w3 HB3.out).2.1 7 _ rfl
  have r8 := (HC.out w3 HB3.out).2.1 8 _ rfl
  have r9 := (HC.out w3 HB3.out).2.1 9 _ rfl
  have r10 := (HC.out w3 HB3.out).2.1 10 _ rfl
  have u0 := (HC.out w3 HB3.out).2.2 0 _ rfl
  have u1 := (HC.out w3 HB3.out).2.2 1 _ rfl
  have u2 := (HC.out w3 HB3.out).2.2 2 _ rfl
  have u3 := (HC.out w3 HB3.out).2.2 3 _ rfl
  have u4 := (HC.out w3 HB3.out).2.2 4 _ rfl
  have u5 := (HC.out w3 HB3.out).2.2 5 _ rfl
  have u6 := (HC.out w3 HB3.out).2.2 6 _ rfl
  have u7 := (HC.out w3 HB3.out).2.2 7 _ rfl
  have u8 := (HC.out w3 HB3.out).2.2 8 _ rfl
  have u9 := (HC.out w3 HB3.out).2.2 9 _ rfl
  have u10 := (HC.out w3 HB3.out).2.2 10 _ rfl
  go_wp2_with fail
  refine (Compare_ok HRA.out HRB.out _ (months_below H0.out.2.2 HB3.out)).mono ?_
  rintro e w4 ⟨he, hb⟩
  rw [HEQ.out.1, HEQ.out.2.2.1, HAB.out] at he
  subst he
  have HB4 : Hid (Below w0.heap.size w0 w4) := below_then HB3.out hb
  clear hb HB3
  clear q0 q1 q2 q3 q4 q5 q6 q7 q8 q9 q10 r0 r1 r2 r3 r4 r5 r6 r7 r8 r9 r10 u0 u1 u2 u3 u4 u5 u6 u7 u8 u9 u10
  have q0 := (HC.out w4 HB4.out).1 0 _ rfl
  have q1 := (HC.out w4 HB4.out).1 1 _ rfl
  have q2 := (HC.out w4 HB4.out).1 2 _ rfl
  have q3 := (HC.out w4 HB4.out).1 3 _ rfl
  have q4 := (HC.out w4 HB4.out).1 4 _ rfl
  have q5 := (HC.out w4 HB4.out).1 5 _ rfl
  have q6 := (HC.out w4 HB4.out).1 6 _ rfl
  have q7 := (HC.out w4 HB4.out).1 7 _ rfl
  have q8 := (HC.out w4 HB4.out).1 8 _ rfl
  have q9 := (HC.out w4 HB4.out).1 9 _ rfl
  have q10 := (HC.out w4 HB4.out).1 10 _ rfl
  have r0 := (HC.out w4 HB4.out).2.1 0 _ rfl
  have r1 := (HC.out w4 HB4.out).2.1 1 _ rfl
  have r2 := (HC.out w4 HB4.out).2.1 2 _ rfl
  have r3 := (HC.out w4 HB4.out).2.1 3 _ rfl
  have r4 := (HC.out w4 HB4.out).2.1 4 _ rfl
  have r5 := (HC.out w4 HB4.out).2.1 5 _ rfl
  have r6 := (HC.out w4 HB4.out).2.1 6 _ rfl
  have r7 := (HC.out w4 HB4.out).2.1 7 _ rfl
  have r8 := (HC.out w4 HB4.out).2.1 8 _ rfl
  have r9 := (HC.out w4 HB4.out).2.1 9 _ rfl
  have r10 := (HC.out w4 HB4.out).2.1 10 _ rfl
  have u0 := (HC.out w4 HB4.out).2.2 0 _ rfl
  have u1 := (HC.out w4 HB4.out).2.2 1 _ rfl
  have u2 := (HC.out w4 HB4.out).2.2 2 _ rfl
  have u3 := (HC.out w4 HB4.out).2.2 3 _ rfl
  have u4 := (HC.out w4 HB4.out).2.2 4 _ rfl
  have u5 := (HC.out w4 HB4.out).2.2 5 _ rfl
  have u6 := (HC.out w4 HB4.out).2.2 6 _ rfl
  have u7 := (HC.out w4 HB4.out).2.2 7 _ rfl
  have u8 := (HC.out w4 HB4.out).2.2 8 _ rfl
  have u9 := (HC.out w4 HB4.out).2.2 9 _ rfl
  have u10 := (HC.out w4 HB4.out).2.2 10 _ rfl
  go_wp2_with fail
  refine (Compare_ok HRB.out HRA.out _ (months_below H0.out.2.2 HB4.out)).mono ?_
  rintro e w5 ⟨he, hb⟩
  rw [HEQ.out.2.2.1, HEQ.out.1, HBA.out] at he
  subst he
  have HB5 : Hid (Below w0.heap.size w0 w5) := below_then HB4.out hb
  clear hb HB4
  clear q0 q1 q2 q3 q4 q5 q6 q7 q8 q9 q10 r0 r1 r2 r3 r4 r5 r6 r7 r8 r9 r10 u0 u1 u2 u3 u4 u5 u6 u7 u8 u9 u10
  have q0 := (HC.out w5 HB5.out).1 0 _ rfl
  have q1 := (HC.out w5 HB5.out).1 1 _ rfl
  have q2 := (HC.out w5 HB5.out).1 2 _ rfl
  have q3 := (HC.out w5 HB5.out).1 3 _ rfl
  have q4 := (HC.out w5 HB5.out).1 4 _ rfl
  have q5 := (HC.out w5 HB5.out).1 5 _ rfl
  have q6 := (HC.out w5 HB5.out).1 6 _ rfl
  have q7 := (HC.out w5 HB5.out).1 7 _ rfl
  have q8 := (HC.out w5 HB5.out).1 8 _ rfl
  have q9 := (HC.out w5 HB5.out).1 9 _ rfl
  have q10 := (HC.out w5 HB5.out).1 10 _ rfl
  have r0 := (HC.out w5 HB5.out).2.1 0 _ rfl
  have r1 := (HC.out w5 HB5.out).2.1 1 _ rfl
  have r2 := (HC.out w5 HB5.out).2.1 2 _ rfl
  have r3 := (HC.out w5 HB5.out).2.1 3 _ rfl
  have r4 := (HC.out w5 HB5.out).2.1 4 _ rfl
  have r5 := (HC.out w5 HB5.out).2.1 5 _ rfl
  have r6 := (HC.out w5 HB5.out).2.1 6 _ rfl
  have r7 := (HC.out w5 HB5.out).2.1 7 _ rfl
  have r8 := (HC.out w5 HB5.out).2.1 8 _ rfl
  have r9 := (HC.out w5 HB5.out).2.1 9 _ rfl
  have r10 := (HC.out w5 HB5.out).2.1 10 _ rfl
  have u0 := (HC.out w5 HB5.out).2.2 0 _ rfl
  have u1 := (HC.out w5 HB5.out).2.2 1 _ rfl
  have u2 := (HC.out w5 HB5.out).2.2 2 _ rfl
  have u3 := (HC.out w5 HB5.out).2.2 3 _ rfl
  have u4 := (HC.out w5 HB5.out).2.2 4 _ rfl
  have u5 := (HC.out w5 HB5.out).2.2 5 _ rfl
  have u6 := (HC.out w5 HB5.out).2.2 6 _ rfl
  have u7 := (HC.out w5 HB5.out).2.2 7 _ rfl
  have u8 := (HC.out w5 HB5.out).2.2 8 _ rfl
  have u9 := (HC.out w5 HB5.out).2.2 9 _ rfl
  have u10 := (HC.out w5 HB5.out).2.2 10 _ rfl
  go_wp2_with fail
  refine (Compare_ok HRB.out HRC.out _ (months_below H0.out.2.2 HB5.out)).mono ?_
  rintro e w6 ⟨he, hb⟩
  rw [HEQ.out.2.2.1, HEQ.out.2.1, HBC.out] at he
  subst he
  have HB6 : Hid (Below w0.heap.size w0 w6) := below_then HB5.out hb
  clear hb HB5
  clear q0 q1 q2 q3 q4 q5 q6 q7 q8 q9 q10 r0 r1 r2 r3 r4 r5 r6 r7 r8 r9 r10 u0 u1 u2 u3 u4 u5 u6 u7 u8 u9 u10
  have q0 := (HC.out w6 HB6.out).1 0 _ rfl
  have q1 := (HC.out w6 HB6.out).1 1 _ rfl
  have q2 := (HC.out w6 HB6.out).1 2 _ rfl
  have q3 := (HC.out w6 HB6.out).1 3 _ rfl
  have q4 := (HC.out w6 HB6.out).1 4 _ rfl
  have q5 := (HC.out w6 HB6.out).1 5 _ rfl
  have q6 := (HC.out w6 HB6.out).1 6 _ rfl
  have q7 := (HC.out w6 HB6.out).1 7 _ rfl
  have q8 := (HC.out w6 HB6.out).1 8 _ rfl
  have q9 := (HC.out w6 HB6.out).1 9 _ rfl
  have q10 := (HC.out w6 HB6.out).1 10 _ rfl
  have r0 := (HC.out w6 HB6.out).2.1 0 _ rfl
  have r1 := (HC.out w6 HB6.out).2.1 1 _ rfl
  have r2 := (HC.out w6 HB6.out).2.1 2 _ rfl
  have r3 := (HC.out w6 HB6.out).2.1 3 _ rfl
  have r4 := (HC.out w6 HB6.out).2.1 4 _ rfl
  have r5 := (HC.out w6 HB6.out).2.1 5 _ rfl
  have r6 := (HC.out w6 HB6.out).2.1 6 _ rfl
  have r7 := (HC.out w6 HB6.out).2.1 7 _ rfl
  have r8 := (HC.out w6 HB6.out).2.1 8 _ rfl
  have r9 := (HC.out w6 HB6.out).2.1 9 _ rfl
  have r10 := (HC.out w6 HB6.out).2.1 10 _ rfl
  have u0 := (HC.out w6 HB6.out).2.2 0 _ rfl
  have u1 := (HC.out w6 HB6.out).2.2 1 _ rfl
  have u2 := (HC.out w6 HB6.out).2.2 2 _ rfl
  have u3 := (HC.out w6 HB6.out).2.2 3 _ rfl
  have u4 := (HC.out w6 HB6.out).2.2 4 _ rfl
  have u5 := (HC.out w6 HB6.out).2.2 5 _ rfl
  have u6 := (HC.out w6 HB6.out).2.2 6 _ rfl
  have u7 := (HC.out w6 HB6.out).2.2 7 _ rfl
  have u8 := (HC.out w6 HB6.out).2.2 8 _ rfl
  have u9 := (HC.out w6 HB6.out).2.2 9 _ rfl
  have u10 := (HC.out w6 HB6.out).2.2 10 _ rfl
  go_wp2_with fail
  refine (Compare_ok HRA.out HRC.out _ (months_below H0.out.2.2 HB6.out)).mono ?_
  rintro e w7 ⟨he, hb⟩
  rw [HEQ.out.1, HEQ.out.2.1, HAC.out] at he
  subst he
  have HB7 : Hid (Below w0.heap.size w0 w7) := below_then HB6.out hb
  clear hb HB6
  clear q0 q1 q2 q3 q4 q5 q6 q7 q8 q9 q10 r0 r1 r2 r3 r4 r5 r6 r7 r8 r9 r10 u0 u1 u2 u3 u4 u5 u6 u7 u8 u9 u10
  have q0 := (HC.out w7 HB7.out).1 0 _ rfl
  have q1 := (HC.out w7 HB7.out).1 1 _ rfl
  have q2 := (HC.out w7 HB7.out).1 2 _ rfl
  have q3 := (HC.out w7 HB7.out).1 3 _ rfl
  have q4 := (HC.out w7 HB7.out).1 4 _ rfl
  have q5 := (HC.out w7 HB7.out).1 5 _ rfl
  have q6 := (HC.out w7 HB7.out).1 6 _ rfl
  have q7 := (HC.out w7 HB7.out).1 7 _ rfl
  have q8 := (HC.out w7 HB7.out).1 8 _ rfl
  have q9 := (HC.out w7 HB7.out).1 9 _ rfl
  have q10 := (HC.out w7 HB7.out).1 10 _ rfl
  have r0 := (HC.out w7 HB7.out).2.1 0 _ rfl
  have r1 := (HC.out w7 HB7.out).2.1 1 _ rfl
  have r2 := (HC.out w7 HB7.out).2.1 2 _ rfl
  have r3 := (HC.out w7 HB7.out).2.1 3 _ rfl
  have r4 := (HC.out w7 HB7.out).2.1 4 _ rfl
  have r5 := (HC.out w7 HB7.out).2.1 5 _ rfl
  have r6 := (HC.out w7 HB7.out).2.1 6 _ rfl
  have r7 := (HC.out w7 HB7.out).2.1 7 _ rfl
  have r8 := (HC.out w7 HB7.out).2.1 8 _ rfl
  have r9 := (HC.out w7 HB7.out).2.1 9 _ rfl
  have r10 := (HC.out w7 HB7.out).2.1 10 _ rfl
  have u0 := (HC.out w7 HB7.out).2.2 0 _ rfl
  have u1 := (HC.out w7 HB7.out).2.2 1 _ rfl
  have u2 := (HC.out w7 HB7.out).2.2 2 _ rfl
  have u3 := (HC.out w7 HB7.out).2.2 3 _ rfl
  have u4 := (HC.out w7 HB7.out).2.2 4 _ rfl
  have u5 := (HC.out w7 HB7.out).2.2 5 _ rfl
  have u6 := (HC.out w7 HB7.out).2.2 6 _ rfl
  have u7 := (HC.out w7 HB7.out).2.2 7 _ rfl
  have u8 := (HC.out w7 HB7.out).2.2 8 _ rfl
  have u9 := (HC.out w7 HB7.out).2.2 9 _ rfl
  have u10 := (HC.out w7 HB7.out).2.2 10 _ rfl
  go_wp2_with fail
  refine (Span_ok HRA.out _ (months_below H0.out.2.2 HB7.out)).mono ?_
  rintro e w8 ⟨he, hb⟩
  rw [HEQ.out.2.2.2.1, HEQ.out.1] at he
  subst he
  have HB8 : Hid (Below w0.heap.size w0 w8) := below_then HB7.out hb
  clear hb HB7
  clear q0 q1 q2 q3 q4 q5 q6 q7 q8 q9 q10 r0 r1 r2 r3 r4 r5 r6 r7 r8 r9 r10 u0 u1 u2 u3 u4 u5 u6 u7 u8 u9 u10
  have q0 := (HC.out w8 HB8.out).1 0 _ rfl
  have q1 := (HC.out w8 HB8.out).1 1 _ rfl
  have q2 := (HC.out w8 HB8.out).1 2 _ rfl
  have q3 := (HC.out w8 HB8.out).1 3 _ rfl
  have q4 := (HC.out w8 HB8.out).1 4 _ rfl
  have q5 := (HC.out w8 HB8.out).1 5 _ rfl
  have q6 := (HC.out w8 HB8.out).1 6 _ rfl
  have q7 := (HC.out w8 HB8.out).1 7 _ rfl
  have q8 := (HC.out w8 HB8.out).1 8 _ rfl
  have q9 := (HC.out w8 HB8.out).1 9 _ rfl
  have q10 := (HC.out w8 HB8.out).1 10 _ rfl
  have r0 := (HC.out w8 HB8.out).2.1 0 _ rfl
  have r1 := (HC.out w8 HB8.out).2.1 1 _ rfl
  have r2 := (HC.out w8 HB8.out).2.1 2 _ rfl
  have r3 := (HC.out w8 HB8.out).2.1 3 _ rfl
  have r4 := (HC.out w8 HB8.out).2.1 4 _ rfl
  have r5 := (HC.out w8 HB8.out).2.1 5 _ rfl
  have r6 := (HC.out w8 HB8.out).2.1 6 _ rfl
  have r7 := (HC.out w8 HB8.out).2.1 7 _ rfl
  have r8 := (HC.out w8 HB8.out).2.1 8 _ rfl
  have r9 := (HC.out w8 HB8.out).2.1 9 _ rfl
  have r10 := (HC.out w8 HB8.out).2.1 10 _ rfl
  have u0 := (HC.out w8 HB8.out).2.2 0 _ rfl
  have u1 := (HC.out w8 HB8.out).2.2 1 _ rfl
  have u2 := (HC.out w8 HB8.out).2.2 2 _ rfl
  have u3 := (HC.out w8 HB8.out).2.2 3 _ rfl
  have u4 := (HC.out w8 HB8.out).2.2 4 _ rfl
  have u5 := (HC.out w8 HB8.out).2.2 5 _ rfl
  have u6 := (HC.out w8 HB8.out).2.2 6 _ rfl
  have u7 := (HC.out w8 HB8.out).2.2 7 _ rfl
  have u8 := (HC.out w8 HB8.out).2.2 8 _ rfl
  have u9 := (HC.out w8 HB8.out).2.2 9 _ rfl
  have u10 := (HC.out w8 HB8.out).2.2 10 _ rfl
  go_wp2_with fail
  refine (Span_ok HRB.out _ (months_below H0.out.2.2 HB8.out)).mono ?_
  rintro e w9 ⟨he, hb⟩
  rw [HEQ.out.2.2.2.2, HEQ.out.2.2.1] at he
  subst he
  have HB9 : Hid (Below w0.heap.size w0 w9) := below_then HB8.out hb
  clear hb HB8
  clear q0 q1 q2 q3 q4 q5 q6 q7 q8 q9 q10 r0 r1 r2 r3 r4 r5 r6 r7 r8 r9 r10 u0 u1 u2 u3 u4 u5 u6 u7 u8 u9 u10
  have q0 := (HC.out w9 HB9.out).1 0 _ rfl
  have q1 := (HC.out w9 HB9.out).1 1 _ rfl
  have q2 := (HC.out w9 HB9.out).1 2 _ rfl
  have q3 := (HC.out w9 HB9.out).1 3 _ rfl
  have q4 := (HC.out w9 HB9.out).1 4 _ rfl
  have q5 := (HC.out w9 HB9.out).1 5 _ rfl
  have q6 := (HC.out w9 HB9.out).1 6 _ rfl
  have q7 := (HC.out w9 HB9.out).1 7 _ rfl
  have q8 := (HC.out w9 HB9.out).1 8 _ rfl
  have q9 := (HC.out w9 HB9.out).1 9 _ rfl
  have q10 := (HC.out w9 HB9.out).1 10 _ rfl
  have r0 := (HC.out w9 HB9.out).2.1 0 _ rfl
  have r1 := (HC.out w9 HB9.out).2.1 1 _ rfl
  have r2 := (HC.out w9 HB9.out).2.1 2 _ rfl
  have r3 := (HC.out w9 HB9.out).2.1 3 _ rfl
  have r4 := (HC.out w9 HB9.out).2.1 4 _ rfl
  have r5 := (HC.out w9 HB9.out).2.1 5 _ rfl
  have r6 := (HC.out w9 HB9.out).2.1 6 _ rfl
  have r7 := (HC.out w9 HB9.out).2.1 7 _ rfl
  have r8 := (HC.out w9 HB9.out).2.1 8 _ rfl
  have r9 := (HC.out w9 HB9.out).2.1 9 _ rfl
  have r10 := (HC.out w9 HB9.out).2.1 10 _ rfl
  have u0 := (HC.out w9 HB9.out).2.2 0 _ rfl
  have u1 := (HC.out w9 HB9.out).2.2 1 _ rfl
  have u2 := (HC.out w9 HB9.out).2.2 2 _ rfl
  have u3 := (HC.out w9 HB9.out).2.2 3 _ rfl
  have u4 := (HC.out w9 HB9.out).2.2 4 _ rfl
  have u5 := (HC.out w9 HB9.out).2.2 5 _ rfl
  have u6 := (HC.out w9 HB9.out).2.2 6 _ rfl
  have u7 := (HC.out w9 HB9.out).2.2 7 _ rfl
  have u8 := (HC.out w9 HB9.out).2.2 8 _ rfl
  have u9 := (HC.out w9 HB9.out).2.2 9 _ rfl
  have u10 := (HC.out w9 HB9.out).2.2 10 _ rfl
  go_wp2_with fail
  all_goals
    refine (anchor_any _ (months_below H0.out.2.2 HB9.out) (H0.out.2.1.below HB9.out)).mono ?_
    rintro e wa ⟨rfl, hb⟩
    have HBa : Hid (Below w.heap.size w wa) := H0.out.1.trans ((below_then HB9.out hb).mono H0.out.1.size)
    clear hb
    go_wp2_with fail
    go_ret
    exact ⟨rfl, HBa.out⟩
set_option maxRecDepth 100000 in
set_option maxHeartbeats 2000000 in
theorem order_N3a_4 (la ya ma da ha ia sa pa ga oa yb mb db hb ib sb pb ob lc yc mc dc hc ic sc pc gc oc : Int) (zc : Bool) (w : World) (h0 : rightB la ya ma da ha ia sa pa ga oa true = true) (h1 : rightB la yb mb db hb ib sb pb ga ob false = true) (h2 : rightB lc yc mc dc hc ic sc pc gc oc zc = true) (hab : instI la ya ma da ha ia sa pa ga oa = instI la yb mb db hb ib sb pb ga ob) (hbc : instI lc yc mc dc hc ic sc pc gc oc < instI la yb mb db hb ib sb pb ga ob) (hP : Pow w) (hM : Months w) : Calls Tryd.prog 7 #[.agg #[.int .i64 la, .int .i64 ya, .int .i64 ma, .int .i64 da, .int .i64 ha, .int .i64 ia, .int .i64 sa, .int .i64 pa, .int .i64 ga, .bool true, .int .i64 oa], .agg #[.int .i64 la, .int .i64 yb, .int .i64 mb, .int .i64 db, .int .i64 hb, .int .i64 ib, .int .i64 sb, .int .i64 pb, .int .i64 ga, .bool false, .int .i64 ob], .agg #[.int .i64 lc, .int .i64 yc, .int .i64 mc, .int .i64 dc, .int .i64 hc, .int .i64 ic, .int .i64 sc, .int .i64 pc, .int .i64 gc, .bool zc, .int .i64 oc]] w fun e w' => e = .returned (.bool true) ∧ Below w.heap.size w w' := by
  have HRA : Hid (rightB la ya ma da ha ia sa pa ga oa true = true) := h0
  have HRB : Hid (rightB la yb mb db hb ib sb pb ga ob false = true) := h1
  have HRC : Hid (rightB lc yc mc dc hc ic sc pc gc oc zc = true) := h2
  have lpa := len_pos la ya ma ga
  have lpb := len_pos la yb mb ga
  clear h0 h2 h1
  obtain ⟨ta, hta⟩ : ∃ t, instI la ya ma da ha ia sa pa ga oa = t := ⟨_, rfl⟩
  obtain ⟨Ya, hya⟩ : ∃ t, instI la ya ma da ha ia sa pa ga oa + lenI la ya ma ga - 1 = t := ⟨_, rfl⟩
  obtain ⟨tb, htb⟩ : ∃ t, instI la yb mb db hb ib sb pb ga ob = t := ⟨_, rfl⟩
  obtain ⟨Yb, hyb⟩ : ∃ t, instI la yb mb db hb ib sb pb ga ob + lenI la yb mb ga - 1 = t := ⟨_, rfl⟩
  obtain ⟨tc, htc⟩ : ∃ t, instI lc yc mc dc hc ic sc pc gc oc = t := ⟨_, rfl⟩
  rw [hta, htb] at hab
  rw [htb, htc] at hbc
  have hxa : ta ≤ Ya := by omega
  have hxb : tb ≤ Yb := by omega
  have HEQ : Hid (instI la ya ma da ha ia sa pa ga oa = ta ∧ instI lc yc mc dc hc ic sc pc gc oc = tc ∧ instI la yb mb db hb ib sb pb ga ob = tb ∧ instI la ya ma da ha ia sa pa ga oa + lenI la ya ma ga - 1 = Ya ∧ instI la yb mb db hb ib sb pb ga ob + lenI la yb mb ga - 1 = Yb) := ⟨hta, htc, htb, hya, hyb⟩
  clear lpa hta htc hya lpb htb hyb
  subst hab
  have HAB : Hid (cmpI ta ta = 0) := (cmp_eq (by omega) (by omega)).symm
  have HBA : Hid (cmpI ta ta = 0) := (cmp_eq (by omega) (by omega)).symm
  have HBC : Hid (cmpI ta tc = 1) := (cmp_gt (by omega)).symm
  have HAC : Hid (cmpI ta tc = 1) := (cmp_gt (by omega)).symm
  clear hbc
  obtain ⟨w0, hw0⟩ : ∃ w0, ((w.alloc (.cells #[.int .i64 la, .int .i64 ya, .int .i64 ma, .int .i64 da, .int .i64 ha, .int .i64 ia, .int .i64 sa, .int .i64 pa, .int .i64 ga, .bool true, .int .i64 oa] 23)).alloc (.cells #[.int .i64 la, .int .i64 yb, .int .i64 mb, .int .i64 db, .int .i64 hb, .int .i64 ib, .int .i64 sb, .int .i64 pb, .int .i64 ga, .bool false, .int .i64 ob] 23)).alloc (.cells #[.int .i64 lc, .int .i64 yc, .int .i64 mc, .int .i64 dc, .int .i64 hc, .int .i64 ic, .int .i64 sc, .int .i64 pc, .int .i64 gc, .bool zc, .int .i64 oc] 23) = w0 := ⟨_, rfl⟩
  have H0 : Hid (Below w.heap.size w w0 ∧ Pow w0 ∧ Months w0) := by
    have hb : Below w.heap.size w w0 := by rw [← hw0]; exact (((Below.refl _ _).alloc (Nat.le_refl _) _).alloc (by simp) _).alloc (by simp; omega) _
    exact ⟨hb, hP.below hb, months_below hM hb⟩
  have HC : Hid (∀ w1, Below w0.heap.size w0 w1 → (∀ j x, (#[.int .i64 la, .int .i64 ya, .int .i64 ma, .int .i64 da, .int .i64 ha, .int .i64 ia, .int .i64 sa, .int .i64 pa, .int .i64 ga, .bool true, .int .i64 oa] : Array Value)[j]? = some x → w1.cell? ⟨w.heap.size, j, none⟩ = some x) ∧ (∀ j x, (#[.int .i64 la, .int .i64 yb, .int .i64 mb, .int .i64 db, .int .i64 hb, .int .i64 ib, .int .i64 sb, .int .i64 pb, .int .i64 ga, .bool false, .int .i64 ob] : Array Value)[j]? = some x → w1.cell? ⟨w.heap.size + 1, j, none⟩ = some x) ∧ (∀ j x, (#[.int .i64 lc, .int .i64 yc, .int .i64 mc, .int .i64 dc, .int .i64 hc, .int .i64 ic, .int .i64 sc, .int .i64 pc, .int .i64 gc, .bool zc, .int .i64 oc] : Array Value)[j]? = some x → w1.cell? ⟨w.heap.size + 2, j, none⟩ = some x)) := fun w1 hb => three_cells hw0 hb
  clear hP hM
  have HB0 : Hid (Below w0.heap.size w0 w0) := Below.refl _ _
  have q0 := (HC.out w0 HB0.out).1 0 _ rfl
  have q1 := (HC.out w0 HB0.out).1 1 _ rfl
  have q2 := (HC.out w0 HB0.out).1 2 _ rfl
  have q3 := (HC.out w0 HB0.out).1 3 _ rfl
  have q4 := (HC.out w0 HB0.out).1 4 _ rfl
  have q5 := (HC.out w0 HB0.out).1 5 _ rfl
  have q6 := (HC.out w0 HB0.out).1 6 _ rfl
  have q7 := (HC.out w0 HB0.out).1 7 _ rfl
  have q8 := (HC.out w0 HB0.out).1 8 _ rfl
  have q9 := (HC.out w0 HB0.out).1 9 _ rfl
  have q10 := (HC.out w0 HB0.out).1 10 _ rfl
  have r0 := (HC.out w0 HB0.out).2.1 0 _ rfl
  have r1 := (HC.out w0 HB0.out).2.1 1 _ rfl
  have r2 := (HC.out w0 HB0.out).2.1 2 _ rfl
  have r3 := (HC.out w0 HB0.out).2.1 3 _ rfl
  have r4 := (HC.out w0 HB0.out).2.1 4 _ rfl
  have r5 := (HC.out w0 HB0.out).2.1 5 _ rfl
  have r6 := (HC.out w0 HB0.out).2.1 6 _ rfl
  have r7 := (HC.out w0 HB0.out).2.1 7 _ rfl
  have r8 := (HC.out w0 HB0.out).2.1 8 _ rfl
  have r9 := (HC.out w0 HB0.out).2.1 9 _ rfl
  have r10 := (HC.out w0 HB0.out).2.1 10 _ rfl
  have u0 := (HC.out w0 HB0.out).2.2 0 _ rfl
  have u1 := (HC.out w0 HB0.out).2.2 1 _ rfl
  have u2 := (HC.out w0 HB0.out).2.2 2 _ rfl
  have u3 := (HC.out w0 HB0.out).2.2 3 _ rfl
  have u4 := (HC.out w0 HB0.out).2.2 4 _ rfl
  have u5 := (HC.out w0 HB0.out).2.2 5 _ rfl
  have u6 := (HC.out w0 HB0.out).2.2 6 _ rfl
  have u7 := (HC.out w0 HB0.out).2.2 7 _ rfl
  have u8 := (HC.out w0 HB0.out).2.2 8 _ rfl
  have u9 := (HC.out w0 HB0.out).2.2 9 _ rfl
  have u10 := (HC.out w0 HB0.out).2.2 10 _ rfl
  go_enter Tryd.func7, Tryd.ntmps7
  go_wp2_with fail
  refine (lright_is HRA.out _ (months_below H0.out.2.2 HB0.out) (H0.out.2.1.below HB0.out)).mono ?_
  rintro e w1 ⟨he, hb⟩
  subst he
  have HB1 : Hid (Below w0.heap.size w0 w1) := below_then HB0.out hb
  clear hb HB0
  clear q0 q1 q2 q3 q4 q5 q6 q7 q8 q9 q10 r0 r1 r2 r3 r4 r5 r6 r7 r8 r9 r10 u0 u1 u2 u3 u4 u5 u6 u7 u8 u9 u10
  have q0 := (HC.out w1 HB1.out).1 0 _ rfl
  have q1 := (HC.out w1 HB1.out).1 1 _ rfl
  have q2 := (HC.out w1 HB1.out).1 2 _ rfl
  have q3 := (HC.out w1 HB1.out).1 3 _ rfl
  have q4 := (HC.out w1 HB1.out).1 4 _ rfl
  have q5 := (HC.out w1 HB1.out).1 5 _ rfl
  have q6 := (HC.out w1 HB1.out).1 6 _ rfl
  have q7 := (HC.out w1 HB1.out).1 7 _ rfl
  have q8 := (HC.out w1 HB1.out).1 8 _ rfl
  have q9 := (HC.out w1 HB1.out).1 9 _ rfl
  have q10 := (HC.out w1 HB1.out).1 10 _ rfl
  have r0 := (HC.out w1 HB1.out).2.1 0 _ rfl
  have r1 := (HC.out w1 HB1.out).2.1 1 _ rfl
  have r2 := (HC.out w1 HB1.out).2.1 2 _ rfl
  have r3 := (HC.out w1 HB1.out).2.1 3 _ rfl
  have r4 := (HC.out w1 HB1.out).2.1 4 _ rfl
  have r5 := (HC.out w1 HB1.out).2.1 5 _ rfl
  have r6 := (HC.out w1 HB1.out).2.1 6 _ rfl
  have r7 := (HC.out w1 HB1.out).2.1 7 _ rfl
  have r8 := (HC.out w1 HB1.out).2.1 8 _ rfl
  have r9 := (HC.out w1 HB1.out).2.1 9 _ rfl
  have r10 := (HC.out w1 HB1.out).2.1 10 _ rfl
  have u0 := (HC.out w1 HB1.out).2.2 0 _ rfl
  have u1 := (HC.out w1 HB1.out).2.2 1 _ rfl
  have u2 := (HC.out w1 HB1.out).2.2 2 _ rfl
  have u3 := (HC.out w1 HB1.out).2.2 3 _ rfl
  have u4 := (HC.out w1 HB1.out).2.2 4 _ rfl
  have u5 := (HC.out w1 HB1.out).2.2 5 _ rfl
  have u6 := (HC.out w1 HB1.out).2.2 6 _ rfl
  have u7 := (HC.out w1 HB1.out).2.2 7 _ rfl
  have u8 := (HC.out w1 HB1.out).2.2 8 _ rfl
  have u9 := (HC.out w1 HB1.out).2.2 9 _ rfl
  have u10 := (HC.out w1 HB1.out).2.2 10 _ rfl
  go_wp2_with fail
  refine (lright_is HRB.out _ (months_below H0.out.2.2 HB1.out) (H0.out.2.1.below HB1.out)).mono ?_
  rintro e w2 ⟨he, hb⟩
  subst he
  have HB2 : Hid (Below w0.heap.size w0 w2) := below_then HB1.out hb
  clear hb HB1
  clear q0 q1 q2 q3 q4 q5 q6 q7 q8 q9 q10 r0 r1 r2 r3 r4 r5 r6 r7 r8 r9 r10 u0 u1 u2 u3 u4 u5 u6 u7 u8 u9 u10
  have q0 := (HC.out w2 HB2.out).1 0 _ rfl
  have q1 := (HC.out w2 HB2.out).1 1 _ rfl
  have q2 := (HC.out w2 HB2.out).1 2 _ rfl
  have q3 := (HC.out w2 HB2.out).1 3 _ rfl
  have q4 := (HC.out w2 HB2.out).1 4 _ rfl
  have q5 := (HC.out w2 HB2.out).1 5 _ rfl
  have q6 := (HC.out w2 HB2.out).1 6 _ rfl
  have q7 := (HC.out w2 HB2.out).1 7 _ rfl
  have q8 := (HC.out w2 HB2.out).1 8 _ rfl
  have q9 := (HC.out w2 HB2.out).1 9 _ rfl
  have q10 := (HC.out w2 HB2.out).1 10 _ rfl
  have r0 := (HC.out w2 HB2.out).2.1 0 _ rfl
  have r1 := (HC.out w2 HB2.out).2.1 1 _ rfl
  have r2 := (HC.out w2 HB2.out).2.1 2 _ rfl
  have r3 := (HC.out w2 HB2.out).2.1 3 _ rfl
  have r4 := (HC.out w2 HB2.out).2.1 4 _ rfl
  have r5 := (HC.out w2 HB2.out).2.1 5 _ rfl
  have r6 := (HC.out w2 HB2.out).2.1 6 _ rfl
  have r7 := (HC.out w2 HB2.out).2.1 7 _ rfl
  have r8 := (HC.out w2 HB2.out).2.1 8 _ rfl
  have r9 := (HC.out w2 HB2.out).2.1 9 _ rfl
  have r10 := (HC.out w2 HB2.out).2.1 10 _ rfl
  have u0 := (HC.out w2 HB2.out).2.2 0 _ rfl
  have u1 := (HC.out w2 HB2.out).2.2 1 _ rfl
  have u2 := (HC.out w2 HB2.out).2.2 2 _ rfl
  have u3 := (HC.out w2 HB2.out).2.2 3 _ rfl
  have u4 := (HC.out w2 HB2.out).2.2 4 _ rfl
  have u5 := (HC.out w2 HB2.out).2.2 5 _ rfl
  have u6 := (HC.out w2 HB2.out).2.2 6 _ rfl
  have u7 := (HC.out w2 HB2.out).2.2 7 _ rfl
  have u8 := (HC.out w2 HB2.out).2.2 8 _ rfl
  have u9 := (HC.out w2 HB2.out).2.2 9 _ rfl
  have u10 := (HC.out w2 HB2.out).2.2 10 _ rfl
  go_wp2_with fail
  refine (lright_is HRC.out _ (months_below H0.out.2.2 HB2.out) (H0.out.2.1.below HB2.out)).mono ?_
  rintro e w3 ⟨he, hb⟩
  subst he
  have HB3 : Hid (Below w0.heap.size w0 w3) := below_then HB2.out hb
  clear hb HB2
  clear q0 q1 q2 q3 q4 q5 q6 q7 q8 q9 q10 r0 r1 r2 r3 r4 r5 r6 r7 r8 r9 r10 u0 u1 u2 u3 u4 u5 u6 u7 u8 u9 u10
  have q0 := (HC.out w3 HB3.out).1 0 _ rfl
  have q1 := (HC.out w3 HB3.out).1 1 _ rfl
  have q2 := (HC.out w3 HB3.out).1 2 _ rfl
  have q3 := (HC.out w3 HB3.out).1 3 _ rfl
  have q4 := (HC.out w3 HB3.out).1 4 _ rfl
  have q5 := (HC.out w3 HB3.out).1 5 _ rfl
  have q6 := (HC.out w3 HB3.out).1 6 _ rfl
  have q7 := (HC.out w3 HB3.out).1 7 _ rfl
  have q8 := (HC.out w3 HB3.out).1 8 _ rfl
  have q9 := (HC.out w3 HB3.out).1 9 _ rfl
  have q10 := (HC.out w3 HB3.out).1 10 _ rfl
  have r0 := (HC.out w3 HB3.out).2.1 0 _ rfl
  have r1 := (HC.out w3 HB3.out).2.1 1 _ rfl
  have r2 := (HC.out w3 HB3.out).2.1 2 _ rfl
  have r3 := (HC.out w3 HB3.out).2.1 3 _ rfl
  have r4 := (HC.out w3 HB3.out).2.1 4 _ rfl
  have r5 := (HC.out w3 HB3.out).2.1 5 _ rfl
  have r6 := (HC.out w3 HB3.out).2.1 6 _ rfl
  have r7 := (HC.out w3 HB3.out).2.1 7 _ rfl
  have r8 := (HC.out w3 HB3.out).2.1 8 _ rfl
  have r9 := (HC.out w3 HB3.out).2.1 9 _ rfl
  have r10 := (HC.out w3 HB3.out).2.1 10 _ rfl
  have u0 := (HC.out w3 HB3.out).2.2 0 _ rfl
  have u1 := (HC.out w3 HB3.out).2.2 1 _ rfl
  have u2 := (HC.out w3 HB3.out).2.2 2 _ rfl
  have u3 := (HC.out w3 HB3.out).2.2 3 _ rfl
  have u4 := (HC.out w3 HB3.out).2.2 4 _ rfl
  have u5 := (HC.out w3 HB3.out).2.2 5 _ rfl
  have u6 := (HC.out w3 HB3.out).2.2 6 _ rfl
  have u7 := (HC.out w3 HB3.out).2.2 7 _ rfl
  have u8 := (HC.out w3 HB3.out).2.2 8 _ rfl
  have u9 := (HC.out w3 HB3.out).2.2 9 _ rfl
  have u10 := (HC.out w3 HB3.out).2.2 10 _ rfl
  go_wp2_with fail
  refine (Compare_ok HRA.out HRB.out _ (months_below H0.out.2.2 HB3.out)).mono ?_
  rintro e w4 ⟨he, hb⟩
  rw [HEQ.out.1, HEQ.out.2.2.1, HAB.out] at he
  subst he
  have HB4 : Hid (Below w0.heap.size w0 w4) := below_then HB3.out hb
  clear hb HB3
  clear q0 q1 q2 q3 q4 q5 q6 q7 q8 q9 q10 r0 r1 r2 r3 r4 r5 r6 r7 r8 r9 r10 u0 u1 u2 u3 u4 u5 u6 u7 u8 u9 u10
  have q0 := (HC.out w4 HB4.out).1 0 _ rfl
  have q1 := (HC.out w4 HB4.out).1 1 _ rfl
  have q2 := (HC.out w4 HB4.out).1 2 _ rfl
  have q3 := (HC.out w4 HB4.out).1 3 _ rfl
  have q4 := (HC.out w4 HB4.out).1 4 _ rfl
  have q5 := (HC.out w4 HB4.out).1 5 _ rfl
  have q6 := (HC.out w4 HB4.out).1 6 _ rfl
  have q7 := (HC.out w4 HB4.out).1 7 _ rfl
  have q8 := (HC.out w4 HB4.out).1 8 _ rfl
  have q9 := (HC.out w4 HB4.out).1 9 _ rfl
  have q10 := (HC.out w4 HB4.out).1 10 _ rfl
  have r0 := (HC.out w4 HB4.out).2.1 0 _ rfl
  have r1 := (HC.out w4 HB4.out).2.1 1 _ rfl
  have r2 := (HC.out w4 HB4.out).2.1 2 _ rfl
  have r3 := (HC.out w4 HB4.out).2.1 3 _ rfl
  have r4 := (HC.out w4 HB4.out).2.1 4 _ rfl
  have r5 := (HC.out w4 HB4.out).2.1 5 _ rfl
  have r6 := (HC.out w4 HB4.out).2.1 6 _ rfl
  have r7 := (HC.out w4 HB4.out).2.1 7 _ rfl
  have r8 := (HC.out w4 HB4.out).2.1 8 _ rfl
  have r9 := (HC.out w4 HB4.out).2.1 9 _ rfl
  have r10 := (HC.out w4 HB4.out).2.1 10 _ rfl
  have u0 := (HC.out w4 HB4.out).2.2 0 _ rfl
  have u1 := (HC.out w4 HB4.out).2.2 1 _ rfl
  have u2 := (HC.out w4 HB4.out).2.2 2 _ rfl
  have u3 := (HC.out w4 HB4.out).2.2 3 _ rfl
  have u4 := (HC.out w4 HB4.out).2.2 4 _ rfl
  have u5 := (HC.out w4 HB4.out).2.2 5 _ rfl
  have u6 := (HC.out w4 HB4.out).2.2 6 _ rfl
  have u7 := (HC.out w4 HB4.out).2.2 7 _ rfl
  have u8 := (HC.out w4 HB4.out).2.2 8 _ rfl
  have u9 := (HC.out w4 HB4.out).2.2 9 _ rfl
  have u10 := (HC.out w4 HB4.out).2.2 10 _ rfl
  go_wp2_with fail
  refine (Compare_ok HRB.out HRA.out _ (months_below H0.out.2.2 HB4.out)).mono ?_
  rintro e w5 ⟨he, hb⟩
  rw [HEQ.out.2.2.1, HEQ.out.1, HBA.out] at he
  subst he
  have HB5 : Hid (Below w0.heap.size w0 w5) := below_then HB4.out hb
  clear hb HB4
  clear q0 q1 q2 q3 q4 q5 q6 q7 q8 q9 q10 r0 r1 r2 r3 r4 r5 r6 r7 r8 r9 r10 u0 u1 u2 u3 u4 u5 u6 u7 u8 u9 u10
  have q0 := (HC.out w5 HB5.out).1 0 _ rfl
  have q1 := (HC.out w5 HB5.out).1 1 _ rfl
  have q2 := (HC.out w5 HB5.out).1 2 _ rfl
  have q3 := (HC.out w5 HB5.out).1 3 _ rfl
  have q4 := (HC.out w5 HB5.out).1 4 _ rfl
  have q5 := (HC.out w5 HB5.out).1 5 _ rfl
  have q6 := (HC.out w5 HB5.out).1 6 _ rfl
  have q7 := (HC.out w5 HB5.out).1 7 _ rfl
  have q8 := (HC.out w5 HB5.out).1 8 _ rfl
  have q9 := (HC.out w5 HB5.out).1 9 _ rfl
  have q10 := (HC.out w5 HB5.out).1 10 _ rfl
  have r0 := (HC.out w5 HB5.out).2.1 0 _ rfl
  have r1 := (HC.out w5 HB5.out).2.1 1 _ rfl
  have r2 := (HC.out w5 HB5.out).2.1 2 _ rfl
  have r3 := (HC.out w5 HB5.out).2.1 3 _ rfl
  have r4 := (HC.out w5 HB5.out).2.1 4 _ rfl
  have r5 := (HC.out w5 HB5.out).2.1 5 _ rfl
  have r6 := (HC.out w5 HB5.out).2.1 6 _ rfl
  have r7 := (HC.out w5 HB5.out).2.1 7 _ rfl
  have r8 := (HC.out w5 HB5.out).2.1 8 _ rfl
  have r9 := (HC.out w5 HB5.out).2.1 9 _ rfl
  have r10 := (HC.out w5 HB5.out).2.1 10 _ rfl
  have u0 := (HC.out w5 HB5.out).2.2 0 _ rfl
  have u1 := (HC.out w5 HB5.out).2.2 1 _ rfl
  have u2 := (HC.out w5 HB5.out).2.2 2 _ rfl
  have u3 := (HC.out w5 HB5.out).2.2 3 _ rfl
  have u4 := (HC.out w5 HB5.out).2.2 4 _ rfl
  have u5 := (HC.out w5 HB5.out).2.2 5 _ rfl
  have u6 := (HC.out w5 HB5.out).2.2 6 _ rfl
  have u7 := (HC.out w5 HB5.out).2.2 7 _ rfl
  have u8 := (HC.out w5 HB5.out).2.2 8 _ rfl
  have u9 := (HC.out w5 HB5.out).2.2 9 _ rfl
  have u10 := (HC.out w5 HB5.out).2.2 10 _ rfl
  go_wp2_with fail
  refine (Compare_ok HRB.out HRC.out _ (months_below H0.out.2.2 HB5.out)).mono ?_
  rintro e w6 ⟨he, hb⟩
  rw [HEQ.out.2.2.1, HEQ.out.2.1, HBC.out] at he
  subst he
  have HB6 : Hid (Below w0.heap.size w0 w6) := below_then HB5.out hb
  clear hb HB5
  clear q0 q1 q2 q3 q4 q5 q6 q7 q8 q9 q10 r0 r1 r2 r3 r4 r5 r6 r7 r8 r9 r10 u0 u1 u2 u3 u4 u5 u6 u7 u8 u9 u10
  have q0 := (HC.out w6 HB6.out).1 0 _ rfl
  have q1 := (HC.out w6 HB6.out).1 1 _ rfl
  have q2 := (HC.out w6 HB6.out).1 2 _ rfl
  have q3 := (HC.out w6 HB6.out).1 3 _ rfl
  have q4 := (HC.out w6 HB6.out).1 4 _ rfl
  have q5 := (HC.out w6 HB6.out).1 5 _ rfl
  have q6 := (HC.out w6 HB6.out).1 6 _ rfl
  have q7 := (HC.out w6 HB6.out).1 7 _ rfl
  have q8 := (HC.out w6 HB6.out).1 8 _ rfl
  have q9 := (HC.out w6 HB6.out).1 9 _ rfl
  have q10 := (HC.out w6 HB6.out).1 10 _ rfl
  have r0 := (HC.out w6 HB6.out).2.1 0 _ rfl
  have r1 := (HC.out w6 HB6.out).2.1 1 _ rfl
  have r2 := (HC.out w6 HB6.out).2.1 2 _ rfl
  have r3 := (HC.out w6 HB6.out).2.1 3 _ rfl
  have r4 := (HC.out w6 HB6.out).2.1 4 _ rfl
  have r5 := (HC.out w6 HB6.out).2.1 5 _ rfl
  have r6 := (HC.out w6 HB6.out).2.1 6 _ rfl
  have r7 := (HC.out w6 HB6.out).2.1 7 _ rfl
  have r8 := (HC.out w6 HB6.out).2.1 8 _ rfl
  have r9 := (HC.out w6 HB6.out).2.1 9 _ rfl
  have r10 := (HC.out w6 HB6.out).2.1 10 _ rfl
  have u0 := (HC.out w6 HB6.out).2.2 0 _ rfl
  have u1 := (HC.out w6 HB6.out).2.2 1 _ rfl
  have u2 := (HC.out w6 HB6.out).2.2 2 _ rfl
  have u3 := (HC.out w6 HB6.out).2.2 3 _ rfl
  have u4 := (HC.out w6 HB6.out).2.2 4 _ rfl
  have u5 := (HC.out w6 HB6.out).2.2 5 _ rfl
  have u6 := (HC.out w6 HB6.out).2.2 6 _ rfl
  have u7 := (HC.out w6 HB6.out).2.2 7 _ rfl
  have u8 := (HC.out w6 HB6.out).2.2 8 _ rfl
  have u9 := (HC.out w6 HB6.out).2.2 9 _ rfl
  have u10 := (HC.out w6 HB6.out).2.2 10 _ rfl
  go_wp2_with fail
  refine (Compare_ok HRA.out HRC.out _ (months_below H0.out.2.2 HB6.out)).mono ?_
  rintro e w7 ⟨he, hb⟩
  rw [HEQ.out.1, HEQ.out.2.1, HAC.out] at he
  subst he
  have HB7 : Hid (Below w0.heap.size w0 w7) := below_then HB6.out hb
  clear hb HB6
  clear q0 q1 q2 q3 q4 q5 q6 q7 q8 q9 q10 r0 r1 r2 r3 r4 r5 r6 r7 r8 r9 r10 u0 u1 u2 u3 u4 u5 u6 u7 u8 u9 u10
  have q0 := (HC.out w7 HB7.out).1 0 _ rfl
  have q1 := (HC.out w7 HB7.out).1 1 _ rfl
  have q2 := (HC.out w7 HB7.out).1 2 _ rfl
  have q3 := (HC.out w7 HB7.out).1 3 _ rfl
  have q4 := (HC.out w7 HB7.out).1 4 _ rfl
  have q5 := (HC.out w7 HB7.out).1 5 _ rfl
  have q6 := (HC.out w7 HB7.out).1 6 _ rfl
  have q7 := (HC.out w7 HB7.out).1 7 _ rfl
  have q8 := (HC.out w7 HB7.out).1 8 _ rfl
  have q9 := (HC.out w7 HB7.out).1 9 _ rfl
  have q10 := (HC.out w7 HB7.out).1 10 _ rfl
  have r0 := (HC.out w7 HB7.out).2.1 0 _ rfl
  have r1 := (HC.out w7 HB7.out).2.1 1 _ rfl
  have r2 := (HC.out w7 HB7.out).2.1 2 _ rfl
  have r3 := (HC.out w7 HB7.out).2.1 3 _ rfl
  have r4 := (HC.out w7 HB7.out).2.1 4 _ rfl
  have r5 := (HC.out w7 HB7.out).2.1 5 _ rfl
  have r6 := (HC.out w7 HB7.out).2.1 6 _ rfl
  have r7 := (HC.out w7 HB7.out).2.1 7 _ rfl
  have r8 := (HC.out w7 HB7.out).2.1 8 _ rfl
  have r9 := (HC.out w7 HB7.out).2.1 9 _ rfl
  have r10 := (HC.out w7 HB7.out).2.1 10 _ rfl
  have u0 := (HC.out w7 HB7.out).2.2 0 _ rfl
  have u1 := (HC.out w7 HB7.out).2.2 1 _ rfl
  have u2 := (HC.out w7 HB7.out).2.2 2 _ rfl
  have u3 := (HC.out w7 HB7.out).2.2 3 _ rfl
  have u4 := (HC.out w7 HB7.out).2.2 4 _ rfl
  have u5 := (HC.out w7 HB7.out).2.2 5 _ rfl
  have u6 := (HC.out w7 HB7.out).2.2 6 _ rfl
  have u7 := (HC.out w7 HB7.out).2.2 7 _ rfl
  have u8 := (HC.out w7 HB7.out).2.2 8 _ rfl
  have u9 := (HC.out w7 HB7.out).2.2 9 _ rfl
  have u10 := (HC.out w7 HB7.out).2.2 10 _ rfl
  go_wp2_with fail
  refine (Span_ok HRA.out _ (months_below H0.out.2.2 HB7.out)).mono ?_
  rintro e w8 ⟨he, hb⟩
  rw [HEQ.out.2.2.2.1, HEQ.out.1] at he
  subst he
  have HB8 : Hid (Below w0.heap.size w0 w8) := below_then HB7.out hb
  clear hb HB7
  clear q0 q1 q2 q3 q4 q5 q6 q7 q8 q9 q10 r0 r1 r2 r3 r4 r5 r6 r7 r8 r9 r10 u0 u1 u2 u3 u4 u5 u6 u7 u8 u9 u10
  have q0 := (HC.out w8 HB8.out).1 0 _ rfl
  have q1 := (HC.out w8 HB8.out).1 1 _ rfl
  have q2 := (HC.out w8 HB8.out).1 2 _ rfl
  have q3 := (HC.out w8 HB8.out).1 3 _ rfl
  have q4 := (HC.out w8 HB8.out).1 4 _ rfl
  have q5 := (HC.out w8 HB8.out).1 5 _ rfl
  have q6 := (HC.out w8 HB8.out).1 6 _ rfl
  have q7 := (HC.out w8 HB8.out).1 7 _ rfl
  have q8 := (HC.out w8 HB8.out).1 8 _ rfl
  have q9 := (HC.out w8 HB8.out).1 9 _ rfl
  have q10 := (HC.out w8 HB8.out).1 10 _ rfl
  have r0 := (HC.out w8 HB8.out).2.1 0 _ rfl
  have r1 := (HC.out w8 HB8.out).2.1 1 _ rfl
  have r2 := (HC.out w8 HB8.out).2.1 2 _ rfl
  have r3 := (HC.out w8 HB8.out).2.1 3 _ rfl
  have r4 := (HC.out w8 HB8.out).2.1 4 _ rfl
  have r5 := (HC.out w8 HB8.out).2.1 5 _ rfl
  have r6 := (HC.out w8 HB8.out).2.1 6 _ rfl
  have r7 := (HC.out w8 HB8.out).2.1 7 _ rfl
  have r8 := (HC.out w8 HB8.out).2.1 8 _ rfl
  have r9 := (HC.out w8 HB8.out).2.1 9 _ rfl
  have r10 := (HC.out w8 HB8.out).2.1 10 _ rfl
  have u0 := (HC.out w8 HB8.out).2.2 0 _ rfl
  have u1 := (HC.out w8 HB8.out).2.2 1 _ rfl
  have u2 := (HC.out w8 HB8.out).2.2 2 _ rfl
  have u3 := (HC.out w8 HB8.out).2.2 3 _ rfl
  have u4 := (HC.out w8 HB8.out).2.2 4 _ rfl
  have u5 := (HC.out w8 HB8.out).2.2 5 _ rfl
  have u6 := (HC.out w8 HB8.out).2.2 6 _ rfl
  have u7 := (HC.out w8 HB8.out).2.2 7 _ rfl
  have u8 := (HC.out w8 HB8.out).2.2 8 _ rfl
  have u9 := (HC.out w8 HB8.out).2.2 9 _ rfl
  have u10 := (HC.out w8 HB8.out).2.2 10 _ rfl
  go_wp2_with fail
  refine (Span_ok HRB.out _ (months_below H0.out.2.2 HB8.out)).mono ?_
  rintro e w9 ⟨he, hb⟩
  rw [HEQ.out.2.2.2.2, HEQ.out.2.2.1] at he
  subst he
  have HB9 : Hid (Below w0.heap.size w0 w9) := below_then HB8.out hb
  clear hb HB8
  clear q0 q1 q2 q3 q4 q5 q6 q7 q8 q9 q10 r0 r1 r2 r3 r4 r5 r6 r7 r8 r9 r10 u0 u1 u2 u3 u4 u5 u6 u7 u8 u9 u10
  have q0 := (HC.out w9 HB9.out).1 0 _ rfl
  have q1 := (HC.out w9 HB9.out).1 1 _ rfl
  have q2 := (HC.out w9 HB9.out).1 2 _ rfl
  have q3 := (HC.out w9 HB9.out).1 3 _ rfl
  have q4 := (HC.out w9 HB9.out).1 4 _ rfl
  have q5 := (HC.out w9 HB9.out).1 5 _ rfl
  have q6 := (HC.out w9 HB9.out).1 6 _ rfl
  have q7 := (HC.out w9 HB9.out).1 7 _ rfl
  have q8 := (HC.out w9 HB9.out).1 8 _ rfl
  have q9 := (HC.out w9 HB9.out).1 9 _ rfl
  have q10 := (HC.out w9 HB9.out).1 10 _ rfl
  have r0 := (HC.out w9 HB9.out).2.1 0 _ rfl
  have r1 := (HC.out w9 HB9.out).2.1 1 _ rfl
  have r2 := (HC.out w9 HB9.out).2.1 2 _ rfl
  have r3 := (HC.out w9 HB9.out).2.1 3 _ rfl
  have r4 := (HC.out w9 HB9.out).2.1 4 _ rfl
  have r5 := (HC.out w9 HB9.out).2.1 5 _ rfl
  have r6 := (HC.out w9 HB9.out).2.1 6 _ rfl
  have r7 := (HC.out w9 HB9.out).2.1 7 _ rfl
  have r8 := (HC.out w9 HB9.out).2.1 8 _ rfl
  have r9 := (HC.out w9 HB9.out).2.1 9 _ rfl
  have r10 := (HC.out w9 HB9.out).2.1 10 _ rfl
  have u0 := (HC.out w9 HB9.out).2.2 0 _ rfl
  have u1 := (HC.out w9 HB9.out).2.2 1 _ rfl
  have u2 := (HC.out w9 HB9.out).2.2 2 _ rfl
  have u3 := (HC.out w9 HB9.out).2.2 3 _ rfl
  have u4 := (HC.out w9 HB9.out).2.2 4 _ rfl
  have u5 := (HC.out w9 HB9.out).2.2 5 _ rfl
  have u6 := (HC.out w9 HB9.out).2.2 6 _ rfl
  have u7 := (HC.out w9 HB9.out).2.2 7 _ rfl
  have u8 := (HC.out w9 HB9.out).2.2 8 _ rfl
  have u9 := (HC.out w9 HB9.out).2.2 9 _ rfl
  have u10 := (HC.out w9 HB9.out).2.2 10 _ rfl
  go_wp2_with fail
  all_goals
    refine (anchor_any _ (months_below H0.out.2.2 HB9.out) (H0.out.2.1.below HB9.out)).mono ?_
    rintro e wa ⟨rfl, hb⟩
    have HBa : Hid (Below w.heap.size w wa) := H0.out.1.trans ((below_then HB9.out hb).mono H0.out.1.size)
    clear hb
    go_wp2_with fail
    go_ret
    exact ⟨rfl, HBa.out⟩
set_option maxRecDepth 100000 in
set_option maxHeartbeats 2000000 in
theorem order_N3a_5 (la ya ma da ha ia sa pa ga oa yb mb db hb ib sb pb ob lc yc mc dc hc ic sc pc gc oc : Int) (zc : Bool) (w : World) (h0 : rightB la ya ma da ha ia sa pa ga oa true = true) (h1 : rightB la yb mb db hb ib sb pb ga ob false = true) (h2 : rightB lc yc mc dc hc ic sc pc gc oc zc = true) (hab : instI la yb mb db hb ib sb pb ga ob < instI la ya ma da ha ia sa pa ga oa) (hbc : instI lc yc mc dc hc ic sc pc gc oc ≤ instI la yb mb db hb ib sb pb ga ob) (hP : Pow w) (hM : Months w) : Calls Tryd.prog 7 #[.agg #[.int .i64 la, .int .i64 ya, .int .i64 ma, .int .i64 da, .int .i64 ha, .int .i64 ia, .int .i64 sa, .int .i64 pa, .int .i64 ga, .bool true, .int .i64 oa], .agg #[.int .i64 la, .int .i64 yb, .int .i64 mb, .int .i64 db, .int .i64 hb, .int .i64 ib, .int .i64 sb, .int .i64 pb, .int .i64 ga, .bool false, .int .i64 ob], .agg #[.int .i64 lc, .int .i64 yc, .int .i64 mc, .int .i64 dc, .int .i64 hc, .int .i64 ic, .int .i64 sc, .int .i64 pc, .int .i64 gc, .bool zc, .int .i64 oc]] w fun e w' => e = .returned (.bool true) ∧ Below w.heap.size w w' := by
  have HRA : Hid (rightB la ya ma da ha ia sa pa ga oa true = true) := h0
  have HRB : Hid (rightB la yb mb db hb ib sb pb ga ob false = true) := h1
  have HRC : Hid (rightB lc yc mc dc hc ic sc pc gc oc zc = true) := h2
  have lpa := len_pos la ya ma ga
  have lpb := len_pos la yb mb ga
  clear h0 h2 h1
  obtain ⟨ta, hta⟩ : ∃ t, instI la ya ma da ha ia sa pa ga oa = t := ⟨_, rfl⟩
  obtain ⟨Ya, hya⟩ : ∃ t, instI la ya ma da ha ia sa pa ga oa + lenI la ya ma ga - 1 = t := ⟨_, rfl⟩
  obtain ⟨tb, htb⟩ : ∃ t, instI la yb mb db hb ib sb pb ga ob = t := ⟨_, rfl⟩
  obtain ⟨Yb, hyb⟩ : ∃ t, instI la yb mb db hb ib sb pb ga ob + lenI la yb mb ga - 1 = t := ⟨_, rfl⟩
  obtain ⟨tc, htc⟩ : ∃ t, instI lc yc mc dc hc ic sc pc gc oc = t := ⟨_, rfl⟩
  rw [hta, htb] at hab
  rw [htb, htc] at hbc
  have hxa : ta ≤ Ya := by omega
  have hxb : tb ≤ Yb := by omega
  have HEQ : Hid (instI la ya ma da ha ia sa pa ga oa = ta ∧ instI lc yc mc dc hc ic sc pc gc oc = tc ∧ instI la yb mb db hb ib sb pb ga ob = tb ∧ instI la ya ma da ha ia sa pa ga oa + lenI la ya ma ga - 1 = Ya ∧ instI la yb mb db hb ib sb pb ga ob + lenI la yb mb ga - 1 = Yb) := ⟨hta, htc, htb, hya, hyb⟩
  clear lpa hta htc hya lpb htb hyb
  have HAB : Hid (cmpI ta tb = 1) := (cmp_gt (by omega)).symm
  have HBA : Hid (cmpI tb ta = (-1)) := (cmp_lt (by omega)).symm
  obtain ⟨Bv, hBv⟩ : ∃ v, cmpI tb tc = v := ⟨_, rfl⟩
  have hB : 0 ≤ Bv := by rw [← hBv]; unfold cmpI; split <;> (try split) <;> omega
  have HBC : Hid (cmpI tb tc = Bv) := hBv
  clear hBv
  have HAC : Hid (cmpI ta tc = 1) := (cmp_gt (by omega)).symm
  clear hbc
  obtain ⟨w0, hw0⟩ : ∃ w0, ((w.alloc (.cells #[.int .i64 la, .int .i64 ya, .int .i64 ma, .int .i64 da, .int .i64 ha, .int .i64 ia, .int .i64 sa, .int .i64 pa, .int .i64 ga, .bool true, .int .i64 oa] 23)).alloc (.cells #[.int .i64 la, .int .i64 yb, .int .i64 mb, .int .i64 db, .int .i64 hb, .int .i64 ib, .int .i64 sb, .int .i64 pb, .int .i64 ga, .bool false, .int .i64 ob] 23)).alloc (.cells #[.int .i64 lc, .int .i64 yc, .int .i64 mc, .int .i64 dc, .int .i64 hc, .int .i64 ic, .int .i64 sc, .int .i64 pc, .int .i64 gc, .bool zc, .int .i64 oc] 23) = w0 := ⟨_, rfl⟩
  have H0 : Hid (Below w.heap.size w w0 ∧ Pow w0 ∧ Months w0) := by
    have hb : Below w.heap.size w w0 := by rw [← hw0]; exact (((Below.refl _ _).alloc (Nat.le_refl _) _).alloc (by simp) _).alloc (by simp; omega) _
    exact ⟨hb, hP.below hb, months_below hM hb⟩
  have HC : Hid (∀ w1, Below w0.heap.size w0 w1 → (∀ j x, (#[.int .i64 la, .int .i64 ya, .int .i64 ma, .int .i64 da, .int .i64 ha, .int .i64 ia, .int .i64 sa, .int .i64 pa, .int .i64 ga, .bool true, .int .i64 oa] : Array Value)[j]? = some x → w1.cell? ⟨w.heap.size, j, none⟩ = some x) ∧ (∀ j x, (#[.int .i64 la, .int .i64 yb, .int .i64 mb, .int .i64 db, .int .i64 hb, .int .i64 ib, .int .i64 sb, .int .i64 pb, .int .i64 ga, .bool false, .int .i64 ob] : Array Value)[j]? = some x → w1.cell? ⟨w.heap.size + 1, j, none⟩ = some x) ∧ (∀ j x, (#[.int .i64 lc, .int .i64 yc, .int .i64 mc, .int .i64 dc, .int .i64 hc, .int .i64 ic, .int .i64 sc, .int .i64 pc, .int .i64 gc, .bool zc, .int .i64 oc] : Array Value)[j]? = some x → w1.cell? ⟨w.heap.size + 2, j, none⟩ = some x)) := fun w1 hb => three_cells hw0 hb
  clear hP hM
  have HB0 : Hid (Below w0.heap.size w0 w0) := Below.refl _ _
  have q0 := (HC.out w0 HB0.out).1 0 _ rfl
  have q1 := (HC.out w0 HB0.out).1 1 _ rfl
  have q2 := (HC.out w0 HB0.out).1 2 _ rfl
  have q3 := (HC.out w0 HB0.out).1 3 _ rfl
  have q4 := (HC.out w0 HB0.out).1 4 _ rfl
  have q5 := (HC.out w0 HB0.out).1 5 _ rfl
  have q6 := (HC.out w0 HB0.out).1 6 _ rfl
  have q7 := (HC.out w0 HB0.out).1 7 _ rfl
  have q8 := (HC.out w0 HB0.out).1 8 _ rfl
  have q9 := (HC.out w0 HB0.out).1 9 _ rfl
  have q10 := (HC.out w0 HB0.out).1 10 _ rfl
  have r0 := (HC.out w0 HB0.out).2.1 0 _ rfl
  have r1 := (HC.out w0 HB0.out).2.1 1 _ rfl
  have r2 := (HC.out w0 HB0.out).2.1 2 _ rfl
  have r3 := (HC.out w0 HB0.out).2.1 3 _ rfl
  have r4 := (HC.out w0 HB0.out).2.1 4 _ rfl
  have r5 := (HC.out w0 HB0.out).2.1 5 _ rfl
  have r6 := (HC.out w0 HB0.out).2.1 6 _ rfl
  have r7 := (HC.out w0 HB0.out).2.1 7 _ rfl
  have r8 := (HC.out w0 HB0.out).2.1 8 _ rfl
  have r9 := (HC.out w0 HB0.out).2.1 9 _ rfl
  have r10 := (HC.out w0 HB0.out).2.1 10 _ rfl
  have u0 := (HC.out w0 HB0.out).2.2 0 _ rfl
  have u1 := (HC.out w0 HB0.out).2.2 1 _ rfl
  have u2 := (HC.out w0 HB0.out).2.2 2 _ rfl
  have u3 := (HC.out w0 HB0.out).2.2 3 _ rfl
  have u4 := (HC.out w0 HB0.out).2.2 4 _ rfl
  have u5 := (HC.out w0 HB0.out).2.2 5 _ rfl
  have u6 := (HC.out w0 HB0.out).2.2 6 _ rfl
  have u7 := (HC.out w0 HB0.out).2.2 7 _ rfl
  have u8 := (HC.out w0 HB0.out).2.2 8 _ rfl
  have u9 := (HC.out w0 HB0.out).2.2 9 _ rfl
  have u10 := (HC.out w0 HB0.out).2.2 10 _ rfl
  go_enter Tryd.func7, Tryd.ntmps7
  go_wp2_with fail
  refine (lright_is HRA.out _ (months_below H0.out.2.2 HB0.out) (H0.out.2.1.below HB0.out)).mono ?_
  rintro e w1 ⟨he, hb⟩
  subst he
  have HB1 : Hid (Below w0.heap.size w0 w1) := below_then HB0.out hb
  clear hb HB0
  clear q0 q1 q2 q3 q4 q5 q6 q7 q8 q9 q10 r0 r1 r2 r3 r4 r5 r6 r7 r8 r9 r10 u0 u1 u2 u3 u4 u5 u6 u7 u8 u9 u10
  have q0 := (HC.out w1 HB1.out).1 0 _ rfl
  have q1 := (HC.out w1 HB1.out).1 1 _ rfl
  have q2 := (HC.out w1 HB1.out).1 2 _ rfl
  have q3 := (HC.out w1 HB1.out).1 3 _ rfl
  have q4 := (HC.out w1 HB1.out).1 4 _ rfl
  have q5 := (HC.out w1 HB1.out).1 5 _ rfl
  have q6 := (HC.out w1 HB1.out).1 6 _ rfl
  have q7 := (HC.out w1 HB1.out).1 7 _ rfl
  have q8 := (HC.out w1 HB1.out).1 8 _ rfl
  have q9 := (HC.out w1 HB1.out).1 9 _ rfl
  have q10 := (HC.out w1 HB1.out).1 10 _ rfl
  have r0 := (HC.out w1 HB1.out).2.1 0 _ rfl
  have r1 := (HC.out w1 HB1.out).2.1 1 _ rfl
  have r2 := (HC.out w1 HB1.out).2.1 2 _ rfl
  have r3 := (HC.out w1 HB1.out).2.1 3 _ rfl
  have r4 := (HC.out w1 HB1.out).2.1 4 _ rfl
  have r5 := (HC.out w1 HB1.out).2.1 5 _ rfl
  have r6 := (HC.out w1 HB1.out).2.1 6 _ rfl
  have r7 := (HC.out w1 HB1.out).2.1 7 _ rfl
  have r8 := (HC.out w1 HB1.out).2.1 8 _ rfl
  have r9 := (HC.out w1 HB1.out).2.1 9 _ rfl
  have r10 := (HC.out w1 HB1.out).2.1 10 _ rfl
  have u0 := (HC.out w1 HB1.out).2.2 0 _ rfl
  have u1 := (HC.out w1 HB1.out).2.2 1 _ rfl
  have u2 := (HC.out w1 HB1.out).2.2 2 _ rfl
  have u3 := (HC.out w1 HB1.out).2.2 3 _ rfl
  have u4 := (HC.out w1 HB1.out).2.2 4 _ rfl
  have u5 := (HC.out w1 HB1.out).2.2 5 _ rfl
  have u6 := (HC.out w1 HB1.out).2.2 6 _ rfl
  have u7 := (HC.out w1 HB1.out).2.2 7 _ rfl
  have u8 := (HC.out w1 HB1.out).2.2 8 _ rfl
  have u9 := (HC.out w1 HB1.out).2.2 9 _ rfl
  have u10 := (HC.out w1 HB1.out).2.2 10 _ rfl
  go_wp2_with fail
  refine (lright_is HRB.out _ (months_below H0.out.2.2 HB1.out) (H0.out.2.1.below HB1.out)).mono ?_
  rintro e w2 ⟨he, hb⟩
  subst he
  have HB2 : Hid (Below w0.heap.size w0 w2) := below_then HB1.out hb
  clear hb HB1
  clear q0 q1 q2 q3 q4 q5 q6 q7 q8 q9 q10 r0 r1 r2 r3 r4 r5 r6 r7 r8 r9 r10 u0 u1 u2 u3 u4 u5 u6 u7 u8 u9 u10
  have q0 := (HC.out w2 HB2.out).1 0 _ rfl
  have q1 := (HC.out w2 HB2.out).1 1 _ rfl
  have q2 := (HC.out w2 HB2.out).1 2 _ rfl
  have q3 := (HC.out w2 HB2.out).1 3 _ rfl
  have q4 := (HC.out w2 HB2.out).1 4 _ rfl
  have q5 := (HC.out w2 HB2.out).1 5 _ rfl
  have q6 := (HC.out w2 HB2.out).1 6 _ rfl
  have q7 := (HC.out w2 HB2.out).1 7 _ rfl
  have q8 := (HC.out w2 HB2.out).1 8 _ rfl
  have q9 := (HC.out w2 HB2.out).1 9 _ rfl
  have q10 := (HC.out w2 HB2.out).1 10 _ rfl
  have r0 := (HC.out w2 HB2.out).2.1 0 _ rfl
  have r1 := (HC.out w2 HB2.out).2.1 1 _ rfl
  have r2 := (HC.out w2 HB2.out).2.1 2 _ rfl
  have r3 := (HC.out w2 HB2.out).2.1 3 _ rfl
  have r4 := (HC.out w2 HB2.out).2.1 4 _ rfl
  have r5 := (HC.out w2 HB2.out).2.1 5 _ rfl
  have r6 := (HC.out w2 HB2.out).2.1 6 _ rfl
  have r7 := (HC.out w2 HB2.out).2.1 7 _ rfl
  have r8 := (HC.out w2 HB2.out).2.1 8 _ rfl
  have r9 := (HC.out w2 HB2.out).2.1 9 _ rfl
  have r10 := (HC.out w2 HB2.out).2.1 10 _ rfl
  have u0 := (HC.out w2 HB2.out).2.2 0 _ rfl
  have u1 := (HC.out w2 HB2.out).2.2 1 _ rfl
  have u2 := (HC.out w2 HB2.out).2.2 2 _ rfl
  have u3 := (HC.out w2 HB2.out).2.2 3 _ rfl
  have u4 := (HC.out w2 HB2.out).2.2 4 _ rfl
  have u5 := (HC.out w2 HB2.out).2.2 5 _ rfl
  have u6 := (HC.out w2 HB2.out).2.2 6 _ rfl
  have u7 := (HC.out w2 HB2.out).2.2 7 _ rfl
  have u8 := (HC.out w2 HB2.out).2.2 8 _ rfl
  have u9 := (HC.out w2 HB2.out).2.2 9 _ rfl
  have u10 := (HC.out w2 HB2.out).2.2 10 _ rfl
  go_wp2_with fail
  refine (lright_is HRC.out _ (months_below H0.out.2.2 HB2.out) (H0.out.2.1.below HB2.out)).mono ?_
  rintro e w3 ⟨he, hb⟩
  subst he
  have HB3 : Hid (Below w0.heap.size w0 w3) := below_then HB2.out hb
  clear hb HB2
  clear q0 q1 q2 q3 q4 q5 q6 q7 q8 q9 q10 r0 r1 r2 r3 r4 r5 r6 r7 r8 r9 r10 u0 u1 u2 u3 u4 u5 u6 u7 u8 u9 u10
  have q0 := (HC.out w3 HB3.out).1 0 _ rfl
  have q1 := (HC.out w3 HB3.out).1 1 _ rfl
  have q2 := (HC.out w3 HB3.out).1 2 _ rfl
  have q3 := (HC.out w3 HB3.out).1 3 _ rfl
  have q4 := (HC.out w3 HB3.out).1 4 _ rfl
  have q5 := (HC.out w3 HB3.out).1 5 _ rfl
  have q6 := (HC.out w3 HB3.out).1 6 _ rfl
  have q7 := (HC.out w3 HB3.out).1 7 _ rfl
  have q8 := (HC.out w3 HB3.out).1 8 _ rfl
  have q9 := (HC.out w3 HB3.out).1 9 _ rfl
  have q10 := (HC.out w3 HB3.out).1 10 _ rfl
  have r0 := (HC.out w3 HB3.out).2.1 0 _ rfl
  have r1 := (HC.out w3 HB3.out).2.1 1 _ rfl
  have r2 := (HC.out w3 HB3.out).2.1 2 _ rfl
  have r3 := (HC.out w3 HB3.out).2.1 3 _ rfl
  have r4 := (HC.out w3 HB3.out).2.1 4 _ rfl
  have r5 := (HC.out w3 HB3.out).2.1 5 _ rfl
  have r6 := (HC.out w3 HB3.out).2.1 6 _ rfl
  have r7 := (HC.out w3 HB3.out).2.1 7 _ rfl
  have r8 := (HC.out w3 HB3.out).2.1 8 _ rfl
  have r9 := (HC.out w3 HB3.out).2.1 9 _ rfl
  have r10 := (HC.out w3 HB3.out).2.1 10 _ rfl
  have u0 := (HC.out w3 HB3.out).2.2 0 _ rfl
  have u1 := (HC.out w3 HB3.out).2.2 1 _ rfl
  have u2 := (HC.out w3 HB3.out).2.2 2 _ rfl
  have u3 := (HC.out w3 HB3.out).2.2 3 _ rfl
  have u4 := (HC.out w3 HB3.out).2.2 4 _ rfl
  have u5 := (HC.out w3 HB3.out).2.2 5 _ rfl
  have u6 := (HC.out w3 HB3.out).2.2 6 _ rfl
  have u7 := (HC.out w3 HB3.out).2.2 7 _ rfl
  have u8 := (HC.out w3 HB3.out).2.2 8 _ rfl
  have u9 := (HC.out w3 HB3.out).2.2 9 _ rfl
  have u10 := (HC.out w3 HB3.out).2.2 10 _ rfl
  go_wp2_with fail
  refine (Compare_ok HRA.out HRB.out _ (months_below H0.out.2.2 HB3.out)).mono ?_
  rintro e w4 ⟨he, hb⟩
  rw [HEQ.out.1, HEQ.out.2.2.1, HAB.out] at he
  subst he
  have HB4 : Hid (Below w0.heap.size w0 w4) := below_then HB3.out hb
  clear hb HB3
  clear q0 q1 q2 q3 q4 q5 q6 q7 q8 q9 q10 r0 r1 r2 r3 r4 r5 r6 r7 r8 r9 r10 u0 u1 u2 u3 u4 u5 u6 u7 u8 u9 u10
  have q0 := (HC.out w4 HB4.out).1 0 _ rfl
  have q1 := (HC.out w4 HB4.out).1 1 _ rfl
  have q2 := (HC.out w4 HB4.out).1 2 _ rfl
  have q3 := (HC.out w4 HB4.out).1 3 _ rfl
  have q4 := (HC.out w4 HB4.out).1 4 _ rfl
  have q5 := (HC.out w4 HB4.out).1 5 _ rfl
  have q6 := (HC.out w4 HB4.out).1 6 _ rfl
  have q7 := (HC.out w4 HB4.out).1 7 _ rfl
  have q8 := (HC.out w4 HB4.out).1 8 _ rfl
  have q9 := (HC.out w4 HB4.out).1 9 _ rfl
  have q10 := (HC.out w4 HB4.out).1 10 _ rfl
  have r0 := (HC.out w4 HB4.out).2.1 0 _ rfl
  have r1 := (HC.out w4 HB4.out).2.1 1 _ rfl
  have r2 := (HC.out w4 HB4.out).2.1 2 _ rfl
  have r3 := (HC.out w4 HB4.out).2.1 3 _ rfl
  have r4 := (HC.out w4 HB4.out).2.1 4 _ rfl
  have r5 := (HC.out w4 HB4.out).2.1 5 _ rfl
  have r6 := (HC.out w4 HB4.out).2.1 6 _ rfl
  have r7 := (HC.out w4 HB4.out).2.1 7 _ rfl
  have r8 := (HC.out w4 HB4.out).2.1 8 _ rfl
  have r9 := (HC.out w4 HB4.out).2.1 9 _ rfl
  have r10 := (HC.out w4 HB4.out).2.1 10 _ rfl
  have u0 := (HC.out w4 HB4.out).2.2 0 _ rfl
  have u1 := (HC.out w4 HB4.out).2.2 1 _ rfl
  have u2 := (HC.out w4 HB4.out).2.2 2 _ rfl
  have u3 := (HC.out w4 HB4.out).2.2 3 _ rfl
  have u4 := (HC.out w4 HB4.out).2.2 4 _ rfl
  have u5 := (HC.out w4 HB4.out).2.2 5 _ rfl
  have u6 := (HC.out w4 HB4.out).2.2 6 _ rfl
  have u7 := (HC.out w4 HB4.out).2.2 7 _ rfl
  have u8 := (HC.out w4 HB4.out).2.2 8 _ rfl
  have u9 := (HC.out w4 HB4.out).2.2 9 _ rfl
  have u10 := (HC.out w4 HB4.out).2.2 10 _ rfl
  go_wp2_with fail
  refine (Compare_ok HRB.out HRA.out _ (months_below H0.out.2.2 HB4.out)).mono ?_
  rintro e w5 ⟨he, hb⟩
  rw [HEQ.out.2.2.1, HEQ.out.1, HBA.out] at he
  subst he
  have HB5 : Hid (Below w0.heap.size w0 w5) := below_then HB4.out hb
  clear hb HB4
  clear q0 q1 q2 q3 q4 q5 q6 q7 q8 q9 q10 r0 r1 r2 r3 r4 r5 r6 r7 r8 r9 r10 u0 u1 u2 u3 u4 u5 u6 u7 u8 u9 u10
  have q0 := (HC.out w5 HB5.out).1 0 _ rfl
  have q1 := (HC.out w5 HB5.out).1 1 _ rfl
  have q2 := (HC.out w5 HB5.out).1 2 _ rfl
  have q3 := (HC.out w5 HB5.out).1 3 _ rfl
  have q4 := (HC.out w5 HB5.out).1 4 _ rfl
  have q5 := (HC.out w5 HB5.out).1 5 _ rfl
  have q6 := (HC.out w5 HB5.out).1 6 _ rfl
  have q7 := (HC.out w5 HB5.out).1 7 _ rfl
  have q8 := (HC.out w5 HB5.out).1 8 _ rfl
  have q9 := (HC.out w5 HB5.out).1 9 _ rfl
  have q10 := (HC.out w5 HB5.out).1 10 _ rfl
  have r0 := (HC.out w5 HB5.out).2.1 0 _ rfl
  have r1 := (HC.out w5 HB5.out).2.1 1 _ rfl
  have r2 := (HC.out w5 HB5.out).2.1 2 _ rfl
  have r3 := (HC.out w5 HB5.out).2.1 3 _ rfl
  have r4 := (HC.out w5 HB5.out).2.1 4 _ rfl
  have r5 := (HC.out w5 HB5.out).2.1 5 _ rfl
  have r6 := (HC.out w5 HB5.out).2.1 6 _ rfl
  have r7 := (HC.out w5 HB5.out).2.1 7 _ rfl
  have r8 := (HC.out w5 HB5.out).2.1 8 _ rfl
  have r9 := (HC.out w5 HB5.out).2.1 9 _ rfl
  have r10 := (HC.out w5 HB5.out).2.1 10 _ rfl
  have u0 := (HC.out w5 HB5.out).2.2 0 _ rfl
  have u1 := (HC.out w5 HB5.out).2.2 1 _ rfl
  have u2 := (HC.out w5 HB5.out).2.2 2 _ rfl
  have u3 := (HC.out w5 HB5.out).2.2 3 _ rfl
  have u4 := (HC.out w5 HB5.out).2.2 4 _ rfl
  have u5 := (HC.out w5 HB5.out).2.2 5 _ rfl
  have u6 := (HC.out w5 HB5.out).2.2 6 _ rfl
  have u7 := (HC.out w5 HB5.out).2.2 7 _ rfl
  have u8 := (HC.out w5 HB5.out).2.2 8 _ rfl
  have u9 := (HC.out w5 HB5.out).2.2 9 _ rfl
  have u10 := (HC.out w5 HB5.out).2.2 10 _ rfl
  go_wp2_with fail
  refine (Compare_ok HRB.out HRC.out _ (months_below H0.out.2.2 HB5.out)).mono ?_
  rintro e w6 ⟨he, hb⟩
  rw [HEQ.out.2.2.1, HEQ.out.2.1, HBC.out] at he
  subst he
  have HB6 : Hid (Below w0.heap.size w0 w6) := below_then HB5.out hb
  clear hb HB5
  clear q0 q1 q2 q3 q4 q5 q6 q7 q8 q9 q10 r0 r1 r2 r3 r4 r5 r6 r7 r8 r9 r10 u0 u1 u2 u3 u4 u5 u6 u7 u8 u9 u10
  have q0 := (HC.out w6 HB6.out).1 0 _ rfl
  have q1 := (HC.out w6 HB6.out).1 1 _ rfl
  have q2 := (HC.out w6 HB6.out).1 2 _ rfl
  have q3 := (HC.out w6 HB6.out).1 3 _ rfl
  have q4 := (HC.out w6 HB6.out).1 4 _ rfl
  have q5 := (HC.out w6 HB6.out).1 5 _ rfl
  have q6 := (HC.out w6 HB6.out).1 6 _ rfl
  have q7 := (HC.out w6 HB6.out).1 7 _ rfl
  have q8 := (HC.out w6 HB6.out).1 8 _ rfl
  have q9 := (HC.out w6 HB6.out).1 9 _ rfl
  have q10 := (HC.out w6 HB6.out).1 10 _ rfl
  have r0 := (HC.out w6 HB6.out).2.1 0 _ rfl
  have r1 := (HC.out w6 HB6.out).2.1 1 _ rfl
  have r2 := (HC.out w6 HB6.out).2.1 2 _ rfl
  have r3 := (HC.out w6 HB6.out).2.1 3 _ rfl
  have r4 := (HC.out w6 HB6.out).2.1 4 _ rfl
  have r5 := (HC.out w6 HB6.out).2.1 5 _ rfl
  have r6 := (HC.out w6 HB6.out).2.1 6 _ rfl
  have r7 := (HC.out w6 HB6.out).2.1 7 _ rfl
  have r8 := (HC.out w6 HB6.out).2.1 8 _ rfl
  have r9 := (HC.out w6 HB6.out).2.1 9 _ rfl
  have r10 := (HC.out w6 HB6.out).2.1 10 _ rfl
  have u0 := (HC.out w6 HB6.out).2.2 0 _ rfl
  have u1 := (HC.out w6 HB6.out).2.2 1 _ rfl
  have u2 := (HC.out w6 HB6.out).2.2 2 _ rfl
  have u3 := (HC.out w6 HB6.out).2.2 3 _ rfl
  have u4 := (HC.out w6 HB6.out).2.2 4 _ rfl
  have u5 := (HC.out w6 HB6.out).2.2 5 _ rfl
  have u6 := (HC.out w6 HB6.out).2.2 6 _ rfl
  have u7 := (HC.out w6 HB6.out).2.2 7 _ rfl
  have u8 := (HC.out w6 HB6.out).2.2 8 _ rfl
  have u9 := (HC.out w6 HB6.out).2.2 9 _ rfl
  have u10 := (HC.out w6 HB6.out).2.2 10 _ rfl
  go_wp2_with fail
  refine (Compare_ok HRA.out HRC.out _ (months_below H0.out.2.2 HB6.out)).mono ?_
  rintro e w7 ⟨he, hb⟩
  rw [HEQ.out.1, HEQ.out.2.1, HAC.out] at he
  subst he
  have HB7 : Hid (Below w0.heap.size w0 w7) := below_then HB6.out hb
  clear hb HB6
  clear q0 q1 q2 q3 q4 q5 q6 q7 q8 q9 q10 r0 r1 r2 r3 r4 r5 r6 r7 r8 r9 r10 u0 u1 u2 u3 u4 u5 u6 u7 u8 u9 u10
  have q0 := (HC.out w7 HB7.out).1 0 _ rfl
  have q1 := (HC.out w7 HB7.out).1 1 _ rfl
  have q2 := (HC.out w7 HB7.out).1 2 _ rfl
  have q3 := (HC.out w7 HB7.out).1 3 _ rfl
  have q4 := (HC.out w7 HB7.out).1 4 _ rfl
  have q5 := (HC.out w7 HB7.out).1 5 _ rfl
  have q6 := (HC.out w7 HB7.out).1 6 _ rfl
  have q7 := (HC.out w7 HB7.out).1 7 _ rfl
  have q8 := (HC.out w7 HB7.out).1 8 _ rfl
  have q9 := (HC.out w7 HB7.out).1 9 _ rfl
  have q10 := (HC.out w7 HB7.out).1 10 _ rfl
  have r0 := (HC.out w7 HB7.out).2.1 0 _ rfl
  have r1 := (HC.out w7 HB7.out).2.1 1 _ rfl
  have r2 := (HC.out w7 HB7.out).2.1 2 _ rfl
  have r3 := (HC.out w7 HB7.out).2.1 3 _ rfl
  have r4 := (HC.out w7 HB7.out).2.1 4 _ rfl
  have r5 := (HC.out w7 HB7.out).2.1 5 _ rfl
  have r6 := (HC.out w7 HB7.out).2.1 6 _ rfl
  have r7 := (HC.out w7 HB7.out).2.1 7 _ rfl
  have r8 := (HC.out w7 HB7.out).2.1 8 _ rfl
  have r9 := (HC.out w7 HB7.out).2.1 9 _ rfl
  have r10 := (HC.out w7 HB7.out).2.1 10 _ rfl
  have u0 := (HC.out w7 HB7.out).2.2 0 _ rfl
  have u1 := (HC.out w7 HB7.out).2.2 1 _ rfl
  have u2 := (HC.out w7 HB7.out).2.2 2 _ rfl
  have u3 := (HC.out w7 HB7.out).2.2 3 _ rfl
  have u4 := (HC.out w7 HB7.out).2.2 4 _ rfl
  have u5 := (HC.out w7 HB7.out).2.2 5 _ rfl
  have u6 := (HC.out w7 HB7.out).2.2 6 _ rfl
  have u7 := (HC.out w7 HB7.out).2.2 7 _ rfl
  have u8 := (HC.out w7 HB7.out).2.2 8 _ rfl
  have u9 := (HC.out w7 HB7.out).2.2 9 _ rfl
  have u10 := (HC.out w7 HB7.out).2.2 10 _ rfl
  go_wp2_with fail
  refine (Span_ok HRA.out _ (months_below H0.out.2.2 HB7.out)).mono ?_
  rintro e w8 ⟨he, hb⟩
  rw [HEQ.out.2.2.2.1, HEQ.out.1] at he
  subst he
  have HB8 : Hid (Below w0.heap.size w0 w8) := below_then HB7.out hb
  clear hb HB7
  clear q0 q1 q2 q3 q4 q5 q6 q7 q8 q9 q10 r0 r1 r2 r3 r4 r5 r6 r7 r8 r9 r10 u0 u1 u2 u3 u4 u5 u6 u7 u8 u9 u10
  have q0 := (HC.out w8 HB8.out).1 0 _ rfl
  have q1 := (HC.out w8 HB8.out).1 1 _ rfl
  have q2 := (HC.out w8 HB8.out).1 2 _ rfl
  have q3 := (HC.out w8 HB8.out).1 3 _ rfl
  have q4 := (HC.out w8 HB8.out).1 4 _ rfl
  have q5 := (HC.out w8 HB8.out).1 5 _ rfl
  have q6 := (HC.out w8 HB8.out).1 6 _ rfl
  have q7 := (HC.out w8 HB8.out).1 7 _ rfl
  have q8 := (HC.out w8 HB8.out).1 8 _ rfl
  have q9 := (HC.out w8 HB8.out).1 9 _ rfl
  have q10 := (HC.out w8 HB8.out).1 10 _ rfl
  have r0 := (HC.out w8 HB8.out).2.1 0 _ rfl
  have r1 := (HC.out w8 HB8.out).2.1 1 _ rfl
  have r2 := (HC.out w8 HB8.out).2.1 2 _ rfl
  have r3 := (HC.out w8 HB8.out).2.1 3 _ rfl
  have r4 := (HC.out w8 HB8.out).2.1 4 _ rfl
  have r5 := (HC.out w8 HB8.out).2.1 5 _ rfl
  have r6 := (HC.out w8 HB8.out).2.1 6 _ rfl
  have r7 := (HC.out w8 HB8.out).2.1 7 _ rfl
  have r8 := (HC.out w8 HB8.out).2.1 8 _ rfl
  have r9 := (HC.out w8 HB8.out).2.1 9 _ rfl
  have r10 := (HC.out w8 HB8.out).2.1 10 _ rfl
  have u0 := (HC.out w8 HB8.out).2.2 0 _ rfl
  have u1 := (HC.out w8 HB8.out).2.2 1 _ rfl
  have u2 := (HC.out w8 HB8.out).2.2 2 _ rfl
  have u3 := (HC.out w8 HB8.out).2.2 3 _ rfl
  have u4 := (HC.out w8 HB8.out).2.2 4 _ rfl
  have u5 := (HC.out w8 HB8.out).2.2 5 _ rfl
  have u6 := (HC.out w8 HB8.out).2.2 6 _ rfl
  have u7 := (HC.out w8 HB8.out).2.2 7 _ rfl
  have u8 := (HC.out w8 HB8.out).2.2 8 _ rfl
  have u9 := (HC.out w8 HB8.out).2.2 9 _ rfl
  have u10 := (HC.out w8 HB8.out).2.2 10 _ rfl
  go_wp2_with fail
  refine (Span_ok HRB.out _ (months_below H0.out.2.2 HB8.out)).mono ?_
  rintro e w9 ⟨he, hb⟩
  rw [HEQ.out.2.2.2.2, HEQ.out.2.2.1] at he
  subst he
  have HB9 : Hid (Below w0.heap.size w0 w9) := below_then HB8.out hb
  clear hb HB8
  clear q0 q1 q2 q3 q4 q5 q6 q7 q8 q9 q10 r0 r1 r2 r3 r4 r5 r6 r7 r8 r9 r10 u0 u1 u2 u3 u4 u5 u6 u7 u8 u9 u10
  have q0 := (HC.out w9 HB9.out).1 0 _ rfl
  have q1 := (HC.out w9 HB9.out).1 1 _ rfl
  have q2 := (HC.out w9 HB9.out).1 2 _ rfl
  have q3 := (HC.out w9 HB9.out).1 3 _ rfl
  have q4 := (HC.out w9 HB9.out).1 4 _ rfl
  have q5 := (HC.out w9 HB9.out).1 5 _ rfl
  have q6 := (HC.out w9 HB9.out).1 6 _ rfl
  have q7 := (HC.out w9 HB9.out).1 7 _ rfl
  have q8 := (HC.out w9 HB9.out).1 8 _ rfl
  have q9 := (HC.out w9 HB9.out).1 9 _ rfl
  have q10 := (HC.out w9 HB9.out).1 10 _ rfl
  have r0 := (HC.out w9 HB9.out).2.1 0 _ rfl
  have r1 := (HC.out w9 HB9.out).2.1 1 _ rfl
  have r2 := (HC.out w9 HB9.out).2.1 2 _ rfl
  have r3 := (HC.out w9 HB9.out).2.1 3 _ rfl
  have r4 := (HC.out w9 HB9.out).2.1 4 _ rfl
  have r5 := (HC.out w9 HB9.out).2.1 5 _ rfl
  have r6 := (HC.out w9 HB9.out).2.1 6 _ rfl
  have r7 := (HC.out w9 HB9.out).2.1 7 _ rfl
  have r8 := (HC.out w9 HB9.out).2.1 8 _ rfl
  have r9 := (HC.out w9 HB9.out).2.1 9 _ rfl
  have r10 := (HC.out w9 HB9.out).2.1 10 _ rfl
  have u0 := (HC.out w9 HB9.out).2.2 0 _ rfl
  have u1 := (HC.out w9 HB9.out).2.2 1 _ rfl
  have u2 := (HC.out w9 HB9.out).2.2 2 _ rfl
  have u3 := (HC.out w9 HB9.out).2.2 3 _ rfl
  have u4 := (HC.out w9 HB9.out).2.2 4 _ rfl
  have u5 := (HC.out w9 HB9.out).2.2 5 _ rfl
  have u6 := (HC.out w9 HB9.out).2.2 6 _ rfl
  have u7 := (HC.out w9 HB9.out).2.2 7 _ rfl
  have u8 := (HC.out w9 HB9.out).2.2 8 _ rfl
  have u9 := (HC.out w9 HB9.out).2.2 9 _ rfl
  have u10 := (HC.out w9 HB9.out).2.2 10 _ rfl
  go_wp2_with fail
  all_goals
    refine (anchor_any _ (months_below H0.out.2.2 HB9.out) (H0.out.2.1.below HB9.out)).mono ?_
    rintro e wa ⟨rfl, hb⟩
    have HBa : Hid (Below w.heap.size w wa) := H0.out.1.trans ((below_then HB9.out hb).mono H0.out.1.size)
    clear hb
    go_wp2_with fail
    go_ret
    exact ⟨rfl, HBa.out⟩
set_option maxRecDepth 100000 in
set_option maxHeartbeats 2000000 in
theorem order_N3a_6 (la ya ma da ha ia sa pa ga oa yb mb db hb ib sb pb ob lc yc mc dc hc ic sc pc gc oc : Int) (zc : Bool) (w : World) (h0 : rightB la ya ma da ha ia sa pa ga oa true = true) (h1 : rightB la yb mb db hb ib sb pb ga ob false = true) (h2 : rightB lc yc mc dc hc ic sc pc gc oc zc = true) (hab : instI la yb mb db hb ib sb pb ga ob < instI la ya ma da ha ia sa pa ga oa) (hbc : instI la yb mb db hb ib sb pb ga ob < instI lc yc mc dc hc ic sc pc gc oc) (hP : Pow w) (hM : Months w) : Calls Tryd.prog 7 #[.agg #[.int .i64 la, .int .i64 ya, .int .i64 ma, .int .i64 da, .int .i64 ha, .int .i64 ia, .int .i64 sa, .int .i64 pa, .int .i64 ga, .bool true, .int .i64 oa], .agg #[.int .i64 la, .int .i64 yb, .int .i64 mb, .int .i64 db, .int .i64 hb, .int .i64 ib, .int .i64 sb, .int .i64 pb, .int .i64 ga, .bool false, .int .i64 ob], .agg #[.int .i64 lc, .int .i64 yc, .int .i64 mc, .int .i64 dc, .int .i64 hc, .int .i64 ic, .int .i64 sc, .int .i64 pc, .int .i64 gc, .bool zc, .int .i64 oc]] w fun e w' => e = .returned (.bool true) ∧ Below w.heap.size w w' := by
  have HRA : Hid (rightB la ya ma da ha ia sa pa ga oa true = true) := h0
  have HRB : Hid (rightB la yb mb db hb ib sb pb ga ob false = true) := h1
  have HRC : Hid (rightB lc yc mc dc hc ic sc pc gc oc zc = true) := h2
  have lpa := len_pos la ya ma ga
  have lpb := len_pos la yb mb ga
  clear h0 h2 h1
  obtain ⟨ta, hta⟩ : ∃ t, instI la ya ma da ha ia sa pa ga oa = t := ⟨_, rfl⟩
  obtain ⟨Ya, hya⟩ : ∃ t, instI la ya ma da ha ia sa pa ga oa + lenI la ya ma ga - 1 = t := ⟨_, rfl⟩
  obtain ⟨tb, htb⟩ : ∃ t, instI la yb mb db hb ib sb pb ga ob = t := ⟨_, rfl⟩
  obtain ⟨Yb, hyb⟩ : ∃ t, instI la yb mb db hb ib sb pb ga ob + lenI la yb mb ga - 1 = t := ⟨_, rfl⟩
  obtain ⟨tc, htc⟩ : ∃ t, instI lc yc mc dc hc ic sc pc gc oc = t := ⟨_, rfl⟩
  rw [hta, htb] at hab
  rw [htb, htc] at hbc
  have hxa : ta ≤ Ya := by omega
  have hxb : tb ≤ Yb := by omega
  have HEQ : Hid (instI la ya ma da ha ia sa pa ga oa = ta ∧ instI lc yc mc dc hc ic sc pc gc oc = tc ∧ instI la yb mb db hb ib sb pb ga ob = tb ∧ instI la ya ma da ha ia sa pa ga oa + lenI la ya ma ga - 1 = Ya ∧ instI la yb mb db hb ib sb pb ga ob + lenI la yb mb ga - 1 = Yb) := ⟨hta, htc, htb, hya, hyb⟩
  clear lpa hta htc hya lpb htb hyb
  have HAB : Hid (cmpI ta tb = 1) := (cmp_gt (by omega)).symm
  have HBA : Hid (cmpI tb ta = (-1)) := (cmp_lt (by omega)).symm
  have HBC : Hid (cmpI tb tc = (-1)) := (cmp_lt (by omega)).symm
  obtain ⟨Xv, hXv⟩ : ∃ v, cmpI ta tc = v := ⟨_, rfl⟩
  have HAC : Hid (cmpI ta tc = Xv) := hXv
  clear hXv
  clear hbc
  obtain ⟨w0, hw0⟩ : ∃ w0, ((w.alloc (.cells #[.int .i64 la, .int .i64 ya, .int .i64 ma, .int .i64 da, .int .i64 ha, .int .i64 ia, .int .i64 sa, .int .i64 pa, .int .i64 ga, .bool true, .int .i64 oa] 23)).alloc (.cells #[.int .i64 la, .int .i64 yb, .int .i64 mb, .int .i64 db, .int .i64 hb, .int .i64 ib, .int .i64 sb, .int .i64 pb, .int .i64 ga, .bool false, .int .i64 ob] 23)).alloc (.cells #[.int .i64 lc, .int .i64 yc, .int .i64 mc, .int .i64 dc, .int .i64 hc, .int .i64 ic, .int .i64 sc, .int .i64 pc, .int .i64 gc, .bool zc, .int .i64 oc] 23) = w0 := ⟨_, rfl⟩
  have H0 : Hid (Below w.heap.size w w0 ∧ Pow w0 ∧ Months w0) := by
    have hb : Below w.heap.size w w0 := by rw [← hw0]; exact (((Below.refl _ _).alloc (Nat.le_refl _) _).alloc (by simp) _).alloc (by simp; omega) _
    exact ⟨hb, hP.below hb, months_below hM hb⟩
  have HC : Hid (∀ w1, Below w0.heap.size w0 w1 → (∀ j x, (#[.int .i64 la, .int .i64 ya, .int .i64 ma, .int .i64 da, .int .i64 ha, .int .i64 ia, .int .i64 sa, .int .i64 pa, .int .i64 ga, .bool true, .int .i64 oa] : Array Value)[j]? = some x → w1.cell? ⟨w.heap.size, j, none⟩ = some x) ∧ (∀ j x, (#[.int .i64 la, .int .i64 yb, .int .i64 mb, .int .i64 db, .int .i64 hb, .int .i64 ib, .int .i64 sb, .int .i64 pb, .int .i64 ga, .bool false, .int .i64 ob] : Array Value)[j]? = some x → w1.cell? ⟨w.heap.size + 1, j, none⟩ = some x) ∧ (∀ j x, (#[.int .i64 lc, .int .i64 yc, .int .i64 mc, .int .i64 dc, .int .i64 hc, .int .i64 ic, .int .i64 sc, .int .i64 pc, .int .i64 gc, .bool zc, .int .i64 oc] : Array Value)[j]? = some x → w1.cell? ⟨w.heap.size + 2, j, none⟩ = some x)) := fun w1 hb => three_cells hw0 hb
  clear hP hM
  have HB0 : Hid (Below w0.heap.size w0 w0) := Below.refl _ _
  have q0 := (HC.out w0 HB0.out).1 0 _ rfl
  have q1 := (HC.out w0 HB0.out).1 1 _ rfl
  have q2 := (HC.out w0 HB0.out).1 2 _ rfl
  have q3 := (HC.out w0 HB0.out).1 3 _ rfl
  have q4 := (HC.out w0 HB0.out).1 4 _ rfl
  have q5 := (HC.out w0 HB0.out).1 5 _ rfl
  have q6 := (HC.out w0 HB0.out).1 6 _ rfl
  have q7 := (HC.out w0 HB0.out).1 7 _ rfl
  have q8 := (HC.out w0 HB0.out).1 8 _ rfl
  have q9 := (HC.out w0 HB0.out).1 9 _ rfl
  have q10 := (HC.out w0 HB0.out).1 10 _ rfl
  have r0 := (HC.out w0 HB0.out).2.1 0 _ rfl
  have r1 := (HC.out w0 HB0.out).2.1 1 _ rfl
  have r2 := (HC.out w0 HB0.out).2.1 2 _ rfl
  have r3 := (HC.out w0 HB0.out).2.1 3 _ rfl
  have r4 := (HC.out w0 HB0.out).2.1 4 _ rfl
  have r5 := (HC.out w0 HB0.out).2.1 5 _ rfl
  have r6 := (HC.out w0 HB0.out).2.1 6 _ rfl
  have r7 := (HC.out w0 HB0.out).2.1 7 _ rfl
  have r8 := (HC.out w0 HB0.out).2.1 8 _ rfl
  have r9 := (HC.out w0 HB0.out).2.1 9 _ rfl
  have r10 := (HC.out w0 HB0.out).2.1 10 _ rfl
  have u0 := (HC.out w0 HB0.out).2.2 0 _ rfl
  have u1 := (HC.out w0 HB0.out).2.2 1 _ rfl
  have u2 := (HC.out w0 HB0.out).2.2 2 _ rfl
  have u3 := (HC.out w0 HB0.out).2.2 3 _ rfl
  have u4 := (HC.out w0 HB0.out).2.2 4 _ rfl
  have u5 := (HC.out w0 HB0.out).2.2 5 _ rfl
  have u6 := (HC.out w0 HB0.out).2.2 6 _ rfl
  have u7 := (HC.out w0 HB0.out).2.2 7 _ rfl
  have u8 := (HC.out w0 HB0.out).2.2 8 _ rfl
  have u9 := (HC.out w0 HB0.out).2.2 9 _ rfl
  have u10 := (HC.out w0 HB0.out).2.2 10 _ rfl
  go_enter Tryd.func7, Tryd.ntmps7
  go_wp2_with fail
  refine (lright_is HRA.out _ (months_below H0.out.2.2 HB0.out) (H0.out.2.1.below HB0.out)).mono ?_
  rintro e w1 ⟨he, hb⟩
  subst he
  have HB1 : Hid (Below w0.heap.size w0 w1) := below_then HB0.out hb
  clear hb HB0
  clear q0 q1 q2 q3 q4 q5 q6 q7 q8 q9 q10 r0 r1 r2 r3 r4 r5 r6 r7 r8 r9 r10 u0 u1 u2 u3 u4 u5 u6 u7 u8 u9 u10
  have q0 := (HC.out w1 HB1.out).1 0 _ rfl
  have q1 := (HC.out w1 HB1.out).1 1 _ rfl
  have q2 := (HC.out w1 HB1.out).1 2 _ rfl
  have q3 := (HC.out w1 HB1.out).1 3 _ rfl
  have q4 := (HC.out w1 HB1.out).1 4 _ rfl
  have q5 := (HC.out w1 HB1.out).1 5 _ rfl
  have q6 := (HC.out w1 HB1.out).1 6 _ rfl
  have q7 := (HC.out w1 HB1.out).1 7 _ rfl
  have q8 := (HC.out w1 HB1.out).1 8 _ rfl
  have q9 := (HC.out w1 HB1.out).1 9 _ rfl
  have q10 := (HC.out w1 HB1.out).1 10 _ rfl
  have r0 := (HC.out w1 HB1.out).2.1 0 _ rfl
  have r1 := (HC.out w1 HB1.out).2.1 1 _ rfl
  have r2 := (HC.out w1 HB1.out).2.1 2 _ rfl
  have r3 := (HC.out w1 HB1.out).2.1 3 _ rfl
  have r4 := (HC.out w1 HB1.out).2.1 4 _ rfl
  have r5 := (HC.out w1 HB1.out).2.1 5 _ rfl
  have r6 := (HC.out w1 HB1.out).2.1 6 _ rfl
  have r7 := (HC.out w1 HB1.out).2.1 7 _ rfl
  have r8 := (HC.out w1 HB1.out).2.1 8 _ rfl
  have r9 := (HC.out w1 HB1.out).2.1 9 _ rfl
  have r10 := (HC.out w1 HB1.out).2.1 10 _ rfl
  have u0 := (HC.out w1 HB1.out).2.2 0 _ rfl
  have u1 := (HC.out w1 HB1.out).2.2 1 _ rfl
  have u2 := (HC.out w1 HB1.out).2.2 2 _ rfl
  have u3 := (HC.out w1 HB1.out).2.2 3 _ rfl
  have u4 := (HC.out w1 HB1.out).2.2 4 _ rfl
  have u5 := (HC.out w1 HB1.out).2.2 5 _ rfl
  have u6 := (HC.out w1 HB1.out).2.2 6 _ rfl
  have u7 := (HC.out w1 HB1.out).2.2 7 _ rfl
  have u8 := (HC.out w1 HB1.out).2.2 8 _ rfl
  have u9 := (HC.out w1 HB1.out).2.2 9 _ rfl
  have u10 := (HC.out w1 HB1.out).2.2 10 _ rfl
  go_wp2_with fail
  refine (lright_is HRB.out _ (months_below H0.out.2.2 HB1.out) (H0.out.2.1.below HB1.out)).mono ?_
  rintro e w2 ⟨he, hb⟩
  subst he
  have HB2 : Hid (Below w0.heap.size w0 w2) := below_then HB1.out hb
  clear hb HB1
  clear q0 q1 q2 q3 q4 q5 q6 q7 q8 q9 q10 r0 r1 r2 r3 r4 r5 r6 r7 r8 r9 r10 u0 u1 u2 u3 u4 u5 u6 u7 u8 u9 u10
  have q0 := (HC.out w2 HB2.out).1 0 _ rfl
  have q1 := (HC.out w2 HB2.out).1 1 _ rfl
  have q2 := (HC.out w2 HB2.out).1 2 _ rfl
  have q3 := (HC.out w2 HB2.out).1 3 _ rfl
  have q4 := (HC.out w2 HB2.out).1 4 _ rfl
  have q5 := (HC.out w2 HB2.out).1 5 _ rfl
  have q6 := (HC.out w2 HB2.out).1 6 _ rfl
  have q7 := (HC.out w2 HB2.out).1 7 _ rfl
  have q8 := (HC.out w2 HB2.out).1 8 _ rfl
  have q9 := (HC.out w2 HB2.out).1 9 _ rfl
  have q10 := (HC.out w2 HB2.out).1 10 _ rfl
  have r0 := (HC.out w2 HB2.out).2.1 0 _ rfl
  have r1 := (HC.out w2 HB2.out).2.1 1 _ rfl
  have r2 := (HC.out w2 HB2.out).2.1 2 _ rfl
  have r3 := (HC.out w2 HB2.out).2.1 3 _ rfl
  have r4 := (HC.out w2 HB2.out).2.1 4 _ rfl
  have r5 := (HC.out w2 HB2.out).2.1 5 _ rfl
  have r6 := (HC.out w2 HB2.out).2.1 6 _ rfl
  have r7 := (HC.out w2 HB2.out).2.1 7 _ rfl
  have r8 := (HC.out w2 HB2.out).2.1 8 _ rfl
  have r9 := (HC.out w2 HB2.out).2.1 9 _ rfl
  have r10 := (HC.out w2 HB2.out).2.1 10 _ rfl
  have u0 := (HC.out w2 HB2.out).2.2 0 _ rfl
  have u1 := (HC.out w2 HB2.out).2.2 1 _ rfl
  have u2 := (HC.out w2 HB2.out).2.2 2 _ rfl
  have u3 := (HC.out w2 HB2.out).2.2 3 _ rfl
  have u4 := (HC.out w2 HB2.out).2.2 4 _ rfl
  have u5 := (HC.out w2 HB2.out).2.2 5 _ rfl
  have u6 := (HC.out w2 HB2.out).2.2 6 _ rfl
  have u7 := (HC.out w2 HB2.out).2.2 7 _ rfl
  have u8 := (HC.out w2 HB2.out).2.2 8 _ rfl
  have u9 := (HC.out w2 HB2.out).2.2 9 _ rfl
  have u10 := (HC.out w2 HB2.out).2.2 10 _ rfl
  go_wp2_with fail
  refine (lright_is HRC.out _ (months_below H0.out.2.2 HB2.out) (H0.out.2.1.below HB2.out)).mono ?_
  rintro e w3 ⟨he, hb⟩
  subst he
  have HB3 : Hid (Below w0.heap.size w0 w3) := below_then HB2.out hb
  clear hb HB2
  clear q0 q1 q2 q3 q4 q5 q6 q7 q8 q9 q10 r0 r1 r2 r3 r4 r5 r6 r7 r8 r9 r10 u0 u1 u2 u3 u4 u5 u6 u7 u8 u9 u10
  have q0 := (HC.out w3 HB3.out).1 0 _ rfl
  have q1 := (HC.out w3 HB3.out).1 1 _ rfl
  have q2 := (HC.out w3 HB3.out).1 2 _ rfl
  have q3 := (HC.out w3 HB3.out).1 3 _ rfl
  have q4 := (HC.out w3 HB3.out).1 4 _ rfl
  have q5 := (HC.out w3 HB3.out).1 5 _ rfl
  have q6 := (HC.out w3 HB3.out).1 6 _ rfl
  have q7 := (HC.out w3 HB3.out).1 7 _ rfl
  have q8 := (HC.out w3 HB3.out).1 8 _ rfl
  have q9 := (HC.out w3 HB3.out).1 9 _ rfl
  have q10 := (HC.out w3 HB3.out).1 10 _ rfl
  have r0 := (HC.out w3 HB3.out).2.1 0 _ rfl
  have r1 := (HC.out w3 HB3.out).2.1 1 _ rfl
  have r2 := (HC.out w3 HB3.out).2.1 2 _ rfl
  have r3 := (HC.out w3 HB3.out).2.1 3 _ rfl
  have r4 := (HC.out w3 HB3.out).2.1 4 _ rfl
  have r5 := (HC.out w3 HB3.out).2.1 5 _ rfl
  have r6 := (HC.out w3 HB3.out).2.1 6 _ rfl
  have r7 := (HC.out w3 HB3.out).2.1 7 _ rfl
  have r8 := (HC.out w3 HB3.out).2.1 8 _ rfl
  have r9 := (HC.out w3 HB3.out).2.1 9 _ rfl
  have r10 := (HC.out w3 HB3.out).2.1 10 _ rfl
  have u0 := (HC.out w3 HB3.out).2.2 0 _ rfl
  have u1 := (HC.out w3 HB3.out).2.2 1 _ rfl
  have u2 := (HC.out w3 HB3.out).2.2 2 _ rfl
  have u3 := (HC.out w3 HB3.out).2.2 3 _ rfl
  have u4 := (HC.out w3 HB3.out).2.2 4 _ rfl
  have u5 := (HC.out w3 HB3.out).2.2 5 _ rfl
  have u6 := (HC.out w3 HB3.out).2.2 6 _ rfl
  have u7 := (HC.out w3 HB3.out).2.2 7 _ rfl
  have u8 := (HC.out w3 HB3.out).2.2 8 _ rfl
  have u9 := (HC.out w3 HB3.out).2.2 9 _ rfl
  have u10 := (HC.out w3 HB3.out).2.2 10 _ rfl
  go_wp2_with fail
  refine (Compare_ok HRA.out HRB.out _ (months_below H0.out.2.2 HB3.out)).mono ?_
  rintro e w4 ⟨he, hb⟩
  rw [HEQ.out.1, HEQ.out.2.2.1, HAB.out] at he
  subst he
  have HB4 : Hid (Below w0.heap.size w0 w4) := below_then HB3.out hb
  clear hb HB3
  clear q0 q1 q2 q3 q4 q5 q6 q7 q8 q9 q10 r0 r1 r2 r3 r4 r5 r6 r7 r8 r9 r10 u0 u1 u2 u3 u4 u5 u6 u7 u8 u9 u10
  have q0 := (HC.out w4 HB4.out).1 0 _ rfl
  have q1 := (HC.out w4 HB4.out).1 1 _ rfl
  have q2 := (HC.out w4 HB4.out).1 2 _ rfl
  have q3 := (HC.out w4 HB4.out).1 3 _ rfl
  have q4 := (HC.out w4 HB4.out).1 4 _ rfl
  have q5 := (HC.out w4 HB4.out).1 5 _ rfl
  have q6 := (HC.out w4 HB4.out).1 6 _ rfl
  have q7 := (HC.out w4 HB4.out).1 7 _ rfl
  have q8 := (HC.out w4 HB4.out).1 8 _ rfl
  have q9 := (HC.out w4 HB4.out).1 9 _ rfl
  have q10 := (HC.out w4 HB4.out).1 10 _ rfl
  have r0 := (HC.out w4 HB4.out).2.1 0 _ rfl
  have r1 := (HC.out w4 HB4.out).2.1 1 _ rfl
  have r2 := (HC.out w4 HB4.out).2.1 2 _ rfl
  have r3 := (HC.out w4 HB4.out).2.1 3 _ rfl
  have r4 := (HC.out w4 HB4.out).2.1 4 _ rfl
  have r5 := (HC.out w4 HB4.out).2.1 5 _ rfl
  have r6 := (HC.out w4 HB4.out).2.1 6 _ rfl
  have r7 := (HC.out w4 HB4.out).2.1 7 _ rfl
  have r8 := (HC.out w4 HB4.out).2.1 8 _ rfl
  have r9 := (HC.out w4 HB4.out).2.1 9 _ rfl
  have r10 := (HC.out w4 HB4.out).2.1 10 _ rfl
  have u0 := (HC.out w4 HB4.out).2.2 0 _ rfl
  have u1 := (HC.out w4 HB4.out).2.2 1 _ rfl
  have u2 := (HC.out w4 HB4.out).2.2 2 _ rfl
  have u3 := (HC.out w4 HB4.out).2.2 3 _ rfl
  have u4 := (HC.out w4 HB4.out).2.2 4 _ rfl
  have u5 := (HC.out w4 HB4.out).2.2 5 _ rfl
  have u6 := (HC.out w4 HB4.out).2.2 6 _ rfl
  have u7 := (HC.out w4 HB4.out).2.2 7 _ rfl
  have u8 := (HC.out w4 HB4.out).2.2 8 _ rfl
  have u9 := (HC.out w4 HB4.out).2.2 9 _ rfl
  have u10 := (HC.out w4 HB4.out).2.2 10 _ rfl
  go_wp2_with fail
  refine (Compare_ok HRB.out HRA.out _ (months_below H0.out.2.2 HB4.out)).mono ?_
  rintro e w5 ⟨he, hb⟩
  rw [HEQ.out.2.2.1, HEQ.out.1, HBA.out] at he
  subst he
  have HB5 : Hid (Below w0.heap.size w0 w5) := below_then HB4.out hb
  clear hb HB4
  clear q0 q1 q2 q3 q4 q5 q6 q7 q8 q9 q10 r0 r1 r2 r3 r4 r5 r6 r7 r8 r9 r10 u0 u1 u2 u3 u4 u5 u6 u7 u8 u9 u10
  have q0 := (HC.out w5 HB5.out).1 0 _ rfl
  have q1 := (HC.out w5 HB5.out).1 1 _ rfl
  have q2 := (HC.out w5 HB5.out).1 2 _ rfl
  have q3 := (HC.out w5 HB5.out).1 3 _ rfl
  have q4 := (HC.out w5 HB5.out).1 4 _ rfl
  have q5 := (HC.out w5 HB5.out).1 5 _ rfl
  have q6 := (HC.out w5 HB5.out).1 6 _ rfl
  have q7 := (HC.out w5 HB5.out).1 7 _ rfl
  have q8 := (HC.out w5 HB5.out).1 8 _ rfl
  have q9 := (HC.out w5 HB5.out).1 9 _ rfl
  have q10 := (HC.out w5 HB5.out).1 10 _ rfl
  have r0 := (HC.out w5 HB5.out).2.1 0 _ rfl
  have r1 := (HC.out w5 HB5.out).2.1 1 _ rfl
  have r2 := (HC.out w5 HB5.out).2.1 2 _ rfl
  have r3 := (HC.out w5 HB5.out).2.1 3 _ rfl
  have r4 := (HC.out w5 HB5.out).2.1 4 _ rfl
  have r5 := (HC.out w5 HB5.out).2.1 5 _ rfl
  have r6 := (HC.out w5 HB5.out).2.1 6 _ rfl
  have r7 := (HC.out w5 HB5.out).2.1 7 _ rfl
  have r8 := (HC.out w5 HB5.out).2.1 8 _ rfl
  have r9 := (HC.out w5 HB5.out).2.1 9 _ rfl
  have r10 := (HC.out w5 HB5.out).2.1 10 _ rfl
  have u0 := (HC.out w5 HB5.out).2.2 0 _ rfl
  have u1 := (HC.out w5 HB5.out).2.2 1 _ rfl
  have u2 := (HC.out w5 HB5.out).2.2 2 _ rfl
  have u3 := (HC.out w5 HB5.out).2.2 3 _ rfl
  have u4 := (HC.out w5 HB5.out).2.2 4 _ rfl
  have u5 := (HC.out w5 HB5.out).2.2 5 _ rfl
  have u6 := (HC.out w5 HB5.out).2.2 6 _ rfl
  have u7 := (HC.out w5 HB5.out).2.2 7 _ rfl
  have u8 := (HC.out w5 HB5.out).2.2 8 _ rfl
  have u9 := (HC.out w5 HB5.out).2.2 9 _ rfl
  have u10 := (HC.out w5 HB5.out).2.2 10 _ rfl
  go_wp2_with fail
  refine (Compare_ok HRB.out HRC.out _ (months_below H0.out.2.2 HB5.out)).mono ?_
  rintro e w6 ⟨he, hb⟩
  rw [HEQ.out.2.2.1, HEQ.out.2.1, HBC.out] at he
  subst he
  have HB6 : Hid (Below w0.heap.size w0 w6) := below_then HB5.out hb
  clear hb HB5
  clear q0 q1 q2 q3 q4 q5 q6 q7 q8 q9 q10 r0 r1 r2 r3 r4 r5 r6 r7 r8 r9 r10 u0 u1 u2 u3 u4 u5 u6 u7 u8 u9 u10
  have q0 := (HC.out w6 HB6.out).1 0 _ rfl
  have q1 := (HC.out w6 HB6.out).1 1 _ rfl
  have q2 := (HC.out w6 HB6.out).1 2 _ rfl
  have q3 := (HC.out w6 HB6.out).1 3 _ rfl
  have q4 := (HC.out w6 HB6.out).1 4 _ rfl
  have q5 := (HC.out w6 HB6.out).1 5 _ rfl
  have q6 := (HC.out w6 HB6.out).1 6 _ rfl
  have q7 := (HC.out w6 HB6.out).1 7 _ rfl
  have q8 := (HC.out w6 HB6.out).1 8 _ rfl
  have q9 := (HC.out w6 HB6.out).1 9 _ rfl
  have q10 := (HC.out w6 HB6.out).1 10 _ rfl
  have r0 := (HC.out w6 HB6.out).2.1 0 _ rfl
  have r1 := (HC.out w6 HB6.out).2.1 1 _ rfl
  have r2 := (HC.out w6 HB6.out).2.1 2 _ rfl
  have r3 := (HC.out w6 HB6.out).2.1 3 _ rfl
  have r4 := (HC.out w6 HB6.out).2.1 4 _ rfl
  have r5 := (HC.out w6 HB6.out).2.1 5 _ rfl
  have r6 := (HC.out w6 HB6.out).2.1 6 _ rfl
  have r7 := (HC.out w6 HB6.out).2.1 7 _ rfl
  have r8 := (HC.out w6 HB6.out).2.1 8 _ rfl
  have r9 := (HC.out w6 HB6.out).2.1 9 _ rfl
  have r10 := (HC.out w6 HB6.out).2.1 10 _ rfl
  have u0 := (HC.out w6 HB6.out).2.2 0 _ rfl
  have u1 := (HC.out w6 HB6.out).2.2 1 _ rfl
  have u2 := (HC.out w6 HB6.out).2.2 2 _ rfl
  have u3 := (HC.out w6 HB6.out).2.2 3 _ rfl
  have u4 := (HC.out w6 HB6.out).2.2 4 _ rfl
  have u5 := (HC.out w6 HB6.out).2.2 5 _ rfl
  have u6 := (HC.out w6 HB6.out).2.2 6 _ rfl
  have u7 := (HC.out w6 HB6.out).2.2 7 _ rfl
  have u8 := (HC.out w6 HB6.out).2.2 8 _ rfl
  have u9 := (HC.out w6 HB6.out).2.2 9 _ rfl
  have u10 := (HC.out w6 HB6.out).2.2 10 _ rfl
  go_wp2_with fail
  refine (Compare_ok HRA.out HRC.out _ (months_below H0.out.2.2 HB6.out)).mono ?_
  rintro e w7 ⟨he, hb⟩
  rw [HEQ.out.1, HEQ.out.2.1, HAC.out] at he
  subst he
  have HB7 : Hid (Below w0.heap.size w0 w7) := below_then HB6.out hb
  clear hb HB6
  clear q0 q1 q2 q3 q4 q5 q6 q7 q8 q9 q10 r0 r1 r2 r3 r4 r5 r6 r7 r8 r9 r10 u0 u1 u2 u3 u4 u5 u6 u7 u8 u9 u10
  have q0 := (HC.out w7 HB7.out).1 0 _ rfl
  have q1 := (HC.out w7 HB7.out).1 1 _ rfl
  have q2 := (HC.out w7 HB7.out).1 2 _ rfl
  have q3 := (HC.out w7 HB7.out).1 3 _ rfl
  have q4 := (HC.out w7 HB7.out).1 4 _ rfl
  have q5 := (HC.out w7 HB7.out).1 5 _ rfl
  have q6 := (HC.out w7 HB7.out).1 6 _ rfl
  have q7 := (HC.out w7 HB7.out).1 7 _ rfl
  have q8 := (HC.out w7 HB7.out).1 8 _ rfl
  have q9 := (HC.out w7 HB7.out).1 9 _ rfl
  have q10 := (HC.out w7 HB7.out).1 10 _ rfl
  have r0 := (HC.out w7 HB7.out).2.1 0 _ rfl
  have r1 := (HC.out w7 HB7.out).2.1 1 _ rfl
  have r2 := (HC.out w7 HB7.out).2.1 2 _ rfl
  have r3 := (HC.out w7 HB7.out).2.1 3 _ rfl
  have r4 := (HC.out w7 HB7.out).2.1 4 _ rfl
  have r5 := (HC.out w7 HB7.out).2.1 5 _ rfl
  have r6 := (HC.out w7 HB7.out).2.1 6 _ rfl
  have r7 := (HC.out w7 HB7.out).2.1 7 _ rfl
  have r8 := (HC.out w7 HB7.out).2.1 8 _ rfl
  have r9 := (HC.out w7 HB7.out).2.1 9 _ rfl
  have r10 := (HC.out w7 HB7.out).2.1 10 _ rfl
  have u0 := (HC.out w7 HB7.out).2.2 0 _ rfl
  have u1 := (HC.out w7 HB7.out).2.2 1 _ rfl
  have u2 := (HC.out w7 HB7.out).2.2 2 _ rfl
  have u3 := (HC.out w7 HB7.out).2.2 3 _ rfl
  have u4 := (HC.out w7 HB7.out).2.2 4 _ rfl
  have u5 := (HC.out w7 HB7.out).2.2 5 _ rfl
  have u6 := (HC.out w7 HB7.out).2.2 6 _ rfl
  have u7 := (HC.out w7 HB7.out).2.2 7 _ rfl
  have u8 := (HC.out w7 HB7.out).2.2 8 _ rfl
  have u9 := (HC.out w7 HB7.out).2.2 9 _ rfl
  have u10 := (HC.out w7 HB7.out).2.2 10 _ rfl
  go_wp2_with fail
  refine (Span_ok HRA.out _ (months_below H0.out.2.2 HB7.out)).mono ?_
  rintro e w8 ⟨he, hb⟩
  rw [HEQ.out.2.2.2.1, HEQ.out.1] at he
  subst he
  have HB8 : Hid (Below w0.heap.size w0 w8) := below_then HB7.out hb
  clear hb HB7
  clear q0 q1 q2 q3 q4 q5 q6 q7 q8 q9 q10 r0 r1 r2 r3 r4 r5 r6 r7 r8 r9 r10 u0 u1 u2 u3 u4 u5 u6 u7 u8 u9 u10
  have q0 := (HC.out w8 HB8.out).1 0 _ rfl
  have q1 := (HC.out w8 HB8.out).1 1 _ rfl
  have q2 := (HC.out w8 HB8.out).1 2 _ rfl
  have q3 := (HC.out w8 HB8.out).1 3 _ rfl
  have q4 := (HC.out w8 HB8.out).1 4 _ rfl
  have q5 := (HC.out w8 HB8.out).1 5 _ rfl
  have q6 := (HC.out w8 HB8.out).1 6 _ rfl
  have q7 := (HC.out w8 HB8.out).1 7 _ rfl
  have q8 := (HC.out w8 HB8.out).1 8 _ rfl
  have q9 := (HC.out w8 HB8.out).1 9 _ rfl
  have q10 := (HC.out w8 HB8.out).1 10 _ rfl
  have r0 := (HC.out w8 HB8.out).2.1 0 _ rfl
  have r1 := (HC.out w8 HB8.out).2.1 1 _ rfl
  have r2 := (HC.out w8 HB8.out).2.1 2 _ rfl
  have r3 := (HC.out w8 HB8.out).2.1 3 _ rfl
  have r4 := (HC.out w8 HB8.out).2.1 4 _ rfl
  have r5 := (HC.out w8 HB8.out).2.1 5 _ rfl
  have r6 := (HC.out w8 HB8.out).2.1 6 _ rfl
  have r7 := (HC.out w8 HB8.out).2.1 7 _ rfl
  have r8 := (HC.out w8 HB8.out).2.1 8 _ rfl
  have r9 := (HC.out w8 HB8.out).2.1 9 _ rfl
  have r10 := (HC.out w8 HB8.out).2.1 10 _ rfl
  have u0 := (HC.out w8 HB8.out).2.2 0 _ rfl
  have u1 := (HC.out w8 HB8.out).2.2 1 _ rfl
  have u2 := (HC.out w8 HB8.out).2.2 2 _ rfl
  have u3 := (HC.out w8 HB8.out).2.2 3 _ rfl
  have u4 := (HC.out w8 HB8.out).2.2 4 _ rfl
  have u5 := (HC.out w8 HB8.out).2.2 5 _ rfl
  have u6 := (HC.out w8 HB8.out).2.2 6 _ rfl
  have u7 := (HC.out w8 HB8.out).2.2 7 _ rfl
  have u8 := (HC.out w8 HB8.out).2.2 8 _ rfl
  have u9 := (HC.out w8 HB8.out).2.2 9 _ rfl
  have u10 := (HC.out w8 HB8.out).2.2 10 _ rfl
  go_wp2_with fail
  refine (Span_ok HRB.out _ (months_below H0.out.2.2 HB8.out)).mono ?_
  rintro e w9 ⟨he, hb⟩
  rw [HEQ.out.2.2.2.2, HEQ.out.2.2.1] at he
  subst he
  have HB9 : Hid (Below w0.heap.size w0 w9) := below_then HB8.out hb
  clear hb HB8
  clear q0 q1 q2 q3 q4 q5 q6 q7 q8 q9 q10 r0 r1 r2 r3 r4 r5 r6 r7 r8 r9 r10 u0 u1 u2 u3 u4 u5 u6 u7 u8 u9 u10
  have q0 := (HC.out w9 HB9.out).1 0 _ rfl
  have q1 := (HC.out w9 HB9.out).1 1 _ rfl
  have q2 := (HC.out w9 HB9.out).1 2 _ rfl
  have q3 := (HC.out w9 HB9.out).1 3 _ rfl
  have q4 := (HC.out w9 HB9.out).1 4 _ rfl
  have q5 := (HC.out w9 HB9.out).1 5 _ rfl
  have q6 := (HC.out w9 HB9.out).1 6 _ rfl
  have q7 := (HC.out w9 HB9.out).1 7 _ rfl
  have q8 := (HC.out w9 HB9.out).1 8 _ rfl
  have q9 := (HC.out w9 HB9.out).1 9 _ rfl
  have q10 := (HC.out w9 HB9.out).1 10 _ rfl
  have r0 := (HC.out w9 HB9.out).2.1 0 _ rfl
  have r1 := (HC.out w9 HB9.out).2.1 1 _ rfl
  have r2 := (HC.out w9 HB9.out).2.1 2 _ rfl
  have r3 := (HC.out w9 HB9.out).2.1 3 _ rfl
  have r4 := (HC.out w9 HB9.out).2.1 4 _ rfl
  have r5 := (HC.out w9 HB9.out).2.1 5 _ rfl
  have r6 := (HC.out w9 HB9.out).2.1 6 _ rfl
  have r7 := (HC.out w9 HB9.out).2.1 7 _ rfl
  have r8 := (HC.out w9 HB9.out).2.1 8 _ rfl
  have r9 := (HC.out w9 HB9.out).2.1 9 _ rfl
  have r10 := (HC.out w9 HB9.out).2.1 10 _ rfl
  have u0 := (HC.out w9 HB9.out).2.2 0 _ rfl
  have u1 := (HC.out w9 HB9.out).2.2 1 _ rfl
  have u2 := (HC.out w9 HB9.out).2.2 2 _ rfl
  have u3 := (HC.out w9 HB9.out).2.2 3 _ rfl
  have u4 := (HC.out w9 HB9.out).2.2 4 _ rfl
  have u5 := (HC.out w9 HB9.out).2.2 5 _ rfl
  have u6 := (HC.out w9 HB9.out).2.2 6 _ rfl
  have u7 := (HC.out w9 HB9.out).2.2 7 _ rfl
  have u8 := (HC.out w9 HB9.out).2.2 8 _ rfl
  have u9 := (HC.out w9 HB9.out).2.2 9 _ rfl
  have u10 := (HC.out w9 HB9.out).2.2 10 _ rfl
  go_wp2_with fail
  all_goals
    refine (anchor_any _ (months_below H0.out.2.2 HB9.out) (H0.out.2.1.below HB9.out)).mono ?_
    rintro e wa ⟨rfl, hb⟩
    have HBa : Hid (Below w.heap.size w wa) := H0.out.1.trans ((below_then HB9.out hb).mono H0.out.1.size)
    clear hb
    go_wp2_with fail
    go_ret
    exact ⟨rfl, HBa.out⟩
end Go.Proofs.YtpcdkafjogpdkaaDoor
