/-
  StampOrder: the law's 'right', three stamps in memory, stamps that are not right.
-/
import Derived.Test.YtpcdkafjogpdkaaDoorAnchor
import Derived.Test.YtpcdkafjogpdkaaDoorCmp
import Derived.Test.YtpcdkafjogpdkaaDoorOrderNum
namespace Go.Proofs.YtpcdkafjogpdkaaDoor
open Go.RowKit

set_option maxHeartbeats 1000000 in
theorem lright_is {lv y mo d h mi s p dg zn : Int} {z : Bool} {b : Bool} (hr : rightB lv y mo d h mi s p dg zn z = b) (w : World) (hM : Months w) (hP : Pow w) : Calls Tryd.prog 16 #[.agg #[.int .i64 lv, .int .i64 y, .int .i64 mo, .int .i64 d, .int .i64 h, .int .i64 mi, .int .i64 s, .int .i64 p, .int .i64 dg, .bool z, .int .i64 zn]] w fun e w' => e = .returned (.bool b) ∧ Below w.heap.size w w' := by
  obtain ⟨w0, hw0⟩ : ∃ w0, w.alloc (.cells #[.int .i64 lv, .int .i64 y, .int .i64 mo, .int .i64 d, .int .i64 h, .int .i64 mi, .int .i64 s, .int .i64 p, .int .i64 dg, .bool z, .int .i64 zn] 23) = w0 := ⟨_, rfl⟩
  have H0 : Hid (Below w.heap.size w w0 ∧ Pow w0 ∧ Months w0) := by
    have hb : Below w.heap.size w w0 := by rw [← hw0]; exact (Below.refl _ _).alloc (Nat.le_refl _) _
    exact ⟨hb, hP.below hb, months_below hM hb⟩
  have HC : Hid (∀ w1, Below w0.heap.size w0 w1 → ∀ j x, (#[.int .i64 lv, .int .i64 y, .int .i64 mo, .int .i64 d, .int .i64 h, .int .i64 mi, .int .i64 s, .int .i64 p, .int .i64 dg, .bool z, .int .i64 zn] : Array Value)[j]? = some x → w1.cell? ⟨w.heap.size, j, none⟩ = some x) := fun w1 hb j x hx => stamp_cells lv y mo d h mi s p dg zn z hw0 hb j x hx
  have q0 := HC.out w0 (Below.refl _ _) 0 _ rfl
  have q1 := HC.out w0 (Below.refl _ _) 1 _ rfl
  have q2 := HC.out w0 (Below.refl _ _) 2 _ rfl
  have q3 := HC.out w0 (Below.refl _ _) 3 _ rfl
  have q4 := HC.out w0 (Below.refl _ _) 4 _ rfl
  have q5 := HC.out w0 (Below.refl _ _) 5 _ rfl
  have q6 := HC.out w0 (Below.refl _ _) 6 _ rfl
  have q7 := HC.out w0 (Below.refl _ _) 7 _ rfl
  have q8 := HC.out w0 (Below.refl _ _) 8 _ rfl
  have q9 := HC.out w0 (Below.refl _ _) 9 _ rfl
  have q10 := HC.out w0 (Below.refl _ _) 10 _ rfl
  clear hP hM
  have HR : Hid (rightB lv y mo d h mi s p dg zn z = b) := hr
  clear hr
  cases b with
  | true =>
    go_enter Tryd.func16, Tryd.ntmps16
    go_wp2_with fail
    refine (Print_ok HR.out _ H0.out.2.2 H0.out.2.1).mono ?_
    rintro e w1 ⟨T, rfl, HT, hb⟩
    have HB1 : Hid (Below w.heap.size w w1) := H0.out.1.trans (hb.mono H0.out.1.size)
    clear hb
    go_wp2_with fail
    go_ret
    exact ⟨rfl, HB1.out⟩
  | false =>
    go_enter Tryd.func16, Tryd.ntmps16
    go_wp2_with fail
    refine (Print_no HR.out _ H0.out.2.2).mono ?_
    rintro e w1 ⟨b, rfl, hF, hb⟩
    have HB1 : Hid (Below w.heap.size w w1) := H0.out.1.trans (hb.mono H0.out.1.size)
    clear hb hF
    go_wp2_with fail
    go_ret
    exact ⟨rfl, HB1.out⟩
theorem cell_top {W : World} {cc : Array Value} {t : TypeId} {n j : Nat} (hn : W.heap.size = n) : (W.alloc (.cells cc t)).cell? ⟨n, j, none⟩ = cc[j]? := by subst hn; simp
theorem three_cells {ca cb cc : Array Value} {t : TypeId} {w w0 : World} (hw0 : ((w.alloc (.cells ca t)).alloc (.cells cb t)).alloc (.cells cc t) = w0) {w1 : World} (hb : Below w0.heap.size w0 w1) :
    (∀ j x, ca[j]? = some x → w1.cell? ⟨w.heap.size, j, none⟩ = some x) ∧ (∀ j x, cb[j]? = some x → w1.cell? ⟨w.heap.size + 1, j, none⟩ = some x) ∧ (∀ j x, cc[j]? = some x → w1.cell? ⟨w.heap.size + 2, j, none⟩ = some x) := by
  have hs : w0.heap.size = w.heap.size + 3 := by rw [← hw0]; simp
  refine ⟨fun j x hx => ?_, fun j x hx => ?_, fun j x hx => ?_⟩
  · rw [hb.cell (p := ⟨w.heap.size, j, none⟩) (by show w.heap.size < _; omega), ← hw0, World.cell?_alloc_lt _ _ ⟨w.heap.size, j, none⟩ (by simp; omega), World.cell?_alloc_lt _ _ ⟨w.heap.size, j, none⟩ (by simp)]
    simpa using hx
  · rw [hb.cell (p := ⟨w.heap.size + 1, j, none⟩) (by show w.heap.size + 1 < _; omega), ← hw0, World.cell?_alloc_lt _ _ ⟨w.heap.size + 1, j, none⟩ (by simp)]
    rw [cell_top (by simp)]
    exact hx
  · rw [hb.cell (p := ⟨w.heap.size + 2, j, none⟩) (by show w.heap.size + 2 < _; omega), ← hw0]
    rw [cell_top (by simp)]
    exact hx
set_option maxRecDepth 100000 in
set_option maxHeartbeats 2000000 in
theorem order_no1 (la ya ma da ha ia sa pa ga oa lb yb mb db hb ib sb pb gb ob lc yc mc dc hc ic sc pc gc oc : Int) (za zb zc : Bool) (w : World) (h0 : rightB la ya ma da ha ia sa pa ga oa za = false) (hP : Pow w) (hM : Months w) : Calls Tryd.prog 7 #[.agg #[.int .i64 la, .int .i64 ya, .int .i64 ma, .int .i64 da, .int .i64 ha, .int .i64 ia, .int .i64 sa, .int .i64 pa, .int .i64 ga, .bool za, .int .i64 oa], .agg #[.int .i64 lb, .int .i64 yb, .int .i64 mb, .int .i64 db, .int .i64 hb, .int .i64 ib, .int .i64 sb, .int .i64 pb, .int .i64 gb, .bool zb, .int .i64 ob], .agg #[.int .i64 lc, .int .i64 yc, .int .i64 mc, .int .i64 dc, .int .i64 hc, .int .i64 ic, .int .i64 sc, .int .i64 pc, .int .i64 gc, .bool zc, .int .i64 oc]] w fun e w' => e = .returned (.bool true) ∧ Below w.heap.size w w' := by
  have HRA : Hid (rightB la ya ma da ha ia sa pa ga oa za = false) := h0
  clear h0
  obtain ⟨w0, hw0⟩ : ∃ w0, ((w.alloc (.cells #[.int .i64 la, .int .i64 ya, .int .i64 ma, .int .i64 da, .int .i64 ha, .int .i64 ia, .int .i64 sa, .int .i64 pa, .int .i64 ga, .bool za, .int .i64 oa] 23)).alloc (.cells #[.int .i64 lb, .int .i64 yb, .int .i64 mb, .int .i64 db, .int .i64 hb, .int .i64 ib, .int .i64 sb, .int .i64 pb, .int .i64 gb, .bool zb, .int .i64 ob] 23)).alloc (.cells #[.int .i64 lc, .int .i64 yc, .int .i64 mc, .int .i64 dc, .int .i64 hc, .int .i64 ic, .int .i64 sc, .int .i64 pc, .int .i64 gc, .bool zc, .int .i64 oc] 23) = w0 := ⟨_, rfl⟩
  have H0 : Hid (Below w.heap.size w w0 ∧ Pow w0 ∧ Months w0) := by
    have hb : Below w.heap.size w w0 := by rw [← hw0]; exact (((Below.refl _ _).alloc (Nat.le_refl _) _).alloc (by simp) _).alloc (by simp; omega) _
    exact ⟨hb, hP.below hb, months_below hM hb⟩
  have HC : Hid (∀ w1, Below w0.heap.size w0 w1 → (∀ j x, (#[.int .i64 la, .int .i64 ya, .int .i64 ma, .int .i64 da, .int .i64 ha, .int .i64 ia, .int .i64 sa, .int .i64 pa, .int .i64 ga, .bool za, .int .i64 oa] : Array Value)[j]? = some x → w1.cell? ⟨w.heap.size, j, none⟩ = some x) ∧ (∀ j x, (#[.int .i64 lb, .int .i64 yb, .int .i64 mb, .int .i64 db, .int .i64 hb, .int .i64 ib, .int .i64 sb, .int .i64 pb, .int .i64 gb, .bool zb, .int .i64 ob] : Array Value)[j]? = some x → w1.cell? ⟨w.heap.size + 1, j, none⟩ = some x) ∧ (∀ j x, (#[.int .i64 lc, .int .i64 yc, .int .i64 mc, .int .i64 dc, .int .i64 hc, .int .i64 ic, .int .i64 sc, .int .i64 pc, .int .i64 gc, .bool zc, .int .i64 oc] : Array Value)[j]? = some x → w1.cell? ⟨w.heap.size + 2, j, none⟩ = some x)) := fun w1 hb => three_cells hw0 hb
  clear hP hM
  have HB0 : Hid (Below w0.heap.size w0 w0) := Below.refl _ _
  have q0 := (HC.out w0 HB0.out).1 0 _ rfl
  have q1 := (HC.out w0 HB0.out).1 1 _ rfl
  have q2 := (HC.out w0 HB0.out).1 2 _ rfl
  have q3 := (HC.out w0 HB0.out).1 3 _ rfl
  have q4 := (HC.out w0 HB0.out).1 4 _ rfl
  have q5 := (HC.out w0 HB0.out).1 5 _ rfl
  have q6 := (HC.out w0 HB0.out).1 6 _ rfl
  have q7 := (HC.out w0 HB0.out).1 7 _ rfl
  have q8 := (HC.out w0 HB0.out).1 8 _ rfl
  have q9 := (HC.out w0 HB0.out).1 9 _ rfl
  have q10 := (HC.out w0 HB0.out).1 10 _ rfl
  have r0 := (HC.out w0 HB0.out).2.1 0 _ rfl
  have r1 := (HC.out w0 HB0.out).2.1 1 _ rfl
  have r2 := (HC.out w0 HB0.out).2.1 2 _ rfl
  have r3 := (HC.out w0 HB0.out).2.1 3 _ rfl
  have r4 := (HC.out w0 HB0.out).2.1 4 _ rfl
  have r5 := (HC.out w0 HB0.out).2.1 5 _ rfl
  have r6 := (HC.out w0 HB0.out).2.1 6 _ rfl
  have r7 := (HC.out w0 HB0.out).2.1 7 _ rfl
  have r8 := (HC.out w0 HB0.out).2.1 8 _ rfl
  have r9 := (HC.out w0 HB0.out).2.1 9 _ rfl
  have r10 := (HC.out w0 HB0.out).2.1 10 _ rfl
  have u0 := (HC.out w0 HB0.out).2.2 0 _ rfl
  have u1 := (HC.out w0 HB0.out).2.2 1 _ rfl
  have u2 := (HC.out w0 HB0.out).2.2 2 _ rfl
  have u3 := (HC.out w0 HB0.out).2.2 3 _ rfl
  have u4 := (HC.out w0 HB0.out).2.2 4 _ rfl
  have u5 := (HC.out w0 HB0.out).2.2 5 _ rfl
  have u6 := (HC.out w0 HB0.out).2.2 6 _ rfl
  have u7 := (HC.out w0 HB0.out).2.2 7 _ rfl
  have u8 := (HC.out w0 HB0.out).2.2 8 _ rfl
  have u9 := (HC.out w0 HB0.out).2.2 9 _ rfl
  have u10 := (HC.out w0 HB0.out).2.2 10 _ rfl
  go_enter Tryd.func7, Tryd.ntmps7
  go_wp2_with fail
  refine (lright_is HRA.out _ (months_below H0.out.2.2 HB0.out) (H0.out.2.1.below HB0.out)).mono ?_
  rintro e w1 ⟨he, hb⟩
  subst he
  have HB1 : Hid (Below w0.heap.size w0 w1) := below_then HB0.out hb
  clear hb HB0
  clear q0 q1 q2 q3 q4 q5 q6 q7 q8 q9 q10 r0 r1 r2 r3 r4 r5 r6 r7 r8 r9 r10 u0 u1 u2 u3 u4 u5 u6 u7 u8 u9 u10
  have q0 := (HC.out w1 HB1.out).1 0 _ rfl
  have q1 := (HC.out w1 HB1.out).1 1 _ rfl
  have q2 := (HC.out w1 HB1.out).1 2 _ rfl
  have q3 := (HC.out w1 HB1.out).1 3 _ rfl
  have q4 := (HC.out w1 HB1.out).1 4 _ rfl
  have q5 := (HC.out w1 HB1.out).1 5 _ rfl
  have q6 := (HC.out w1 HB1.out).1 6 _ rfl
  have q7 := (HC.out w1 HB1.out).1 7 _ rfl
  have q8 := (HC.out w1 HB1.out).1 8 _ rfl
  have q9 := (HC.out w1 HB1.out).1 9 _ rfl
  have q10 := (HC.out w1 HB1.out).1 10 _ rfl
  have r0 := (HC.out w1 HB1.out).2.1 0 _ rfl
  have r1 := (HC.out w1 HB1.out).2.1 1 _ rfl
  have r2 := (HC.out w1 HB1.out).2.1 2 _ rfl
  have r3 := (HC.out w1 HB1.out).2.1 3 _ rfl
  have r4 := (HC.out w1 HB1.out).2.1 4 _ rfl
  have r5 := (HC.out w1 HB1.out).2.1 5 _ rfl
  have r6 := (HC.out w1 HB1.out).2.1 6 _ rfl
  have r7 := (HC.out w1 HB1.out).2.1 7 _ rfl
  have r8 := (HC.out w1 HB1.out).2.1 8 _ rfl
  have r9 := (HC.out w1 HB1.out).2.1 9 _ rfl
  have r10 := (HC.out w1 HB1.out).2.1 10 _ rfl
  have u0 := (HC.out w1 HB1.out).2.2 0 _ rfl
  have u1 := (HC.out w1 HB1.out).2.2 1 _ rfl
  have u2 := (HC.out w1 HB1.out).2.2 2 _ rfl
  have u3 := (HC.out w1 HB1.out).2.2 3 _ rfl
  have u4 := (HC.out w1 HB1.out).2.2 4 _ rfl
  have u5 := (HC.out w1 HB1.out).2.2 5 _ rfl
  have u6 := (HC.out w1 HB1.out).2.2 6 _ rfl
  have u7 := (HC.out w1 HB1.out).2.2 7 _ rfl
  have u8 := (HC.out w1 HB1.out).2.2 8 _ rfl
  have u9 := (HC.out w1 HB1.out).2.2 9 _ rfl
  have u10 := (HC.out w1 HB1.out).2.2 10 _ rfl
  go_wp2_with fail
  refine (anchor_any _ (months_below H0.out.2.2 HB1.out) (H0.out.2.1.below HB1.out)).mono ?_
  rintro e wa ⟨rfl, hb⟩
  have HBa : Hid (Below w.heap.size w wa) := H0.out.1.trans ((below_then HB1.out hb).mono H0.out.1.size)
  clear hb
  go_wp2_with fail
  go_ret
  exact ⟨rfl, HBa.out⟩
set_option maxRecDepth 100000 in
set_option maxHeartbeats 2000000 in
theorem order_no2 (la ya ma da ha ia sa pa ga oa lb yb mb db hb ib sb pb gb ob lc yc mc dc hc ic sc pc gc oc : Int) (za zb zc : Bool) (w : World) (h0 : rightB la ya ma da ha ia sa pa ga oa za = true) (h1 : rightB lb yb mb db hb ib sb pb gb ob zb = false) (hP : Pow w) (hM : Months w) : Calls Tryd.prog 7 #[.agg #[.int .i64 la, .int .i64 ya, .int .i64 ma, .int .i64 da, .int .i64 ha, .int .i64 ia, .int .i64 sa, .int .i64 pa, .int .i64 ga, .bool za, .int .i64 oa], .agg #[.int .i64 lb, .int .i64 yb, .int .i64 mb, .int .i64 db, .int .i64 hb, .int .i64 ib, .int .i64 sb, .int .i64 pb, .int .i64 gb, .bool zb, .int .i64 ob], .agg #[.int .i64 lc, .int .i64 yc, .int .i64 mc, .int .i64 dc, .int .i64 hc, .int .i64 ic, .int .i64 sc, .int .i64 pc, .int .i64 gc, .bool zc, .int .i64 oc]] w fun e w' => e = .returned (.bool true) ∧ Below w.heap.size w w' := by
  have HRA : Hid (rightB la ya ma da ha ia sa pa ga oa za = true) := h0
  clear h0
  have HRB : Hid (rightB lb yb mb db hb ib sb pb gb ob zb = false) := h1
  clear h1
  obtain ⟨w0, hw0⟩ : ∃ w0, ((w.alloc (.cells #[.int .i64 la, .int .i64 ya, .int .i64 ma, .int .i64 da, .int .i64 ha, .int .i64 ia, .int .i64 sa, .int .i64 pa, .int .i64 ga, .bool za, .int .i64 oa] 23)).alloc (.cells #[.int .i64 lb, .int .i64 yb, .int .i64 mb, .int .i64 db, .int .i64 hb, .int .i64 ib, .int .i64 sb, .int .i64 pb, .int .i64 gb, .bool zb, .int .i64 ob] 23)).alloc (.cells #[.int .i64 lc, .int .i64 yc, .int .i64 mc, .int .i64 dc, .int .i64 hc, .int .i64 ic, .int .i64 sc, .int .i64 pc, .int .i64 gc, .bool zc, .int .i64 oc] 23) = w0 := ⟨_, rfl⟩
  have H0 : Hid (Below w.heap.size w w0 ∧ Pow w0 ∧ Months w0) := by
    have hb : Below w.heap.size w w0 := by rw [← hw0]; exact (((Below.refl _ _).alloc (Nat.le_refl _) _).alloc (by simp) _).alloc (by simp; omega) _
    exact ⟨hb, hP.below hb, months_below hM hb⟩
  have HC : Hid (∀ w1, Below w0.heap.size w0 w1 → (∀ j x, (#[.int .i64 la, .int .i64 ya, .int .i64 ma, .int .i64 da, .int .i64 ha, .int .i64 ia, .int .i64 sa, .int .i64 pa, .int .i64 ga, .bool za, .int .i64 oa] : Array Value)[j]? = some x → w1.cell? ⟨w.heap.size, j, none⟩ = some x) ∧ (∀ j x, (#[.int .i64 lb, .int .i64 yb, .int .i64 mb, .int .i64 db, .int .i64 hb, .int .i64 ib, .int .i64 sb, .int .i64 pb, .int .i64 gb, .bool zb, .int .i64 ob] : Array Value)[j]? = some x → w1.cell? ⟨w.heap.size + 1, j, none⟩ = some x) ∧ (∀ j x, (#[.int .i64 lc, .int .i64 yc, .int .i64 mc, .int .i64 dc, .int .i64 hc, .int .i64 ic, .int .i64 sc, .int .i64 pc, .int .i64 gc, .bool zc, .int .i64 oc] : Array Value)[j]? = some x → w1.cell? ⟨w.heap.size + 2, j, none⟩ = some x)) := fun w1 hb => three_cells hw0 hb
  clear hP hM
  have HB0 : Hid (Below w0.heap.size w0 w0) := Below.refl _ _
  have q0 := (HC.out w0 HB0.out).1 0 _ rfl
  have q1 := (HC.out w0 HB0.out).1 1 _ rfl
  have q2 := (HC.out w0 HB0.out).1 2 _ rfl
  have q3 := (HC.out w0 HB0.out).1 3 _ rfl
  have q4 := (HC.out w0 HB0.out).1 4 _ rfl
  have q5 := (HC.out w0 HB0.out).1 5 _ rfl
  have q6 := (HC.out w0 HB0.out).1 6 _ rfl
  have q7 := (HC.out w0 HB0.out).1 7 _ rfl
  have q8 := (HC.out w0 HB0.out).1 8 _ rfl
  have q9 := (HC.out w0 HB0.out).1 9 _ rfl
  have q10 := (HC.out w0 HB0.out).1 10 _ rfl
  have r0 := (HC.out w0 HB0.out).2.1 0 _ rfl
  have r1 := (HC.out w0 HB0.out).2.1 1 _ rfl
  have r2 := (HC.out w0 HB0.out).2.1 2 _ rfl
  have r3 := (HC.out w0 HB0.out).2.1 3 _ rfl
  have r4 := (HC.out w0 HB0.out).2.1 4 _ rfl
  have r5 := (HC.out w0 HB0.out).2.1 5 _ rfl
  have r6 := (HC.out w0 HB0.out).2.1 6 _ rfl
  have r7 := (HC.out w0 HB0.out).2.1 7 _ rfl
  have r8 := (HC.out w0 HB0.out).2.1 8 _ rfl
  have r9 := (HC.out w0 HB0.out).2.1 9 _ rfl
  have r10 := (HC.out w0 HB0.out).2.1 10 _ rfl
  have u0 := (HC.out w0 HB0.out).2.2 0 _ rfl
  have u1 := (HC.out w0 HB0.out).2.2 1 _ rfl
  have u2 := (HC.out w0 HB0.out).2.2 2 _ rfl
  have u3 := (HC.out w0 HB0.out).2.2 3 _ rfl
  have u4 := (HC.out w0 HB0.out).2.2 4 _ rfl
  have u5 := (HC.out w0 HB0.out).2.2 5 _ rfl
  have u6 := (HC.out w0 HB0.out).2.2 6 _ rfl
  have u7 := (HC.out w0 HB0.out).2.2 7 _ rfl
  have u8 := (HC.out w0 HB0.out).2.2 8 _ rfl
  have u9 := (HC.out w0 HB0.out).2.2 9 _ rfl
  have u10 := (HC.out w0 HB0.out).2.2 10 _ rfl
  go_enter Tryd.func7, Tryd.ntmps7
  go_wp2_with fail
  refine (lright_is HRA.out _ (months_below H0.out.2.2 HB0.out) (H0.out.2.1.below HB0.out)).mono ?_
  rintro e w1 ⟨he, hb⟩
  subst he
  have HB1 : Hid (Below w0.heap.size w0 w1) := below_then HB0.out hb
  clear hb HB0
  clear q0 q1 q2 q3 q4 q5 q6 q7 q8 q9 q10 r0 r1 r2 r3 r4 r5 r6 r7 r8 r9 r10 u0 u1 u2 u3 u4 u5 u6 u7 u8 u9 u10
  have q0 := (HC.out w1 HB1.out).1 0 _ rfl
  have q1 := (HC.out w1 HB1.out).1 1 _ rfl
  have q2 := (HC.out w1 HB1.out).1 2 _ rfl
  have q3 := (HC.out w1 HB1.out).1 3 _ rfl
  have q4 := (HC.out w1 HB1.out).1 4 _ rfl
  have q5 := (HC.out w1 HB1.out).1 5 _ rfl
  have q6 := (HC.out w1 HB1.out).1 6 _ rfl
  have q7 := (HC.out w1 HB1.out).1 7 _ rfl
  have q8 := (HC.out w1 HB1.out).1 8 _ rfl
  have q9 := (HC.out w1 HB1.out).1 9 _ rfl
  have q10 := (HC.out w1 HB1.out).1 10 _ rfl
  have r0 := (HC.out w1 HB1.out).2.1 0 _ rfl
  have r1 := (HC.out w1 HB1.out).2.1 1 _ rfl
  have r2 := (HC.out w1 HB1.out).2.1 2 _ rfl
  have r3 := (HC.out w1 HB1.out).2.1 3 _ rfl
  have r4 := (HC.out w1 HB1.out).2.1 4 _ rfl
  have r5 := (HC.out w1 HB1.out).2.1 5 _ rfl
  have r6 := (HC.out w1 HB1.out).2.1 6 _ rfl
  have r7 := (HC.out w1 HB1.out).2.1 7 _ rfl
  have r8 := (HC.out w1 HB1.out).2.1 8 _ rfl
  have r9 := (HC.out w1 HB1.out).2.1 9 _ rfl
  have r10 := (HC.out w1 HB1.out).2.1 10 _ rfl
  have u0 := (HC.out w1 HB1.out).2.2 0 _ rfl
  have u1 := (HC.out w1 HB1.out).2.2 1 _ rfl
  have u2 := (HC.out w1 HB1.out).2.2 2 _ rfl
  have u3 := (HC.out w1 HB1.out).2.2 3 _ rfl
  have u4 := (HC.out w1 HB1.out).2.2 4 _ rfl
  have u5 := (HC.out w1 HB1.out).2.2 5 _ rfl
  have u6 := (HC.out w1 HB1.out).2.2 6 _ rfl
  have u7 := (HC.out w1 HB1.out).2.2 7 _ rfl
  have u8 := (HC.out w1 HB1.out).2.2 8 _ rfl
  have u9 := (HC.out w1 HB1.out).2.2 9 _ rfl
  have u10 := (HC.out w1 HB1.out).2.2 10 _ rfl
  go_wp2_with fail
  refine (lright_is HRB.out _ (months_below H0.out.2.2 HB1.out) (H0.out.2.1.below HB1.out)).mono ?_
  rintro e w2 ⟨he, hb⟩
  subst he
  have HB2 : Hid (Below w0.heap.size w0 w2) := below_then HB1.out hb
  clear hb HB1
  clear q0 q1 q2 q3 q4 q5 q6 q7 q8 q9 q10 r0 r1 r2 r3 r4 r5 r6 r7 r8 r9 r10 u0 u1 u2 u3 u4 u5 u6 u7 u8 u9 u10
  have q0 := (HC.out w2 HB2.out).1 0 _ rfl
  have q1 := (HC.out w2 HB2.out).1 1 _ rfl
  have q2 := (HC.out w2 HB2.out).1 2 _ rfl
  have q3 := (HC.out w2 HB2.out).1 3 _ rfl
  have q4 := (HC.out w2 HB2.out).1 4 _ rfl
  have q5 := (HC.out w2 HB2.out).1 5 _ rfl
  have q6 := (HC.out w2 HB2.out).1 6 _ rfl
  have q7 := (HC.out w2 HB2.out).1 7 _ rfl
  have q8 := (HC.out w2 HB2.out).1 8 _ rfl
  have q9 := (HC.out w2 HB2.out).1 9 _ rfl
  have q10 := (HC.out w2 HB2.out).1 10 _ rfl
  have r0 := (HC.out w2 HB2.out).2.1 0 _ rfl
  have r1 := (HC.out w2 HB2.out).2.1 1 _ rfl
  have r2 := (HC.out w2 HB2.out).2.1 2 _ rfl
  have r3 := (HC.out w2 HB2.out).2.1 3 _ rfl
  have r4 := (HC.out w2 HB2.out).2.1 4 _ rfl
  have r5 := (HC.out w2 HB2.out).2.1 5 _ rfl
  have r6 := (HC.out w2 HB2.out).2.1 6 _ rfl
  have r7 := (HC.out w2 HB2.out).2.1 7 _ rfl
  have r8 := (HC.out w2 HB2.out).2.1 8 _ rfl
  have r9 := (HC.out w2 HB2.out).2.1 9 _ rfl
  have r10 := (HC.out w2 HB2.out).2.1 10 _ rfl
  have u0 := (HC.out w2 HB2.out).2.2 0 _ rfl
  have u1 := (HC.out w2 HB2.out).2.2 1 _ rfl
  have u2 := (HC.out w2 HB2.out).2.2 2 _ rfl
  have u3 := (HC.out w2 HB2.out).2.2 3 _ rfl
  have u4 := (HC.out w2 HB2.out).2.2 4 _ rfl
  have u5 := (HC.out w2 HB2.out).2.2 5 _ rfl
  have u6 := (HC.out w2 HB2.out).2.2 6 _ rfl
  have u7 := (HC.out w2 HB2.out).2.2 7 _ rfl
  have u8 := (HC.out w2 HB2.out).2.2 8 _ rfl
  have u9 := (HC.out w2 HB2.out).2.2 9 _ rfl
  have u10 := (HC.out w2 HB2.out).2.2 10 _ rfl
  go_wp2_with fail
  refine (anchor_any _ (months_below H0.out.2.2 HB2.out) (H0.out.2.1.below HB2.out)).mono ?_
  rintro e wa ⟨rfl, hb⟩
  have HBa : Hid (Below w.heap.size w wa) := H0.out.1.trans ((below_then HB2.out hb).mono H0.out.1.size)
  clear hb
  go_wp2_with fail
  go_ret
  exact ⟨rfl, HBa.out⟩
set_option maxRecDepth 100000 in
set_option maxHeartbeats 2000000 in
theorem order_no3 (la ya ma da ha ia sa pa ga oa lb yb mb db hb ib sb pb gb ob lc yc mc dc hc ic sc pc gc oc : Int) (za zb zc : Bool) (w : World) (h0 : rightB la ya ma da ha ia sa pa ga oa za = true) (h1 : rightB lb yb mb db hb ib sb pb gb ob zb = true) (h2 : rightB lc yc mc dc hc ic sc pc gc oc zc = false) (hP : Pow w) (hM : Months w) : Calls Tryd.prog 7 #[.agg #[.int .i64 la, .int .i64 ya, .int .i64 ma, .int .i64 da, .int .i64 ha, .int .i64 ia, .int .i64 sa, .int .i64 pa, .int .i64 ga, .bool za, .int .i64 oa], .agg #[.int .i64 lb, .int .i64 yb, .int .i64 mb, .int .i64 db, .int .i64 hb, .int .i64 ib, .int .i64 sb, .int .i64 pb, .int .i64 gb, .bool zb, .int .i64 ob], .agg #[.int .i64 lc, .int .i64 yc, .int .i64 mc, .int .i64 dc, .int .i64 hc, .int .i64 ic, .int .i64 sc, .int .i64 pc, .int .i64 gc, .bool zc, .int .i64 oc]] w fun e w' => e = .returned (.bool true) ∧ Below w.heap.size w w' := by
  have HRA : Hid (rightB la ya ma da ha ia sa pa ga oa za = true) := h0
  clear h0
  have HRB : Hid (rightB lb yb mb db hb ib sb pb gb ob zb = true) := h1
  clear h1
  have HRC : Hid (rightB lc yc mc dc hc ic sc pc gc oc zc = false) := h2
  clear h2
  obtain ⟨w0, hw0⟩ : ∃ w0, ((w.alloc (.cells #[.int .i64 la, .int .i64 ya, .int .i64 ma, .int .i64 da, .int .i64 ha, .int .i64 ia, .int .i64 sa, .int .i64 pa, .int .i64 ga, .bool za, .int .i64 oa] 23)).alloc (.cells #[.int .i64 lb, .int .i64 yb, .int .i64 mb, .int .i64 db, .int .i64 hb, .int .i64 ib, .int .i64 sb, .int .i64 pb, .int .i64 gb, .bool zb, .int .i64 ob] 23)).alloc (.cells #[.int .i64 lc, .int .i64 yc, .int .i64 mc, .int .i64 dc, .int .i64 hc, .int .i64 ic, .int .i64 sc, .int .i64 pc, .int .i64 gc, .bool zc, .int .i64 oc] 23) = w0 := ⟨_, rfl⟩
  have H0 : Hid (Below w.heap.size w w0 ∧ Pow w0 ∧ Months w0) := by
    have hb : Below w.heap.size w w0 := by rw [← hw0]; exact (((Below.refl _ _).alloc (Nat.le_refl _) _).alloc (by simp) _).alloc (by simp; omega) _
    exact ⟨hb, hP.below hb, months_below hM hb⟩
  have HC : Hid (∀ w1, Below w0.heap.size w0 w1 → (∀ j x, (#[.int .i64 la, .int .i64 ya, .int .i64 ma, .int .i64 da, .int .i64 ha, .int .i64 ia, .int .i64 sa, .int .i64 pa, .int .i64 ga, .bool za, .int .i64 oa] : Array Value)[j]? = some x → w1.cell? ⟨w.heap.size, j, none⟩ = some x) ∧ (∀ j x, (#[.int .i64 lb, .int .i64 yb, .int .i64 mb, .int .i64 db, .int .i64 hb, .int .i64 ib, .int .i64 sb, .int .i64 pb, .int .i64 gb, .bool zb, .int .i64 ob] : Array Value)[j]? = some x → w1.cell? ⟨w.heap.size + 1, j, none⟩ = some x) ∧ (∀ j x, (#[.int .i64 lc, .int .i64 yc, .int .i64 mc, .int .i64 dc, .int .i64 hc, .int .i64 ic, .int .i64 sc, .int .i64 pc, .int .i64 gc, .bool zc, .int .i64 oc] : Array Value)[j]? = some x → w1.cell? ⟨w.heap.size + 2, j, none⟩ = some x)) := fun w1 hb => three_cells hw0 hb
  clear hP hM
  have HB0 : Hid (Below w0.heap.size w0 w0) := Below.refl _ _
  have q0 := (HC.out w0 HB0.out).1 0 _ rfl
  have q1 := (HC.out w0 HB0.out).1 1 _ rfl
  have q2 := (HC.out w0 HB0.out).1 2 _ rfl
  have q3 := (HC.out w0 HB0.out).1 3 _ rfl
  have q4 := (HC.out w0 HB0.out).1 4 _ rfl
  have q5 := (HC.out w0 HB0.out).1 5 _ rfl
  have q6 := (HC.out w0 HB0.out).1 6 _ rfl
  have q7 := (HC.out w0 HB0.out).1 7 _ rfl
  have q8 := (HC.out w0 HB0.out).1 8 _ rfl
  have q9 := (HC.out w0 HB0.out).1 9 _ rfl
  have q10 := (HC.out w0 HB0.out).1 10 _ rfl
  have r0 := (HC.out w0 HB0.out).2.1 0 _ rfl
  have r1 := (HC.out w0 HB0.out).2.1 1 _ rfl
  have r2 := (HC.out w0 HB0.out).2.1 2 _ rfl
  have r3 := (HC.out w0 HB0.out).2.1 3 _ rfl
  have r4 := (HC.out w0 HB0.out).2.1 4 _ rfl
  have r5 := (HC.out w0 HB0.out).2.1 5 _ rfl
  have r6 := (HC.out w0 HB0.out).2.1 6 _ rfl
  have r7 := (HC.out w0 HB0.out).2.1 7 _ rfl
  have r8 := (HC.out w0 HB0.out).2.1 8 _ rfl
  have r9 := (HC.out w0 HB0.out).2.1 9 _ rfl
  have r10 := (HC.out w0 HB0.out).2.1 10 _ rfl
  have u0 := (HC.out w0 HB0.out).2.2 0 _ rfl
  have u1 := (HC.out w0 HB0.out).2.2 1 _ rfl
  have u2 := (HC.out w0 HB0.out).2.2 2 _ rfl
  have u3 := (HC.out w0 HB0.out).2.2 3 _ rfl
  have u4 := (HC.out w0 HB0.out).2.2 4 _ rfl
  have u5 := (HC.out w0 HB0.out).2.2 5 _ rfl
  have u6 := (HC.out w0 HB0.out).2.2 6 _ rfl
  have u7 := (HC.out w0 HB0.out).2.2 7 _ rfl
  have u8 := (HC.out w0 HB0.out).2.2 8 _ rfl
  have u9 := (HC.out w0 HB0.out).2.2 9 _ rfl
  have u10 := (HC.out w0 HB0.out).2.2 10 _ rfl
  go_enter Tryd.func7, Tryd.ntmps7
  go_wp2_with fail
  refine (lright_is HRA.out _ (months_below H0.out.2.2 HB0.out) (H0.out.2.1.below HB0.out)).mono ?_
  rintro e w1 ⟨he, hb⟩
  subst he
  have HB1 : Hid (Below w0.heap.size w0 w1) := below_then HB0.out hb
  clear hb HB0
  clear q0 q1 q2 q3 q4 q5 q6 q7 q8 q9 q10 r0 r1 r2 r3 r4 r5 r6 r7 r8 r9 r10 u0 u1 u2 u3 u4 u5 u6 u7 u8 u9 u10
  have q0 := (HC.out w1 HB1.out).1 0 _ rfl
  have q1 := (HC.out w1 HB1.out).1 1 _ rfl
  have q2 := (HC.out w1 HB1.out).1 2 _ rfl
  have q3 := (HC.out w1 HB1.out).1 3 _ rfl
  have q4 := (HC.out w1 HB1.out).1 4 _ rfl
  have q5 := (HC.out w1 HB1.out).1 5 _ rfl
  have q6 := (HC.out w1 HB1.out).1 6 _ rfl
  have q7 := (HC.out w1 HB1.out).1 7 _ rfl
  have q8 := (HC.out w1 HB1.out).1 8 _ rfl
  have q9 := (HC.out w1 HB1.out).1 9 _ rfl
  have q10 := (HC.out w1 HB1.out).1 10 _ rfl
  have r0 := (HC.out w1 HB1.out).2.1 0 _ rfl
  have r1 := (HC.out w1 HB1.out).2.1 1 _ rfl
  have r2 := (HC.out w1 HB1.out).2.1 2 _ rfl
  have r3 := (HC.out w1 HB1.out).2.1 3 _ rfl
  have r4 := (HC.out w1 HB1.out).2.1 4 _ rfl
  have r5 := (HC.out w1 HB1.out).2.1 5 _ rfl
  have r6 := (HC.out w1 HB1.out).2.1 6 _ rfl
  have r7 := (HC.out w1 HB1.out).2.1 7 _ rfl
  have r8 := (HC.out w1 HB1.out).2.1 8 _ rfl
  have r9 := (HC.out w1 HB1.out).2.1 9 _ rfl
  have r10 := (HC.out w1 HB1.out).2.1 10 _ rfl
  have u0 := (HC.out w1 HB1.out).2.2 0 _ rfl
  have u1 := (HC.out w1 HB1.out).2.2 1 _ rfl
  have u2 := (HC.out w1 HB1.out).2.2 2 _ rfl
  have u3 := (HC.out w1 HB1.out).2.2 3 _ rfl
  have u4 := (HC.out w1 HB1.out).2.2 4 _ rfl
  have u5 := (HC.out w1 HB1.out).2.2 5 _ rfl
  have u6 := (HC.out w1 HB1.out).2.2 6 _ rfl
  have u7 := (HC.out w1 HB1.out).2.2 7 _ rfl
  have u8 := (HC.out w1 HB1.out).2.2 8 _ rfl
  have u9 := (HC.out w1 HB1.out).2.2 9 _ rfl
  have u10 := (HC.out w1 HB1.out).2.2 10 _ rfl
  go_wp2_with fail
  refine (lright_is HRB.out _ (months_below H0.out.2.2 HB1.out) (H0.out.2.1.below HB1.out)).mono ?_
  rintro e w2 ⟨he, hb⟩
  subst he
  have HB2 : Hid (Below w0.heap.size w0 w2) := below_then HB1.out hb
  clear hb HB1
  clear q0 q1 q2 q3 q4 q5 q6 q7 q8 q9 q10 r0 r1 r2 r3 r4 r5 r6 r7 r8 r9 r10 u0 u1 u2 u3 u4 u5 u6 u7 u8 u9 u10
  have q0 := (HC.out w2 HB2.out).1 0 _ rfl
  have q1 := (HC.out w2 HB2.out).1 1 _ rfl
  have q2 := (HC.out w2 HB2.out).1 2 _ rfl
  have q3 := (HC.out w2 HB2.out).1 3 _ rfl
  have q4 := (HC.out w2 HB2.out).1 4 _ rfl
  have q5 := (HC.out w2 HB2.out).1 5 _ rfl
  have q6 := (HC.out w2 HB2.out).1 6 _ rfl
  have q7 := (HC.out w2 HB2.out).1 7 _ rfl
  have q8 := (HC.out w2 HB2.out).1 8 _ rfl
  have q9 := (HC.out w2 HB2.out).1 9 _ rfl
  have q10 := (HC.out w2 HB2.out).1 10 _ rfl
  have r0 := (HC.out w2 HB2.out).2.1 0 _ rfl
  have r1 := (HC.out w2 HB2.out).2.1 1 _ rfl
  have r2 := (HC.out w2 HB2.out).2.1 2 _ rfl
  have r3 := (HC.out w2 HB2.out).2.1 3 _ rfl
  have r4 := (HC.out w2 HB2.out).2.1 4 _ rfl
  have r5 := (HC.out w2 HB2.out).2.1 5 _ rfl
  have r6 := (HC.out w2 HB2.out).2.1 6 _ rfl
  have r7 := (HC.out w2 HB2.out).2.1 7 _ rfl
  have r8 := (HC.out w2 HB2.out).2.1 8 _ rfl
  have r9 := (HC.out w2 HB2.out).2.1 9 _ rfl
  have r10 := (HC.out w2 HB2.out).2.1 10 _ rfl
  have u0 := (HC.out w2 HB2.out).2.2 0 _ rfl
  have u1 := (HC.out w2 HB2.out).2.2 1 _ rfl
  have u2 := (HC.out w2 HB2.out).2.2 2 _ rfl
  have u3 := (HC.out w2 HB2.out).2.2 3 _ rfl
  have u4 := (HC.out w2 HB2.out).2.2 4 _ rfl
  have u5 := (HC.out w2 HB2.out).2.2 5 _ rfl
  have u6 := (HC.out w2 HB2.out).2.2 6 _ rfl
  have u7 := (HC.out w2 HB2.out).2.2 7 _ rfl
  have u8 := (HC.out w2 HB2.out).2.2 8 _ rfl
  have u9 := (HC.out w2 HB2.out).2.2 9 _ rfl
  have u10 := (HC.out w2 HB2.out).2.2 10 _ rfl
  go_wp2_with fail
  refine (lright_is HRC.out _ (months_below H0.out.2.2 HB2.out) (H0.out.2.1.below HB2.out)).mono ?_
  rintro e w3 ⟨he, hb⟩
  subst he
  have HB3 : Hid (Below w0.heap.size w0 w3) := below_then HB2.out hb
  clear hb HB2
  clear q0 q1 q2 q3 q4 q5 q6 q7 q8 q9 q10 r0 r1 r2 r3 r4 r5 r6 r7 r8 r9 r10 u0 u1 u2 u3 u4 u5 u6 u7 u8 u9 u10
  have q0 := (HC.out w3 HB3.out).1 0 _ rfl
  have q1 := (HC.out w3 HB3.out).1 1 _ rfl
  have q2 := (HC.out w3 HB3.out).1 2 _ rfl
  have q3 := (HC.out w3 HB3.out).1 3 _ rfl
  have q4 := (HC.out w3 HB3.out).1 4 _ rfl
  have q5 := (HC.out w3 HB3.out).1 5 _ rfl
  have q6 := (HC.out w3 HB3.out).1 6 _ rfl
  have q7 := (HC.out w3 HB3.out).1 7 _ rfl
  have q8 := (HC.out w3 HB3.out).1 8 _ rfl
  have q9 := (HC.out w3 HB3.out).1 9 _ rfl
  have q10 := (HC.out w3 HB3.out).1 10 _ rfl
  have r0 := (HC.out w3 HB3.out).2.1 0 _ rfl
  have r1 := (HC.out w3 HB3.out).2.1 1 _ rfl
  have r2 := (HC.out w3 HB3.out).2.1 2 _ rfl
  have r3 := (HC.out w3 HB3.out).2.1 3 _ rfl
  have r4 := (HC.out w3 HB3.out).2.1 4 _ rfl
  have r5 := (HC.out w3 HB3.out).2.1 5 _ rfl
  have r6 := (HC.out w3 HB3.out).2.1 6 _ rfl
  have r7 := (HC.out w3 HB3.out).2.1 7 _ rfl
  have r8 := (HC.out w3 HB3.out).2.1 8 _ rfl
  have r9 := (HC.out w3 HB3.out).2.1 9 _ rfl
  have r10 := (HC.out w3 HB3.out).2.1 10 _ rfl
  have u0 := (HC.out w3 HB3.out).2.2 0 _ rfl
  have u1 := (HC.out w3 HB3.out).2.2 1 _ rfl
  have u2 := (HC.out w3 HB3.out).2.2 2 _ rfl
  have u3 := (HC.out w3 HB3.out).2.2 3 _ rfl
  have u4 := (HC.out w3 HB3.out).2.2 4 _ rfl
  have u5 := (HC.out w3 HB3.out).2.2 5 _ rfl
  have u6 := (HC.out w3 HB3.out).2.2 6 _ rfl
  have u7 := (HC.out w3 HB3.out).2.2 7 _ rfl
  have u8 := (HC.out w3 HB3.out).2.2 8 _ rfl
  have u9 := (HC.out w3 HB3.out).2.2 9 _ rfl
  have u10 := (HC.out w3 HB3.out).2.2 10 _ rfl
  go_wp2_with fail
  refine (anchor_any _ (months_below H0.out.2.2 HB3.out) (H0.out.2.1.below HB3.out)).mono ?_
  rintro e wa ⟨rfl, hb⟩
  have HBa : Hid (Below w.heap.size w wa) := H0.out.1.trans ((below_then HB3.out hb).mono H0.out.1.size)
  clear hb
  go_wp2_with fail
  go_ret
  exact ⟨rfl, HBa.out⟩
end Go.Proofs.YtpcdkafjogpdkaaDoor
