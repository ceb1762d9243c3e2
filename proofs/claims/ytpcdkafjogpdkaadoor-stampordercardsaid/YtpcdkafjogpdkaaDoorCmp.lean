/-
  Two Stamps: bothRight, Compare, Ticks, as the program has them.
-/
import Derived.Test.YtpcdkafjogpdkaaDoorInst4
namespace Go.Proofs.YtpcdkafjogpdkaaDoor
open Go.RowKit

def cmpI (x y : Int) : Int := if x < y then -1 else if y < x then 1 else 0
theorem cmp_lt {x y : Int} (h : x < y) : -1 = cmpI x y := by unfold cmpI; rw [if_pos h]
theorem cmp_gt {x y : Int} (h : y < x) : 1 = cmpI x y := by unfold cmpI; rw [if_neg (by omega), if_pos h]
theorem cmp_eq {x y : Int} (h : ¬ x < y) (h2 : ¬ y < x) : 0 = cmpI x y := by unfold cmpI; rw [if_neg h, if_neg h2]
set_option maxHeartbeats 400000 in
theorem cmp_any (x y : Int) (w : World) : Calls Tryd.prog 36 #[.int .i64 x, .int .i64 y] w fun e w' => e = .returned (.int .i64 (cmpI x y)) ∧ w' = w := by
  by_cases h : x < y
  · go_enter Tryd.func36, Tryd.ntmps36
    go_wp2
    go_ret
    exact ⟨ret_int (cmp_lt h), rfl⟩
  · by_cases h2 : y < x
    · go_enter Tryd.func36, Tryd.ntmps36
      go_wp2
      go_ret
      exact ⟨ret_int (cmp_gt h2), rfl⟩
    · go_enter Tryd.func36, Tryd.ntmps36
      go_wp2
      go_ret
      exact ⟨ret_int (cmp_eq (by omega) (by omega)), rfl⟩
theorem tdiv_neg {a : Int} (h : a < 0) : (a.tmod 10000 < 0 → a.tdiv 10000 - 1 = a / 10000) ∧ (¬ a.tmod 10000 < 0 → a.tdiv 10000 = a / 10000) ∧ a ≤ a.tdiv 10000 ∧ a.tdiv 10000 ≤ 0 := by
  obtain ⟨n, rfl⟩ : ∃ n : Int, a = -n := ⟨-a, by omega⟩
  rw [Int.neg_tdiv, Int.neg_tmod, Int.tdiv_eq_ediv_of_nonneg (by omega), Int.tmod_eq_emod_of_nonneg (by omega)]
  omega
set_option maxHeartbeats 400000 in
theorem floorDiv_any (a : Int) (w : World) (h1 : -9000000000000000 ≤ a) (h2 : a ≤ 9000000000000000) : Calls Tryd.prog 38 #[.int .i64 a, .int .i64 10000] w fun e w' => e = .returned (.int .i64 (a / 10000)) ∧ w' = w := by
  by_cases h : 0 ≤ a
  · go_enter Tryd.func38, Tryd.ntmps38
    go_wp2
    go_ret
    exact ⟨rfl, rfl⟩
  · have t := tdiv_neg (a := a) (by omega)
    have HT : Hid ((a.tmod 10000 < 0 → a.tdiv 10000 - 1 = a / 10000) ∧ (¬ a.tmod 10000 < 0 → a.tdiv 10000 = a / 10000)) := ⟨t.1, t.2.1⟩
    have t1 := t.2.2.1
    have t2 := t.2.2.2
    clear t
    by_cases g : a.tmod 10000 < 0
    · go_enter Tryd.func38, Tryd.ntmps38
      go_wp2
      go_ret
      exact ⟨ret_int (HT.out.1 g), rfl⟩
    · go_enter Tryd.func38, Tryd.ntmps38
      go_wp2
      go_ret
      exact ⟨ret_int (HT.out.2 g), rfl⟩

theorem floorDiv_w (a : Int) (w : World) (h1 : -9000000000000000 ≤ a) (h2 : a ≤ 9000000000000000) : Calls Tryd.prog 38 #[.int .i64 (IntKind.i64.wrap a), .int .i64 10000] w fun e w' => e = .returned (.int .i64 (a / 10000)) ∧ w' = w := by
  have e : IntKind.i64.wrap a = a := by rw [IntKind.wrap_i64]; omega
  rw [e]; exact floorDiv_any a w h1 h2
theorem below_two {w W : World} {a b : Obj} (h : Below ((w.alloc a).alloc b).heap.size ((w.alloc a).alloc b) W) : Below w.heap.size w W := below_step (below_box w a) h
theorem right_rel {la ya ma da ha ia sa pa ga oa : Int} {za : Bool} {b : Bool} (hr : rightB la ya ma da ha ia sa pa ga oa za = b) {W0 W : World} (hM : Months W0) (hb : Below W0.heap.size W0 W) :
    Calls Tryd.prog 21 #[.agg #[.int .i64 la, .int .i64 ya, .int .i64 ma, .int .i64 da, .int .i64 ha, .int .i64 ia, .int .i64 sa, .int .i64 pa, .int .i64 ga, .bool za, .int .i64 oa]] W fun e w' => e = .returned (.bool b) ∧ Below W0.heap.size W0 w' := (right_is hr W (months_below hM hb)).mono fun _ _ ⟨he, h⟩ => ⟨he, below_then hb h⟩
theorem instant_rel {la ya ma da ha ia sa pa ga oa : Int} {za : Bool} (F : Facts la ya ma da ha ia sa pa ga oa za) {W0 W : World} (hM : Months W0) (hb : Below W0.heap.size W0 W) :
    Calls Tryd.prog 33 #[.agg #[.int .i64 la, .int .i64 ya, .int .i64 ma, .int .i64 da, .int .i64 ha, .int .i64 ia, .int .i64 sa, .int .i64 pa, .int .i64 ga, .bool za, .int .i64 oa]] W fun e w' => e = .returned (.int .i64 (instI la ya ma da ha ia sa pa ga oa)) ∧ Below W0.heap.size W0 w' := (instant_any F W (months_below hM hb)).mono fun _ _ ⟨he, h⟩ => ⟨he, below_then hb h⟩

set_option maxHeartbeats 1000000 in
theorem both_ok {la ya ma da ha ia sa pa ga oa : Int} {za : Bool} {lb yb mb db hb ib sb pb gb ob : Int} {zb : Bool} (hra : rightB la ya ma da ha ia sa pa ga oa za = true) (hrb : rightB lb yb mb db hb ib sb pb gb ob zb = true) (w : World) (hM : Months w) :
    Calls Tryd.prog 35 #[.agg #[.int .i64 la, .int .i64 ya, .int .i64 ma, .int .i64 da, .int .i64 ha, .int .i64 ia, .int .i64 sa, .int .i64 pa, .int .i64 ga, .bool za, .int .i64 oa], .agg #[.int .i64 lb, .int .i64 yb, .int .i64 mb, .int .i64 db, .int .i64 hb, .int .i64 ib, .int .i64 sb, .int .i64 pb, .int .i64 gb, .bool zb, .int .i64 ob]] w fun e w' => e = .returned .nilIface ∧ Below w.heap.size w w' := by
  have HM : Hid (Months ((w.alloc (.cells #[.int .i64 la, .int .i64 ya, .int .i64 ma, .int .i64 da, .int .i64 ha, .int .i64 ia, .int .i64 sa, .int .i64 pa, .int .i64 ga, .bool za, .int .i64 oa] 23)).alloc (.cells #[.int .i64 lb, .int .i64 yb, .int .i64 mb, .int .i64 db, .int .i64 hb, .int .i64 ib, .int .i64 sb, .int .i64 pb, .int .i64 gb, .bool zb, .int .i64 ob] 23))) := months_alloc (months_alloc hM _) _
  clear hM
  have HA : Hid (rightB la ya ma da ha ia sa pa ga oa za = true) := hra
  clear hra
  have HR : Hid (rightB lb yb mb db hb ib sb pb gb ob zb = true) := hrb
  clear hrb
  go_enter Tryd.func35, Tryd.ntmps35
  go_wp2_with fail
  refine (right_rel HA.out HM.out (Below.refl _ _)).mono ?_
  rintro e w1 ⟨rfl, hb1⟩
  obtain ⟨hc, hf⟩ := bcell hb1
  have HB1 : Hid (Below ((w.alloc (.cells #[.int .i64 la, .int .i64 ya, .int .i64 ma, .int .i64 da, .int .i64 ha, .int .i64 ia, .int .i64 sa, .int .i64 pa, .int .i64 ga, .bool za, .int .i64 oa] 23)).alloc (.cells #[.int .i64 lb, .int .i64 yb, .int .i64 mb, .int .i64 db, .int .i64 hb, .int .i64 ib, .int .i64 sb, .int .i64 pb, .int .i64 gb, .bool zb, .int .i64 ob] 23)).heap.size ((w.alloc (.cells #[.int .i64 la, .int .i64 ya, .int .i64 ma, .int .i64 da, .int .i64 ha, .int .i64 ia, .int .i64 sa, .int .i64 pa, .int .i64 ga, .bool za, .int .i64 oa] 23)).alloc (.cells #[.int .i64 lb, .int .i64 yb, .int .i64 mb, .int .i64 db, .int .i64 hb, .int .i64 ib, .int .i64 sb, .int .i64 pb, .int .i64 gb, .bool zb, .int .i64 ob] 23)) w1) := hb1
  clear hb1
  go_wp2_with fail
  refine (right_rel HR.out HM.out HB1.out).mono ?_
  rintro e w2 ⟨rfl, hb2⟩
  have HB2 : Hid (Below ((w.alloc (.cells #[.int .i64 la, .int .i64 ya, .int .i64 ma, .int .i64 da, .int .i64 ha, .int .i64 ia, .int .i64 sa, .int .i64 pa, .int .i64 ga, .bool za, .int .i64 oa] 23)).alloc (.cells #[.int .i64 lb, .int .i64 yb, .int .i64 mb, .int .i64 db, .int .i64 hb, .int .i64 ib, .int .i64 sb, .int .i64 pb, .int .i64 gb, .bool zb, .int .i64 ob] 23)).heap.size ((w.alloc (.cells #[.int .i64 la, .int .i64 ya, .int .i64 ma, .int .i64 da, .int .i64 ha, .int .i64 ia, .int .i64 sa, .int .i64 pa, .int .i64 ga, .bool za, .int .i64 oa] 23)).alloc (.cells #[.int .i64 lb, .int .i64 yb, .int .i64 mb, .int .i64 db, .int .i64 hb, .int .i64 ib, .int .i64 sb, .int .i64 pb, .int .i64 gb, .bool zb, .int .i64 ob] 23)) w2) := hb2
  clear hb2 hc hf
  go_wp2_with fail
  go_ret
  exact ⟨rfl, below_two HB2.out⟩

set_option maxHeartbeats 1000000 in
theorem both_0 {la ya ma da ha ia sa pa ga oa : Int} {za : Bool} {lb yb mb db hb ib sb pb gb ob : Int} {zb : Bool} (hra : rightB la ya ma da ha ia sa pa ga oa za = false) (w : World) (hM : Months w) :
    Calls Tryd.prog 35 #[.agg #[.int .i64 la, .int .i64 ya, .int .i64 ma, .int .i64 da, .int .i64 ha, .int .i64 ia, .int .i64 sa, .int .i64 pa, .int .i64 ga, .bool za, .int .i64 oa], .agg #[.int .i64 lb, .int .i64 yb, .int .i64 mb, .int .i64 db, .int .i64 hb, .int .i64 ib, .int .i64 sb, .int .i64 pb, .int .i64 gb, .bool zb, .int .i64 ob]] w fun e w' => (∃ b, e = .returned (.iface 52 (.pointer (some ⟨b, 0, none⟩))) ∧ FaultAt w' b 0 20) ∧ Below w.heap.size w w' := by
  have HM : Hid (Months ((w.alloc (.cells #[.int .i64 la, .int .i64 ya, .int .i64 ma, .int .i64 da, .int .i64 ha, .int .i64 ia, .int .i64 sa, .int .i64 pa, .int .i64 ga, .bool za, .int .i64 oa] 23)).alloc (.cells #[.int .i64 lb, .int .i64 yb, .int .i64 mb, .int .i64 db, .int .i64 hb, .int .i64 ib, .int .i64 sb, .int .i64 pb, .int .i64 gb, .bool zb, .int .i64 ob] 23))) := months_alloc (months_alloc hM _) _
  clear hM
  have HA : Hid (rightB la ya ma da ha ia sa pa ga oa za = false) := hra
  clear hra
  go_enter Tryd.func35, Tryd.ntmps35
  go_wp2_with fail
  refine (right_rel HA.out HM.out (Below.refl _ _)).mono ?_
  rintro e w1 ⟨rfl, hb1⟩
  obtain ⟨hc, hf⟩ := bcell hb1
  have HB1 : Hid (Below ((w.alloc (.cells #[.int .i64 la, .int .i64 ya, .int .i64 ma, .int .i64 da, .int .i64 ha, .int .i64 ia, .int .i64 sa, .int .i64 pa, .int .i64 ga, .bool za, .int .i64 oa] 23)).alloc (.cells #[.int .i64 lb, .int .i64 yb, .int .i64 mb, .int .i64 db, .int .i64 hb, .int .i64 ib, .int .i64 sb, .int .i64 pb, .int .i64 gb, .bool zb, .int .i64 ob] 23)).heap.size ((w.alloc (.cells #[.int .i64 la, .int .i64 ya, .int .i64 ma, .int .i64 da, .int .i64 ha, .int .i64 ia, .int .i64 sa, .int .i64 pa, .int .i64 ga, .bool za, .int .i64 oa] 23)).alloc (.cells #[.int .i64 lb, .int .i64 yb, .int .i64 mb, .int .i64 db, .int .i64 hb, .int .i64 ib, .int .i64 sb, .int .i64 pb, .int .i64 gb, .bool zb, .int .i64 ob] 23)) w1) := hb1
  clear hb1
  go_wp2_with fail
  refine (fault_any _ _ _).mono ?_
  rintro e w3 ⟨rfl, rfl⟩
  go_wp2_with fail
  go_ret
  exact ⟨⟨_, rfl, fault_new _ _ _⟩, below_new (below_two HB1.out) _⟩

set_option maxHeartbeats 1000000 in
theorem both_1 {la ya ma da ha ia sa pa ga oa : Int} {za : Bool} {lb yb mb db hb ib sb pb gb ob : Int} {zb : Bool} (hra : rightB la ya ma da ha ia sa pa ga oa za = true) (hrb : rightB lb yb mb db hb ib sb pb gb ob zb = false) (w : World) (hM : Months w) :
    Calls Tryd.prog 35 #[.agg #[.int .i64 la, .int .i64 ya, .int .i64 ma, .int .i64 da, .int .i64 ha, .int .i64 ia, .int .i64 sa, .int .i64 pa, .int .i64 ga, .bool za, .int .i64 oa], .agg #[.int .i64 lb, .int .i64 yb, .int .i64 mb, .int .i64 db, .int .i64 hb, .int .i64 ib, .int .i64 sb, .int .i64 pb, .int .i64 gb, .bool zb, .int .i64 ob]] w fun e w' => (∃ b, e = .returned (.iface 52 (.pointer (some ⟨b, 0, none⟩))) ∧ FaultAt w' b 1 20) ∧ Below w.heap.size w w' := by
  have HM : Hid (Months ((w.alloc (.cells #[.int .i64 la, .int .i64 ya, .int .i64 ma, .int .i64 da, .int .i64 ha, .int .i64 ia, .int .i64 sa, .int .i64 pa, .int .i64 ga, .bool za, .int .i64 oa] 23)).alloc (.cells #[.int .i64 lb, .int .i64 yb, .int .i64 mb, .int .i64 db, .int .i64 hb, .int .i64 ib, .int .i64 sb, .int .i64 pb, .int .i64 gb, .bool zb, .int .i64 ob] 23))) := months_alloc (months_alloc hM _) _
  clear hM
  have HA : Hid (rightB la ya ma da ha ia sa pa ga oa za = true) := hra
  clear hra
  have HR : Hid (rightB lb yb mb db hb ib sb pb gb ob zb = false) := hrb
  clear hrb
  go_enter Tryd.func35, Tryd.ntmps35
  go_wp2_with fail
  refine (right_rel HA.out HM.out (Below.refl _ _)).mono ?_
  rintro e w1 ⟨rfl, hb1⟩
  obtain ⟨hc, hf⟩ := bcell hb1
  have HB1 : Hid (Below ((w.alloc (.cells #[.int .i64 la, .int .i64 ya, .int .i64 ma, .int .i64 da, .int .i64 ha, .int .i64 ia, .int .i64 sa, .int .i64 pa, .int .i64 ga, .bool za, .int .i64 oa] 23)).alloc (.cells #[.int .i64 lb, .int .i64 yb, .int .i64 mb, .int .i64 db, .int .i64 hb, .int .i64 ib, .int .i64 sb, .int .i64 pb, .int .i64 gb, .bool zb, .int .i64 ob] 23)).heap.size ((w.alloc (.cells #[.int .i64 la, .int .i64 ya, .int .i64 ma, .int .i64 da, .int .i64 ha, .int .i64 ia, .int .i64 sa, .int .i64 pa, .int .i64 ga, .bool za, .int .i64 oa] 23)).alloc (.cells #[.int .i64 lb, .int .i64 yb, .int .i64 mb, .int .i64 db, .int .i64 hb, .int .i64 ib, .int .i64 sb, .int .i64 pb, .int .i64 gb, .bool zb, .int .i64 ob] 23)) w1) := hb1
  clear hb1
  go_wp2_with fail
  refine (right_rel HR.out HM.out HB1.out).mono ?_
  rintro e w2 ⟨rfl, hb2⟩
  have HB2 : Hid (Below ((w.alloc (.cells #[.int .i64 la, .int .i64 ya, .int .i64 ma, .int .i64 da, .int .i64 ha, .int .i64 ia, .int .i64 sa, .int .i64 pa, .int .i64 ga, .bool za, .int .i64 oa] 23)).alloc (.cells #[.int .i64 lb, .int .i64 yb, .int .i64 mb, .int .i64 db, .int .i64 hb, .int .i64 ib, .int .i64 sb, .int .i64 pb, .int .i64 gb, .bool zb, .int .i64 ob] 23)).heap.size ((w.alloc (.cells #[.int .i64 la, .int .i64 ya, .int .i64 ma, .int .i64 da, .int .i64 ha, .int .i64 ia, .int .i64 sa, .int .i64 pa, .int .i64 ga, .bool za, .int .i64 oa] 23)).alloc (.cells #[.int .i64 lb, .int .i64 yb, .int .i64 mb, .int .i64 db, .int .i64 hb, .int .i64 ib, .int .i64 sb, .int .i64 pb, .int .i64 gb, .bool zb, .int .i64 ob] 23)) w2) := hb2
  clear hb2 hc hf
  go_wp2_with fail
  refine (fault_any _ _ _).mono ?_
  rintro e w3 ⟨rfl, rfl⟩
  go_wp2_with fail
  go_ret
  exact ⟨⟨_, rfl, fault_new _ _ _⟩, below_new (below_two HB2.out) _⟩

theorem both_ok_rel {la ya ma da ha ia sa pa ga oa : Int} {za : Bool} {lb yb mb db hb ib sb pb gb ob : Int} {zb : Bool} (hra : rightB la ya ma da ha ia sa pa ga oa za = true) (hrb : rightB lb yb mb db hb ib sb pb gb ob zb = true) {W0 W : World} (hM : Months W0) (hbl : Below W0.heap.size W0 W) :
    Calls Tryd.prog 35 #[.agg #[.int .i64 la, .int .i64 ya, .int .i64 ma, .int .i64 da, .int .i64 ha, .int .i64 ia, .int .i64 sa, .int .i64 pa, .int .i64 ga, .bool za, .int .i64 oa], .agg #[.int .i64 lb, .int .i64 yb, .int .i64 mb, .int .i64 db, .int .i64 hb, .int .i64 ib, .int .i64 sb, .int .i64 pb, .int .i64 gb, .bool zb, .int .i64 ob]] W fun e w' => e = .returned .nilIface ∧ Below W0.heap.size W0 w' := (both_ok hra hrb W (months_below hM hbl)).mono fun _ _ ⟨he, h⟩ => ⟨he, below_then hbl h⟩

set_option maxHeartbeats 1000000 in
theorem Compare_ok {la ya ma da ha ia sa pa ga oa : Int} {za : Bool} {lb yb mb db hb ib sb pb gb ob : Int} {zb : Bool} (hra : rightB la ya ma da ha ia sa pa ga oa za = true) (hrb : rightB lb yb mb db hb ib sb pb gb ob zb = true) (w : World) (hM : Months w) :
    Calls Tryd.prog 17 #[.agg #[.int .i64 la, .int .i64 ya, .int .i64 ma, .int .i64 da, .int .i64 ha, .int .i64 ia, .int .i64 sa, .int .i64 pa, .int .i64 ga, .bool za, .int .i64 oa], .agg #[.int .i64 lb, .int .i64 yb, .int .i64 mb, .int .i64 db, .int .i64 hb, .int .i64 ib, .int .i64 sb, .int .i64 pb, .int .i64 gb, .bool zb, .int .i64 ob]] w fun e w' => e = .returned (.tuple #[.int .i64 (cmpI (instI la ya ma da ha ia sa pa ga oa) (instI lb yb mb db hb ib sb pb gb ob)), .nilIface]) ∧ Below w.heap.size w w' := by
  have HM : Hid (Months ((w.alloc (.cells #[.int .i64 la, .int .i64 ya, .int .i64 ma, .int .i64 da, .int .i64 ha, .int .i64 ia, .int .i64 sa, .int .i64 pa, .int .i64 ga, .bool za, .int .i64 oa] 23)).alloc (.cells #[.int .i64 lb, .int .i64 yb, .int .i64 mb, .int .i64 db, .int .i64 hb, .int .i64 ib, .int .i64 sb, .int .i64 pb, .int .i64 gb, .bool zb, .int .i64 ob] 23))) := months_alloc (months_alloc hM _) _
  clear hM
  have HA : Hid (rightB la ya ma da ha ia sa pa ga oa za = true) := hra
  have HR : Hid (rightB lb yb mb db hb ib sb pb gb ob zb = true) := hrb
  have fa : Facts la ya ma da ha ia sa pa ga oa za := facts_of hra
  have fb : Facts lb yb mb db hb ib sb pb gb ob zb := facts_of hrb
  have ba := inst_bd fa
  have bb := inst_bd fb
  clear hra hrb
  go_enter Tryd.func17, Tryd.ntmps17
  go_wp2_with fail
  refine (both_ok_rel HA.out HR.out HM.out (Below.refl _ _)).mono ?_
  rintro e w1 ⟨rfl, hb1⟩
  obtain ⟨hc, hf⟩ := bcell hb1
  go_wp2_with fail
  go_region_with (first | (go_at_call 33; refine (instant_rel (by assumption) HM.out ?_).mono ?_; (first | exact Below.refl _ _ | assumption | exact Below.drew (Below.refl _ _) | exact Below.drew (by assumption)); rintro e wx ⟨rfl, hbx⟩; obtain ⟨hcx, hfx⟩ := bcell hbx) | (go_at_call 36; refine (cmp_any _ _ _).mono ?_; rintro e w' ⟨rfl, rfl⟩))
  all_goals
    go_wp2_with fail
    go_ret2
    refine ⟨rfl, below_two (a := (.cells #[.int .i64 la, .int .i64 ya, .int .i64 ma, .int .i64 da, .int .i64 ha, .int .i64 ia, .int .i64 sa, .int .i64 pa, .int .i64 ga, .bool za, .int .i64 oa] 23)) (b := (.cells #[.int .i64 lb, .int .i64 yb, .int .i64 mb, .int .i64 db, .int .i64 hb, .int .i64 ib, .int .i64 sb, .int .i64 pb, .int .i64 gb, .bool zb, .int .i64 ob] 23)) ?_⟩
    (first | exact Below.refl _ _ | assumption | exact Below.drew (Below.refl _ _) | exact Below.drew (by assumption))

set_option maxHeartbeats 1000000 in
theorem Compare_0 {la ya ma da ha ia sa pa ga oa : Int} {za : Bool} {lb yb mb db hb ib sb pb gb ob : Int} {zb : Bool} (hra : rightB la ya ma da ha ia sa pa ga oa za = false) (w : World) (hM : Months w) :
    Calls Tryd.prog 17 #[.agg #[.int .i64 la, .int .i64 ya, .int .i64 ma, .int .i64 da, .int .i64 ha, .int .i64 ia, .int .i64 sa, .int .i64 pa, .int .i64 ga, .bool za, .int .i64 oa], .agg #[.int .i64 lb, .int .i64 yb, .int .i64 mb, .int .i64 db, .int .i64 hb, .int .i64 ib, .int .i64 sb, .int .i64 pb, .int .i64 gb, .bool zb, .int .i64 ob]] w fun e w' => (∃ b, e = .returned (.tuple #[.int .i64 0, .iface 52 (.pointer (some ⟨b, 0, none⟩))]) ∧ FaultAt w' b 0 20) ∧ Below w.heap.size w w' := by
  have HM : Hid (Months ((w.alloc (.cells #[.int .i64 la, .int .i64 ya, .int .i64 ma, .int .i64 da, .int .i64 ha, .int .i64 ia, .int .i64 sa, .int .i64 pa, .int .i64 ga, .bool za, .int .i64 oa] 23)).alloc (.cells #[.int .i64 lb, .int .i64 yb, .int .i64 mb, .int .i64 db, .int .i64 hb, .int .i64 ib, .int .i64 sb, .int .i64 pb, .int .i64 gb, .bool zb, .int .i64 ob] 23))) := months_alloc (months_alloc hM _) _
  clear hM
  have HA : Hid (rightB la ya ma da ha ia sa pa ga oa za = false) := hra
  clear hra
  go_enter Tryd.func17, Tryd.ntmps17
  go_wp2_with fail
  refine (both_0 HA.out _ HM.out).mono ?_
  rintro e w1 ⟨⟨b, rfl, f1⟩, hb1⟩
  have HF : Hid (FaultAt w1 b 0 20) := f1
  have HB : Hid (Below ((w.alloc (.cells #[.int .i64 la, .int .i64 ya, .int .i64 ma, .int .i64 da, .int .i64 ha, .int .i64 ia, .int .i64 sa, .int .i64 pa, .int .i64 ga, .bool za, .int .i64 oa] 23)).alloc (.cells #[.int .i64 lb, .int .i64 yb, .int .i64 mb, .int .i64 db, .int .i64 hb, .int .i64 ib, .int .i64 sb, .int .i64 pb, .int .i64 gb, .bool zb, .int .i64 ob] 23)).heap.size ((w.alloc (.cells #[.int .i64 la, .int .i64 ya, .int .i64 ma, .int .i64 da, .int .i64 ha, .int .i64 ia, .int .i64 sa, .int .i64 pa, .int .i64 ga, .bool za, .int .i64 oa] 23)).alloc (.cells #[.int .i64 lb, .int .i64 yb, .int .i64 mb, .int .i64 db, .int .i64 hb, .int .i64 ib, .int .i64 sb, .int .i64 pb, .int .i64 gb, .bool zb, .int .i64 ob] 23)) w1) := hb1
  clear f1 hb1
  go_wp2_with fail
  go_ret2
  exact ⟨⟨_, rfl, HF.out⟩, below_two HB.out⟩

set_option maxHeartbeats 1000000 in
theorem Compare_1 {la ya ma da ha ia sa pa ga oa : Int} {za : Bool} {lb yb mb db hb ib sb pb gb ob : Int} {zb : Bool} (hra : rightB la ya ma da ha ia sa pa ga oa za = true) (hrb : rightB lb yb mb db hb ib sb pb gb ob zb = false) (w : World) (hM : Months w) :
    Calls Tryd.prog 17 #[.agg #[.int .i64 la, .int .i64 ya, .int .i64 ma, .int .i64 da, .int .i64 ha, .int .i64 ia, .int .i64 sa, .int .i64 pa, .int .i64 ga, .bool za, .int .i64 oa], .agg #[.int .i64 lb, .int .i64 yb, .int .i64 mb, .int .i64 db, .int .i64 hb, .int .i64 ib, .int .i64 sb, .int .i64 pb, .int .i64 gb, .bool zb, .int .i64 ob]] w fun e w' => (∃ b, e = .returned (.tuple #[.int .i64 0, .iface 52 (.pointer (some ⟨b, 0, none⟩))]) ∧ FaultAt w' b 1 20) ∧ Below w.heap.size w w' := by
  have HM : Hid (Months ((w.alloc (.cells #[.int .i64 la, .int .i64 ya, .int .i64 ma, .int .i64 da, .int .i64 ha, .int .i64 ia, .int .i64 sa, .int .i64 pa, .int .i64 ga, .bool za, .int .i64 oa] 23)).alloc (.cells #[.int .i64 lb, .int .i64 yb, .int .i64 mb, .int .i64 db, .int .i64 hb, .int .i64 ib, .int .i64 sb, .int .i64 pb, .int .i64 gb, .bool zb, .int .i64 ob] 23))) := months_alloc (months_alloc hM _) _
  clear hM
  have HA : Hid (rightB la ya ma da ha ia sa pa ga oa za = true) := hra
  clear hra
  have HR : Hid (rightB lb yb mb db hb ib sb pb gb ob zb = false) := hrb
  clear hrb
  go_enter Tryd.func17, Tryd.ntmps17
  go_wp2_with fail
  refine (both_1 HA.out HR.out _ HM.out).mono ?_
  rintro e w1 ⟨⟨b, rfl, f1⟩, hb1⟩
  have HF : Hid (FaultAt w1 b 1 20) := f1
  have HB : Hid (Below ((w.alloc (.cells #[.int .i64 la, .int .i64 ya, .int .i64 ma, .int .i64 da, .int .i64 ha, .int .i64 ia, .int .i64 sa, .int .i64 pa, .int .i64 ga, .bool za, .int .i64 oa] 23)).alloc (.cells #[.int .i64 lb, .int .i64 yb, .int .i64 mb, .int .i64 db, .int .i64 hb, .int .i64 ib, .int .i64 sb, .int .i64 pb, .int .i64 gb, .bool zb, .int .i64 ob] 23)).heap.size ((w.alloc (.cells #[.int .i64 la, .int .i64 ya, .int .i64 ma, .int .i64 da, .int .i64 ha, .int .i64 ia, .int .i64 sa, .int .i64 pa, .int .i64 ga, .bool za, .int .i64 oa] 23)).alloc (.cells #[.int .i64 lb, .int .i64 yb, .int .i64 mb, .int .i64 db, .int .i64 hb, .int .i64 ib, .int .i64 sb, .int .i64 pb, .int .i64 gb, .bool zb, .int .i64 ob] 23)) w1) := hb1
  clear f1 hb1
  go_wp2_with fail
  go_ret2
  exact ⟨⟨_, rfl, HF.out⟩, below_two HB.out⟩

set_option maxHeartbeats 1000000 in
theorem Ticks_ok {la ya ma da ha ia sa pa ga oa : Int} {za : Bool} {lb yb mb db hb ib sb pb gb ob : Int} {zb : Bool} (hra : rightB la ya ma da ha ia sa pa ga oa za = true) (hrb : rightB lb yb mb db hb ib sb pb gb ob zb = true) (w : World) (hM : Months w) :
    Calls Tryd.prog 20 #[.agg #[.int .i64 la, .int .i64 ya, .int .i64 ma, .int .i64 da, .int .i64 ha, .int .i64 ia, .int .i64 sa, .int .i64 pa, .int .i64 ga, .bool za, .int .i64 oa], .agg #[.int .i64 lb, .int .i64 yb, .int .i64 mb, .int .i64 db, .int .i64 hb, .int .i64 ib, .int .i64 sb, .int .i64 pb, .int .i64 gb, .bool zb, .int .i64 ob]] w fun e w' => e = .returned (.tuple #[.int .i64 ((instI lb yb mb db hb ib sb pb gb ob - instI la ya ma da ha ia sa pa ga oa) / 10000), .nilIface]) ∧ Below w.heap.size w w' := by
  have HM : Hid (Months ((w.alloc (.cells #[.int .i64 la, .int .i64 ya, .int .i64 ma, .int .i64 da, .int .i64 ha, .int .i64 ia, .int .i64 sa, .int .i64 pa, .int .i64 ga, .bool za, .int .i64 oa] 23)).alloc (.cells #[.int .i64 lb, .int .i64 yb, .int .i64 mb, .int .i64 db, .int .i64 hb, .int .i64 ib, .int .i64 sb, .int .i64 pb, .int .i64 gb, .bool zb, .int .i64 ob] 23))) := months_alloc (months_alloc hM _) _
  clear hM
  have HA : Hid (rightB la ya ma da ha ia sa pa ga oa za = true) := hra
  have HR : Hid (rightB lb yb mb db hb ib sb pb gb ob zb = true) := hrb
  have fa : Facts la ya ma da ha ia sa pa ga oa za := facts_of hra
  have fb : Facts lb yb mb db hb ib sb pb gb ob zb := facts_of hrb
  have ba := inst_bd fa
  have bb := inst_bd fb
  clear hra hrb
  go_enter Tryd.func20, Tryd.ntmps20
  go_wp2_with fail
  refine (both_ok_rel HA.out HR.out HM.out (Below.refl _ _)).mono ?_
  rintro e w1 ⟨rfl, hb1⟩
  obtain ⟨hc, hf⟩ := bcell hb1
  go_wp2_with fail
  go_region_with (first | (go_at_call 33; refine (instant_rel (by assumption) HM.out ?_).mono ?_; (first | exact Below.refl _ _ | assumption | exact Below.drew (Below.refl _ _) | exact Below.drew (by assumption)); rintro e wx ⟨rfl, hbx⟩; obtain ⟨hcx, hfx⟩ := bcell hbx) | (go_at_call 38; refine (floorDiv_w _ _ (by omega) (by omega)).mono ?_; rintro e w' ⟨rfl, rfl⟩))
  all_goals
    go_wp2_with fail
    go_ret2
    refine ⟨rfl, below_two (a := (.cells #[.int .i64 la, .int .i64 ya, .int .i64 ma, .int .i64 da, .int .i64 ha, .int .i64 ia, .int .i64 sa, .int .i64 pa, .int .i64 ga, .bool za, .int .i64 oa] 23)) (b := (.cells #[.int .i64 lb, .int .i64 yb, .int .i64 mb, .int .i64 db, .int .i64 hb, .int .i64 ib, .int .i64 sb, .int .i64 pb, .int .i64 gb, .bool zb, .int .i64 ob] 23)) ?_⟩
    (first | exact Below.refl _ _ | assumption | exact Below.drew (Below.refl _ _) | exact Below.drew (by assumption))

set_option maxHeartbeats 1000000 in
theorem Ticks_0 {la ya ma da ha ia sa pa ga oa : Int} {za : Bool} {lb yb mb db hb ib sb pb gb ob : Int} {zb : Bool} (hra : rightB la ya ma da ha ia sa pa ga oa za = false) (w : World) (hM : Months w) :
    Calls Tryd.prog 20 #[.agg #[.int .i64 la, .int .i64 ya, .int .i64 ma, .int .i64 da, .int .i64 ha, .int .i64 ia, .int .i64 sa, .int .i64 pa, .int .i64 ga, .bool za, .int .i64 oa], .agg #[.int .i64 lb, .int .i64 yb, .int .i64 mb, .int .i64 db, .int .i64 hb, .int .i64 ib, .int .i64 sb, .int .i64 pb, .int .i64 gb, .bool zb, .int .i64 ob]] w fun e w' => (∃ b, e = .returned (.tuple #[.int .i64 0, .iface 52 (.pointer (some ⟨b, 0, none⟩))]) ∧ FaultAt w' b 0 20) ∧ Below w.heap.size w w' := by
  have HM : Hid (Months ((w.alloc (.cells #[.int .i64 la, .int .i64 ya, .int .i64 ma, .int .i64 da, .int .i64 ha, .int .i64 ia, .int .i64 sa, .int .i64 pa, .int .i64 ga, .bool za, .int .i64 oa] 23)).alloc (.cells #[.int .i64 lb, .int .i64 yb, .int .i64 mb, .int .i64 db, .int .i64 hb, .int .i64 ib, .int .i64 sb, .int .i64 pb, .int .i64 gb, .bool zb, .int .i64 ob] 23))) := months_alloc (months_alloc hM _) _
  clear hM
  have HA : Hid (rightB la ya ma da ha ia sa pa ga oa za = false) := hra
  clear hra
  go_enter Tryd.func20, Tryd.ntmps20
  go_wp2_with fail
  refine (both_0 HA.out _ HM.out).mono ?_
  rintro e w1 ⟨⟨b, rfl, f1⟩, hb1⟩
  have HF : Hid (FaultAt w1 b 0 20) := f1
  have HB : Hid (Below ((w.alloc (.cells #[.int .i64 la, .int .i64 ya, .int .i64 ma, .int .i64 da, .int .i64 ha, .int .i64 ia, .int .i64 sa, .int .i64 pa, .int .i64 ga, .bool za, .int .i64 oa] 23)).alloc (.cells #[.int .i64 lb, .int .i64 yb, .int .i64 mb, .int .i64 db, .int .i64 hb, .int .i64 ib, .int .i64 sb, .int .i64 pb, .int .i64 gb, .bool zb, .int .i64 ob] 23)).heap.size ((w.alloc (.cells #[.int .i64 la, .int .i64 ya, .int .i64 ma, .int .i64 da, .int .i64 ha, .int .i64 ia, .int .i64 sa, .int .i64 pa, .int .i64 ga, .bool za, .int .i64 oa] 23)).alloc (.cells #[.int .i64 lb, .int .i64 yb, .int .i64 mb, .int .i64 db, .int .i64 hb, .int .i64 ib, .int .i64 sb, .int .i64 pb, .int .i64 gb, .bool zb, .int .i64 ob] 23)) w1) := hb1
  clear f1 hb1
  go_wp2_with fail
  go_ret2
  exact ⟨⟨_, rfl, HF.out⟩, below_two HB.out⟩

set_option maxHeartbeats 1000000 in
theorem Ticks_1 {la ya ma da ha ia sa pa ga oa : Int} {za : Bool} {lb yb mb db hb ib sb pb gb ob : Int} {zb : Bool} (hra : rightB la ya ma da ha ia sa pa ga oa za = true) (hrb : rightB lb yb mb db hb ib sb pb gb ob zb = false) (w : World) (hM : Months w) :
    Calls Tryd.prog 20 #[.agg #[.int .i64 la, .int .i64 ya, .int .i64 ma, .int .i64 da, .int .i64 ha, .int .i64 ia, .int .i64 sa, .int .i64 pa, .int .i64 ga, .bool za, .int .i64 oa], .agg #[.int .i64 lb, .int .i64 yb, .int .i64 mb, .int .i64 db, .int .i64 hb, .int .i64 ib, .int .i64 sb, .int .i64 pb, .int .i64 gb, .bool zb, .int .i64 ob]] w fun e w' => (∃ b, e = .returned (.tuple #[.int .i64 0, .iface 52 (.pointer (some ⟨b, 0, none⟩))]) ∧ FaultAt w' b 1 20) ∧ Below w.heap.size w w' := by
  have HM : Hid (Months ((w.alloc (.cells #[.int .i64 la, .int .i64 ya, .int .i64 ma, .int .i64 da, .int .i64 ha, .int .i64 ia, .int .i64 sa, .int .i64 pa, .int .i64 ga, .bool za, .int .i64 oa] 23)).alloc (.cells #[.int .i64 lb, .int .i64 yb, .int .i64 mb, .int .i64 db, .int .i64 hb, .int .i64 ib, .int .i64 sb, .int .i64 pb, .int .i64 gb, .bool zb, .int .i64 ob] 23))) := months_alloc (months_alloc hM _) _
  clear hM
  have HA : Hid (rightB la ya ma da ha ia sa pa ga oa za = true) := hra
  clear hra
  have HR : Hid (rightB lb yb mb db hb ib sb pb gb ob zb = false) := hrb
  clear hrb
  go_enter Tryd.func20, Tryd.ntmps20
  go_wp2_with fail
  refine (both_1 HA.out HR.out _ HM.out).mono ?_
  rintro e w1 ⟨⟨b, rfl, f1⟩, hb1⟩
  have HF : Hid (FaultAt w1 b 1 20) := f1
  have HB : Hid (Below ((w.alloc (.cells #[.int .i64 la, .int .i64 ya, .int .i64 ma, .int .i64 da, .int .i64 ha, .int .i64 ia, .int .i64 sa, .int .i64 pa, .int .i64 ga, .bool za, .int .i64 oa] 23)).alloc (.cells #[.int .i64 lb, .int .i64 yb, .int .i64 mb, .int .i64 db, .int .i64 hb, .int .i64 ib, .int .i64 sb, .int .i64 pb, .int .i64 gb, .bool zb, .int .i64 ob] 23)).heap.size ((w.alloc (.cells #[.int .i64 la, .int .i64 ya, .int .i64 ma, .int .i64 da, .int .i64 ha, .int .i64 ia, .int .i64 sa, .int .i64 pa, .int .i64 ga, .bool za, .int .i64 oa] 23)).alloc (.cells #[.int .i64 lb, .int .i64 yb, .int .i64 mb, .int .i64 db, .int .i64 hb, .int .i64 ib, .int .i64 sb, .int .i64 pb, .int .i64 gb, .bool zb, .int .i64 ob] 23)) w1) := hb1
  clear f1 hb1
  go_wp2_with fail
  go_ret2
  exact ⟨⟨_, rfl, HF.out⟩, below_two HB.out⟩
end Go.Proofs.YtpcdkafjogpdkaaDoor
