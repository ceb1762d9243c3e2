/-
  Two Stamps: the reference's Compare and Ticks; the law StampCompares, walked.
-/
import Derived.Test.YtohaiibecniacabDoorCmp
namespace Go.Proofs.YtohaiibecniacabDoor
open Go.RowKit

theorem ret_tri {a b : Int} {v u : Value} (h : a = b) : Ending.returned (.tuple #[.int .i64 a, v, u]) = .returned (.tuple #[.int .i64 b, v, u]) := by rw [h]
theorem refInst_rel {la ya ma da ha ia sa pa ga oa : Int} {za : Bool} (hr : rightB la ya ma da ha ia sa pa ga oa za = true) {W0 W : World} (hbl : Below W0.heap.size W0 W) :
    Calls Tryd.prog 17 #[.agg #[.int .i64 la, .int .i64 ya, .int .i64 ma, .int .i64 da, .int .i64 ha, .int .i64 ia, .int .i64 sa, .int .i64 pa, .int .i64 ga, .bool za, .int .i64 oa]] W fun e w' => e = .returned (.tuple #[.int .i64 (instI la ya ma da ha ia sa pa ga oa), .int .i64 0]) ∧ Below W0.heap.size W0 w' := (refInstant_ok hr W).mono fun _ _ ⟨he, h⟩ => ⟨he, below_then hbl h⟩
theorem refInst_rel' {la ya ma da ha ia sa pa ga oa : Int} {za : Bool} (hr : rightB la ya ma da ha ia sa pa ga oa za = false) {W0 W : World} (hbl : Below W0.heap.size W0 W) :
    Calls Tryd.prog 17 #[.agg #[.int .i64 la, .int .i64 ya, .int .i64 ma, .int .i64 da, .int .i64 ha, .int .i64 ia, .int .i64 sa, .int .i64 pa, .int .i64 ga, .bool za, .int .i64 oa]] W fun e w' => e = .returned (.tuple #[.int .i64 0, .int .i64 20]) ∧ Below W0.heap.size W0 w' := (refInstant_bad hr W).mono fun _ _ ⟨he, h⟩ => ⟨he, below_then hbl h⟩

set_option maxHeartbeats 1000000 in
theorem refCompare_ok {la ya ma da ha ia sa pa ga oa : Int} {za : Bool} {lb yb mb db hb ib sb pb gb ob : Int} {zb : Bool} (hra : rightB la ya ma da ha ia sa pa ga oa za = true) (hrb : rightB lb yb mb db hb ib sb pb gb ob zb = true) (w : World) :
    Calls Tryd.prog 19 #[.agg #[.int .i64 la, .int .i64 ya, .int .i64 ma, .int .i64 da, .int .i64 ha, .int .i64 ia, .int .i64 sa, .int .i64 pa, .int .i64 ga, .bool za, .int .i64 oa], .agg #[.int .i64 lb, .int .i64 yb, .int .i64 mb, .int .i64 db, .int .i64 hb, .int .i64 ib, .int .i64 sb, .int .i64 pb, .int .i64 gb, .bool zb, .int .i64 ob]] w fun e w' => e = .returned (.tuple #[.int .i64 (cmpI (instI la ya ma da ha ia sa pa ga oa) (instI lb yb mb db hb ib sb pb gb ob)), .int .i64 0, .int .i64 0]) ∧ Below w.heap.size w w' := by
  have HA : Hid (rightB la ya ma da ha ia sa pa ga oa za = true) := hra
  have HR : Hid (rightB lb yb mb db hb ib sb pb gb ob zb = true) := hrb
  clear hra hrb
  by_cases h : instI la ya ma da ha ia sa pa ga oa < instI lb yb mb db hb ib sb pb gb ob
  · have HC : Hid (-1 = cmpI (instI la ya ma da ha ia sa pa ga oa) (instI lb yb mb db hb ib sb pb gb ob)) := cmp_lt h
    go_enter Tryd.func19, Tryd.ntmps19
    go_wp2_with fail
    refine (refInst_rel HA.out (Below.refl _ _)).mono ?_
    rintro e w1 ⟨rfl, hb1⟩
    obtain ⟨hc, hf⟩ := bcell hb1
    have HB1 : Hid (Below ((w.alloc (.cells #[.int .i64 la, .int .i64 ya, .int .i64 ma, .int .i64 da, .int .i64 ha, .int .i64 ia, .int .i64 sa, .int .i64 pa, .int .i64 ga, .bool za, .int .i64 oa] 31)).alloc (.cells #[.int .i64 lb, .int .i64 yb, .int .i64 mb, .int .i64 db, .int .i64 hb, .int .i64 ib, .int .i64 sb, .int .i64 pb, .int .i64 gb, .bool zb, .int .i64 ob] 31)).heap.size ((w.alloc (.cells #[.int .i64 la, .int .i64 ya, .int .i64 ma, .int .i64 da, .int .i64 ha, .int .i64 ia, .int .i64 sa, .int .i64 pa, .int .i64 ga, .bool za, .int .i64 oa] 31)).alloc (.cells #[.int .i64 lb, .int .i64 yb, .int .i64 mb, .int .i64 db, .int .i64 hb, .int .i64 ib, .int .i64 sb, .int .i64 pb, .int .i64 gb, .bool zb, .int .i64 ob] 31)) w1) := hb1
    clear hb1
    go_wp2_with fail
    refine (refInst_rel HR.out HB1.out).mono ?_
    rintro e w2 ⟨rfl, hb2⟩
    have HB2 : Hid (Below ((w.alloc (.cells #[.int .i64 la, .int .i64 ya, .int .i64 ma, .int .i64 da, .int .i64 ha, .int .i64 ia, .int .i64 sa, .int .i64 pa, .int .i64 ga, .bool za, .int .i64 oa] 31)).alloc (.cells #[.int .i64 lb, .int .i64 yb, .int .i64 mb, .int .i64 db, .int .i64 hb, .int .i64 ib, .int .i64 sb, .int .i64 pb, .int .i64 gb, .bool zb, .int .i64 ob] 31)).heap.size ((w.alloc (.cells #[.int .i64 la, .int .i64 ya, .int .i64 ma, .int .i64 da, .int .i64 ha, .int .i64 ia, .int .i64 sa, .int .i64 pa, .int .i64 ga, .bool za, .int .i64 oa] 31)).alloc (.cells #[.int .i64 lb, .int .i64 yb, .int .i64 mb, .int .i64 db, .int .i64 hb, .int .i64 ib, .int .i64 sb, .int .i64 pb, .int .i64 gb, .bool zb, .int .i64 ob] 31)) w2) := hb2
    clear hb2 hc hf
    go_wp2_with fail
    go_ret3
    exact ⟨ret_tri HC.out, below_two HB2.out⟩
  · by_cases h2 : instI lb yb mb db hb ib sb pb gb ob < instI la ya ma da ha ia sa pa ga oa
    · have HC : Hid (1 = cmpI (instI la ya ma da ha ia sa pa ga oa) (instI lb yb mb db hb ib sb pb gb ob)) := cmp_gt h2
      go_enter Tryd.func19, Tryd.ntmps19
      go_wp2_with fail
      refine (refInst_rel HA.out (Below.refl _ _)).mono ?_
      rintro e w1 ⟨rfl, hb1⟩
      obtain ⟨hc, hf⟩ := bcell hb1
      have HB1 : Hid (Below ((w.alloc (.cells #[.int .i64 la, .int .i64 ya, .int .i64 ma, .int .i64 da, .int .i64 ha, .int .i64 ia, .int .i64 sa, .int .i64 pa, .int .i64 ga, .bool za, .int .i64 oa] 31)).alloc (.cells #[.int .i64 lb, .int .i64 yb, .int .i64 mb, .int .i64 db, .int .i64 hb, .int .i64 ib, .int .i64 sb, .int .i64 pb, .int .i64 gb, .bool zb, .int .i64 ob] 31)).heap.size ((w.alloc (.cells #[.int .i64 la, .int .i64 ya, .int .i64 ma, .int .i64 da, .int .i64 ha, .int .i64 ia, .int .i64 sa, .int .i64 pa, .int .i64 ga, .bool za, .int .i64 oa] 31)).alloc (.cells #[.int .i64 lb, .int .i64 yb, .int .i64 mb, .int .i64 db, .int .i64 hb, .int .i64 ib, .int .i64 sb, .int .i64 pb, .int .i64 gb, .bool zb, .int .i64 ob] 31)) w1) := hb1
      clear hb1
      go_wp2_with fail
      refine (refInst_rel HR.out HB1.out).mono ?_
      rintro e w2 ⟨rfl, hb2⟩
      have HB2 : Hid (Below ((w.alloc (.cells #[.int .i64 la, .int .i64 ya, .int .i64 ma, .int .i64 da, .int .i64 ha, .int .i64 ia, .int .i64 sa, .int .i64 pa, .int .i64 ga, .bool za, .int .i64 oa] 31)).alloc (.cells #[.int .i64 lb, .int .i64 yb, .int .i64 mb, .int .i64 db, .int .i64 hb, .int .i64 ib, .int .i64 sb, .int .i64 pb, .int .i64 gb, .bool zb, .int .i64 ob] 31)).heap.size ((w.alloc (.cells #[.int .i64 la, .int .i64 ya, .int .i64 ma, .int .i64 da, .int .i64 ha, .int .i64 ia, .int .i64 sa, .int .i64 pa, .int .i64 ga, .bool za, .int .i64 oa] 31)).alloc (.cells #[.int .i64 lb, .int .i64 yb, .int .i64 mb, .int .i64 db, .int .i64 hb, .int .i64 ib, .int .i64 sb, .int .i64 pb, .int .i64 gb, .bool zb, .int .i64 ob] 31)) w2) := hb2
      clear hb2 hc hf
      go_wp2_with fail
      go_ret3
      exact ⟨ret_tri HC.out, below_two HB2.out⟩
    · have HC : Hid (0 = cmpI (instI la ya ma da ha ia sa pa ga oa) (instI lb yb mb db hb ib sb pb gb ob)) := cmp_eq h h2
      go_enter Tryd.func19, Tryd.ntmps19
      go_wp2_with fail
      refine (refInst_rel HA.out (Below.refl _ _)).mono ?_
      rintro e w1 ⟨rfl, hb1⟩
      obtain ⟨hc, hf⟩ := bcell hb1
      have HB1 : Hid (Below ((w.alloc (.cells #[.int .i64 la, .int .i64 ya, .int .i64 ma, .int .i64 da, .int .i64 ha, .int .i64 ia, .int .i64 sa, .int .i64 pa, .int .i64 ga, .bool za, .int .i64 oa] 31)).alloc (.cells #[.int .i64 lb, .int .i64 yb, .int .i64 mb, .int .i64 db, .int .i64 hb, .int .i64 ib, .int .i64 sb, .int .i64 pb, .int .i64 gb, .bool zb, .int .i64 ob] 31)).heap.size ((w.alloc (.cells #[.int .i64 la, .int .i64 ya, .int .i64 ma, .int .i64 da, .int .i64 ha, .int .i64 ia, .int .i64 sa, .int .i64 pa, .int .i64 ga, .bool za, .int .i64 oa] 31)).alloc (.cells #[.int .i64 lb, .int .i64 yb, .int .i64 mb, .int .i64 db, .int .i64 hb, .int .i64 ib, .int .i64 sb, .int .i64 pb, .int .i64 gb, .bool zb, .int .i64 ob] 31)) w1) := hb1
      clear hb1
      go_wp2_with fail
      refine (refInst_rel HR.out HB1.out).mono ?_
      rintro e w2 ⟨rfl, hb2⟩
      have HB2 : Hid (Below ((w.alloc (.cells #[.int .i64 la, .int .i64 ya, .int .i64 ma, .int .i64 da, .int .i64 ha, .int .i64 ia, .int .i64 sa, .int .i64 pa, .int .i64 ga, .bool za, .int .i64 oa] 31)).alloc (.cells #[.int .i64 lb, .int .i64 yb, .int .i64 mb, .int .i64 db, .int .i64 hb, .int .i64 ib, .int .i64 sb, .int .i64 pb, .int .i64 gb, .bool zb, .int .i64 ob] 31)).heap.size ((w.alloc (.cells #[.int .i64 la, .int .i64 ya, .int .i64 ma, .int .i64 da, .int .i64 ha, .int .i64 ia, .int .i64 sa, .int .i64 pa, .int .i64 ga, .bool za, .int .i64 oa] 31)).alloc (.cells #[.int .i64 lb, .int .i64 yb, .int .i64 mb, .int .i64 db, .int .i64 hb, .int .i64 ib, .int .i64 sb, .int .i64 pb, .int .i64 gb, .bool zb, .int .i64 ob] 31)) w2) := hb2
      clear hb2 hc hf
      go_wp2_with fail
      go_ret3
      exact ⟨ret_tri HC.out, below_two HB2.out⟩

set_option maxHeartbeats 1000000 in
theorem refTicks_ok {la ya ma da ha ia sa pa ga oa : Int} {za : Bool} {lb yb mb db hb ib sb pb gb ob : Int} {zb : Bool} (hra : rightB la ya ma da ha ia sa pa ga oa za = true) (hrb : rightB lb yb mb db hb ib sb pb gb ob zb = true) (w : World) :
    Calls Tryd.prog 21 #[.agg #[.int .i64 la, .int .i64 ya, .int .i64 ma, .int .i64 da, .int .i64 ha, .int .i64 ia, .int .i64 sa, .int .i64 pa, .int .i64 ga, .bool za, .int .i64 oa], .agg #[.int .i64 lb, .int .i64 yb, .int .i64 mb, .int .i64 db, .int .i64 hb, .int .i64 ib, .int .i64 sb, .int .i64 pb, .int .i64 gb, .bool zb, .int .i64 ob]] w fun e w' => e = .returned (.tuple #[.int .i64 ((instI lb yb mb db hb ib sb pb gb ob - instI la ya ma da ha ia sa pa ga oa) / 10000), .int .i64 0, .int .i64 0]) ∧ Below w.heap.size w w' := by
  have HA : Hid (rightB la ya ma da ha ia sa pa ga oa za = true) := hra
  have HR : Hid (rightB lb yb mb db hb ib sb pb gb ob zb = true) := hrb
  have ba := inst_bd (facts_of hra)
  have bb := inst_bd (facts_of hrb)
  clear hra hrb
  obtain ⟨x, hx⟩ : ∃ x, instI la ya ma da ha ia sa pa ga oa = x := ⟨_, rfl⟩
  obtain ⟨y, hy⟩ : ∃ y, instI lb yb mb db hb ib sb pb gb ob = y := ⟨_, rfl⟩
  have HX : Hid (instI la ya ma da ha ia sa pa ga oa = x) := hx
  have HY : Hid (instI lb yb mb db hb ib sb pb gb ob = y) := hy
  rw [hx] at ba
  rw [hy] at bb
  rw [hx, hy]
  clear hx hy
  by_cases h : 0 ≤ y - x
  · go_enter Tryd.func21, Tryd.ntmps21
    go_wp2_with fail
    refine (refInst_rel HA.out (Below.refl _ _)).mono ?_
    rintro e w1 ⟨he, hb1⟩
    rw [HX.out] at he
    subst he
    obtain ⟨hc, hf⟩ := bcell hb1
    have HB1 : Hid (Below ((w.alloc (.cells #[.int .i64 la, .int .i64 ya, .int .i64 ma, .int .i64 da, .int .i64 ha, .int .i64 ia, .int .i64 sa, .int .i64 pa, .int .i64 ga, .bool za, .int .i64 oa] 31)).alloc (.cells #[.int .i64 lb, .int .i64 yb, .int .i64 mb, .int .i64 db, .int .i64 hb, .int .i64 ib, .int .i64 sb, .int .i64 pb, .int .i64 gb, .bool zb, .int .i64 ob] 31)).heap.size ((w.alloc (.cells #[.int .i64 la, .int .i64 ya, .int .i64 ma, .int .i64 da, .int .i64 ha, .int .i64 ia, .int .i64 sa, .int .i64 pa, .int .i64 ga, .bool za, .int .i64 oa] 31)).alloc (.cells #[.int .i64 lb, .int .i64 yb, .int .i64 mb, .int .i64 db, .int .i64 hb, .int .i64 ib, .int .i64 sb, .int .i64 pb, .int .i64 gb, .bool zb, .int .i64 ob] 31)) w1) := hb1
    clear hb1
    go_wp2_with fail
    refine (refInst_rel HR.out HB1.out).mono ?_
    rintro e w2 ⟨he, hb2⟩
    rw [HY.out] at he
    subst he
    have HB2 : Hid (Below ((w.alloc (.cells #[.int .i64 la, .int .i64 ya, .int .i64 ma, .int .i64 da, .int .i64 ha, .int .i64 ia, .int .i64 sa, .int .i64 pa, .int .i64 ga, .bool za, .int .i64 oa] 31)).alloc (.cells #[.int .i64 lb, .int .i64 yb, .int .i64 mb, .int .i64 db, .int .i64 hb, .int .i64 ib, .int .i64 sb, .int .i64 pb, .int .i64 gb, .bool zb, .int .i64 ob] 31)).heap.size ((w.alloc (.cells #[.int .i64 la, .int .i64 ya, .int .i64 ma, .int .i64 da, .int .i64 ha, .int .i64 ia, .int .i64 sa, .int .i64 pa, .int .i64 ga, .bool za, .int .i64 oa] 31)).alloc (.cells #[.int .i64 lb, .int .i64 yb, .int .i64 mb, .int .i64 db, .int .i64 hb, .int .i64 ib, .int .i64 sb, .int .i64 pb, .int .i64 gb, .bool zb, .int .i64 ob] 31)) w2) := hb2
    clear hb2 hc hf
    go_wp2_with fail
    go_ret3
    exact ⟨rfl, below_two HB2.out⟩
  · have t := tdiv_neg (a := y - x) (by omega)
    have HT : Hid (((y - x).tmod 10000 < 0 → (y - x).tdiv 10000 - 1 = (y - x) / 10000) ∧ (¬ (y - x).tmod 10000 < 0 → (y - x).tdiv 10000 = (y - x) / 10000)) := ⟨t.1, t.2.1⟩
    have t1 := t.2.2.1
    have t2 := t.2.2.2
    clear t
    by_cases g : (y - x).tmod 10000 < 0
    · have HV := HT.out.1 g
      have HVV : Hid ((y - x).tdiv 10000 - 1 = (y - x) / 10000) := HV
      clear HV HT
      go_enter Tryd.func21, Tryd.ntmps21
      go_wp2_with fail
      refine (refInst_rel HA.out (Below.refl _ _)).mono ?_
      rintro e w1 ⟨he, hb1⟩
      rw [HX.out] at he
      subst he
      obtain ⟨hc, hf⟩ := bcell hb1
      have HB1 : Hid (Below ((w.alloc (.cells #[.int .i64 la, .int .i64 ya, .int .i64 ma, .int .i64 da, .int .i64 ha, .int .i64 ia, .int .i64 sa, .int .i64 pa, .int .i64 ga, .bool za, .int .i64 oa] 31)).alloc (.cells #[.int .i64 lb, .int .i64 yb, .int .i64 mb, .int .i64 db, .int .i64 hb, .int .i64 ib, .int .i64 sb, .int .i64 pb, .int .i64 gb, .bool zb, .int .i64 ob] 31)).heap.size ((w.alloc (.cells #[.int .i64 la, .int .i64 ya, .int .i64 ma, .int .i64 da, .int .i64 ha, .int .i64 ia, .int .i64 sa, .int .i64 pa, .int .i64 ga, .bool za, .int .i64 oa] 31)).alloc (.cells #[.int .i64 lb, .int .i64 yb, .int .i64 mb, .int .i64 db, .int .i64 hb, .int .i64 ib, .int .i64 sb, .int .i64 pb, .int .i64 gb, .bool zb, .int .i64 ob] 31)) w1) := hb1
      clear hb1
      go_wp2_with fail
      refine (refInst_rel HR.out HB1.out).mono ?_
      rintro e w2 ⟨he, hb2⟩
      rw [HY.out] at he
      subst he
      have HB2 : Hid (Below ((w.alloc (.cells #[.int .i64 la, .int .i64 ya, .int .i64 ma, .int .i64 da, .int .i64 ha, .int .i64 ia, .int .i64 sa, .int .i64 pa, .int .i64 ga, .bool za, .int .i64 oa] 31)).alloc (.cells #[.int .i64 lb, .int .i64 yb, .int .i64 mb, .int .i64 db, .int .i64 hb, .int .i64 ib, .int .i64 sb, .int .i64 pb, .int .i64 gb, .bool zb, .int .i64 ob] 31)).heap.size ((w.alloc (.cells #[.int .i64 la, .int .i64 ya, .int .i64 ma, .int .i64 da, .int .i64 ha, .int .i64 ia, .int .i64 sa, .int .i64 pa, .int .i64 ga, .bool za, .int .i64 oa] 31)).alloc (.cells #[.int .i64 lb, .int .i64 yb, .int .i64 mb, .int .i64 db, .int .i64 hb, .int .i64 ib, .int .i64 sb, .int .i64 pb, .int .i64 gb, .bool zb, .int .i64 ob] 31)) w2) := hb2
      clear hb2 hc hf
      go_wp2_with fail
      go_ret3
      exact ⟨ret_tri HVV.out, below_two HB2.out⟩
    · have HV := HT.out.2 g
      have HVV : Hid ((y - x).tdiv 10000 = (y - x) / 10000) := HV
      clear HV HT
      go_enter Tryd.func21, Tryd.ntmps21
      go_wp2_with fail
      refine (refInst_rel HA.out (Below.refl _ _)).mono ?_
      rintro e w1 ⟨he, hb1⟩
      rw [HX.out] at he
      subst he
      obtain ⟨hc, hf⟩ := bcell hb1
      have HB1 : Hid (Below ((w.alloc (.cells #[.int .i64 la, .int .i64 ya, .int .i64 ma, .int .i64 da, .int .i64 ha, .int .i64 ia, .int .i64 sa, .int .i64 pa, .int .i64 ga, .bool za, .int .i64 oa] 31)).alloc (.cells #[.int .i64 lb, .int .i64 yb, .int .i64 mb, .int .i64 db, .int .i64 hb, .int .i64 ib, .int .i64 sb, .int .i64 pb, .int .i64 gb, .bool zb, .int .i64 ob] 31)).heap.size ((w.alloc (.cells #[.int .i64 la, .int .i64 ya, .int .i64 ma, .int .i64 da, .int .i64 ha, .int .i64 ia, .int .i64 sa, .int .i64 pa, .int .i64 ga, .bool za, .int .i64 oa] 31)).alloc (.cells #[.int .i64 lb, .int .i64 yb, .int .i64 mb, .int .i64 db, .int .i64 hb, .int .i64 ib, .int .i64 sb, .int .i64 pb, .int .i64 gb, .bool zb, .int .i64 ob] 31)) w1) := hb1
      clear hb1
      go_wp2_with fail
      refine (refInst_rel HR.out HB1.out).mono ?_
      rintro e w2 ⟨he, hb2⟩
      rw [HY.out] at he
      subst he
      have HB2 : Hid (Below ((w.alloc (.cells #[.int .i64 la, .int .i64 ya, .int .i64 ma, .int .i64 da, .int .i64 ha, .int .i64 ia, .int .i64 sa, .int .i64 pa, .int .i64 ga, .bool za, .int .i64 oa] 31)).alloc (.cells #[.int .i64 lb, .int .i64 yb, .int .i64 mb, .int .i64 db, .int .i64 hb, .int .i64 ib, .int .i64 sb, .int .i64 pb, .int .i64 gb, .bool zb, .int .i64 ob] 31)).heap.size ((w.alloc (.cells #[.int .i64 la, .int .i64 ya, .int .i64 ma, .int .i64 da, .int .i64 ha, .int .i64 ia, .int .i64 sa, .int .i64 pa, .int .i64 ga, .bool za, .int .i64 oa] 31)).alloc (.cells #[.int .i64 lb, .int .i64 yb, .int .i64 mb, .int .i64 db, .int .i64 hb, .int .i64 ib, .int .i64 sb, .int .i64 pb, .int .i64 gb, .bool zb, .int .i64 ob] 31)) w2) := hb2
      clear hb2 hc hf
      go_wp2_with fail
      go_ret3
      exact ⟨ret_tri HVV.out, below_two HB2.out⟩

set_option maxHeartbeats 1000000 in
theorem refCompare_0 {la ya ma da ha ia sa pa ga oa : Int} {za : Bool} {lb yb mb db hb ib sb pb gb ob : Int} {zb : Bool} (hra : rightB la ya ma da ha ia sa pa ga oa za = false) (w : World) :
    Calls Tryd.prog 19 #[.agg #[.int .i64 la, .int .i64 ya, .int .i64 ma, .int .i64 da, .int .i64 ha, .int .i64 ia, .int .i64 sa, .int .i64 pa, .int .i64 ga, .bool za, .int .i64 oa], .agg #[.int .i64 lb, .int .i64 yb, .int .i64 mb, .int .i64 db, .int .i64 hb, .int .i64 ib, .int .i64 sb, .int .i64 pb, .int .i64 gb, .bool zb, .int .i64 ob]] w fun e w' => e = .returned (.tuple #[.int .i64 0, .int .i64 0, .int .i64 20]) ∧ Below w.heap.size w w' := by
  have HA : Hid (rightB la ya ma da ha ia sa pa ga oa za = false) := hra
  clear hra
  go_enter Tryd.func19, Tryd.ntmps19
  go_wp2_with fail
  refine (refInst_rel' HA.out (Below.refl _ _)).mono ?_
  rintro e w1 ⟨rfl, hb1⟩
  have HB1 : Hid (Below ((w.alloc (.cells #[.int .i64 la, .int .i64 ya, .int .i64 ma, .int .i64 da, .int .i64 ha, .int .i64 ia, .int .i64 sa, .int .i64 pa, .int .i64 ga, .bool za, .int .i64 oa] 31)).alloc (.cells #[.int .i64 lb, .int .i64 yb, .int .i64 mb, .int .i64 db, .int .i64 hb, .int .i64 ib, .int .i64 sb, .int .i64 pb, .int .i64 gb, .bool zb, .int .i64 ob] 31)).heap.size ((w.alloc (.cells #[.int .i64 la, .int .i64 ya, .int .i64 ma, .int .i64 da, .int .i64 ha, .int .i64 ia, .int .i64 sa, .int .i64 pa, .int .i64 ga, .bool za, .int .i64 oa] 31)).alloc (.cells #[.int .i64 lb, .int .i64 yb, .int .i64 mb, .int .i64 db, .int .i64 hb, .int .i64 ib, .int .i64 sb, .int .i64 pb, .int .i64 gb, .bool zb, .int .i64 ob] 31)) w1) := hb1
  clear hb1
  go_wp2_with fail
  go_ret3
  exact ⟨rfl, below_two HB1.out⟩

set_option maxHeartbeats 1000000 in
theorem refCompare_1 {la ya ma da ha ia sa pa ga oa : Int} {za : Bool} {lb yb mb db hb ib sb pb gb ob : Int} {zb : Bool} (hra : rightB la ya ma da ha ia sa pa ga oa za = true) (hrb : rightB lb yb mb db hb ib sb pb gb ob zb = false) (w : World) :
    Calls Tryd.prog 19 #[.agg #[.int .i64 la, .int .i64 ya, .int .i64 ma, .int .i64 da, .int .i64 ha, .int .i64 ia, .int .i64 sa, .int .i64 pa, .int .i64 ga, .bool za, .int .i64 oa], .agg #[.int .i64 lb, .int .i64 yb, .int .i64 mb, .int .i64 db, .int .i64 hb, .int .i64 ib, .int .i64 sb, .int .i64 pb, .int .i64 gb, .bool zb, .int .i64 ob]] w fun e w' => e = .returned (.tuple #[.int .i64 0, .int .i64 1, .int .i64 20]) ∧ Below w.heap.size w w' := by
  have HA : Hid (rightB la ya ma da ha ia sa pa ga oa za = true) := hra
  have HR : Hid (rightB lb yb mb db hb ib sb pb gb ob zb = false) := hrb
  clear hra hrb
  go_enter Tryd.func19, Tryd.ntmps19
  go_wp2_with fail
  refine (refInst_rel HA.out (Below.refl _ _)).mono ?_
  rintro e w1 ⟨rfl, hb1⟩
  obtain ⟨hc, hf⟩ := bcell hb1
  have HB1 : Hid (Below ((w.alloc (.cells #[.int .i64 la, .int .i64 ya, .int .i64 ma, .int .i64 da, .int .i64 ha, .int .i64 ia, .int .i64 sa, .int .i64 pa, .int .i64 ga, .bool za, .int .i64 oa] 31)).alloc (.cells #[.int .i64 lb, .int .i64 yb, .int .i64 mb, .int .i64 db, .int .i64 hb, .int .i64 ib, .int .i64 sb, .int .i64 pb, .int .i64 gb, .bool zb, .int .i64 ob] 31)).heap.size ((w.alloc (.cells #[.int .i64 la, .int .i64 ya, .int .i64 ma, .int .i64 da, .int .i64 ha, .int .i64 ia, .int .i64 sa, .int .i64 pa, .int .i64 ga, .bool za, .int .i64 oa] 31)).alloc (.cells #[.int .i64 lb, .int .i64 yb, .int .i64 mb, .int .i64 db, .int .i64 hb, .int .i64 ib, .int .i64 sb, .int .i64 pb, .int .i64 gb, .bool zb, .int .i64 ob] 31)) w1) := hb1
  clear hb1
  go_wp2_with fail
  refine (refInst_rel' HR.out HB1.out).mono ?_
  rintro e w2 ⟨rfl, hb2⟩
  have HB2 : Hid (Below ((w.alloc (.cells #[.int .i64 la, .int .i64 ya, .int .i64 ma, .int .i64 da, .int .i64 ha, .int .i64 ia, .int .i64 sa, .int .i64 pa, .int .i64 ga, .bool za, .int .i64 oa] 31)).alloc (.cells #[.int .i64 lb, .int .i64 yb, .int .i64 mb, .int .i64 db, .int .i64 hb, .int .i64 ib, .int .i64 sb, .int .i64 pb, .int .i64 gb, .bool zb, .int .i64 ob] 31)).heap.size ((w.alloc (.cells #[.int .i64 la, .int .i64 ya, .int .i64 ma, .int .i64 da, .int .i64 ha, .int .i64 ia, .int .i64 sa, .int .i64 pa, .int .i64 ga, .bool za, .int .i64 oa] 31)).alloc (.cells #[.int .i64 lb, .int .i64 yb, .int .i64 mb, .int .i64 db, .int .i64 hb, .int .i64 ib, .int .i64 sb, .int .i64 pb, .int .i64 gb, .bool zb, .int .i64 ob] 31)) w2) := hb2
  clear hb2 hc hf
  go_wp2_with fail
  go_ret3
  exact ⟨rfl, below_two HB2.out⟩

set_option maxHeartbeats 1000000 in
theorem refTicks_0 {la ya ma da ha ia sa pa ga oa : Int} {za : Bool} {lb yb mb db hb ib sb pb gb ob : Int} {zb : Bool} (hra : rightB la ya ma da ha ia sa pa ga oa za = false) (w : World) :
    Calls Tryd.prog 21 #[.agg #[.int .i64 la, .int .i64 ya, .int .i64 ma, .int .i64 da, .int .i64 ha, .int .i64 ia, .int .i64 sa, .int .i64 pa, .int .i64 ga, .bool za, .int .i64 oa], .agg #[.int .i64 lb, .int .i64 yb, .int .i64 mb, .int .i64 db, .int .i64 hb, .int .i64 ib, .int .i64 sb, .int .i64 pb, .int .i64 gb, .bool zb, .int .i64 ob]] w fun e w' => e = .returned (.tuple #[.int .i64 0, .int .i64 0, .int .i64 20]) ∧ Below w.heap.size w w' := by
  have HA : Hid (rightB la ya ma da ha ia sa pa ga oa za = false) := hra
  clear hra
  go_enter Tryd.func21, Tryd.ntmps21
  go_wp2_with fail
  refine (refInst_rel' HA.out (Below.refl _ _)).mono ?_
  rintro e w1 ⟨rfl, hb1⟩
  have HB1 : Hid (Below ((w.alloc (.cells #[.int .i64 la, .int .i64 ya, .int .i64 ma, .int .i64 da, .int .i64 ha, .int .i64 ia, .int .i64 sa, .int .i64 pa, .int .i64 ga, .bool za, .int .i64 oa] 31)).alloc (.cells #[.int .i64 lb, .int .i64 yb, .int .i64 mb, .int .i64 db, .int .i64 hb, .int .i64 ib, .int .i64 sb, .int .i64 pb, .int .i64 gb, .bool zb, .int .i64 ob] 31)).heap.size ((w.alloc (.cells #[.int .i64 la, .int .i64 ya, .int .i64 ma, .int .i64 da, .int .i64 ha, .int .i64 ia, .int .i64 sa, .int .i64 pa, .int .i64 ga, .bool za, .int .i64 oa] 31)).alloc (.cells #[.int .i64 lb, .int .i64 yb, .int .i64 mb, .int .i64 db, .int .i64 hb, .int .i64 ib, .int .i64 sb, .int .i64 pb, .int .i64 gb, .bool zb, .int .i64 ob] 31)) w1) := hb1
  clear hb1
  go_wp2_with fail
  go_ret3
  exact ⟨rfl, below_two HB1.out⟩

set_option maxHeartbeats 1000000 in
theorem refTicks_1 {la ya ma da ha ia sa pa ga oa : Int} {za : Bool} {lb yb mb db hb ib sb pb gb ob : Int} {zb : Bool} (hra : rightB la ya ma da ha ia sa pa ga oa za = true) (hrb : rightB lb yb mb db hb ib sb pb gb ob zb = false) (w : World) :
    Calls Tryd.prog 21 #[.agg #[.int .i64 la, .int .i64 ya, .int .i64 ma, .int .i64 da, .int .i64 ha, .int .i64 ia, .int .i64 sa, .int .i64 pa, .int .i64 ga, .bool za, .int .i64 oa], .agg #[.int .i64 lb, .int .i64 yb, .int .i64 mb, .int .i64 db, .int .i64 hb, .int .i64 ib, .int .i64 sb, .int .i64 pb, .int .i64 gb, .bool zb, .int .i64 ob]] w fun e w' => e = .returned (.tuple #[.int .i64 0, .int .i64 1, .int .i64 20]) ∧ Below w.heap.size w w' := by
  have HA : Hid (rightB la ya ma da ha ia sa pa ga oa za = true) := hra
  have HR : Hid (rightB lb yb mb db hb ib sb pb gb ob zb = false) := hrb
  clear hra hrb
  go_enter Tryd.func21, Tryd.ntmps21
  go_wp2_with fail
  refine (refInst_rel HA.out (Below.refl _ _)).mono ?_
  rintro e w1 ⟨rfl, hb1⟩
  obtain ⟨hc, hf⟩ := bcell hb1
  have HB1 : Hid (Below ((w.alloc (.cells #[.int .i64 la, .int .i64 ya, .int .i64 ma, .int .i64 da, .int .i64 ha, .int .i64 ia, .int .i64 sa, .int .i64 pa, .int .i64 ga, .bool za, .int .i64 oa] 31)).alloc (.cells #[.int .i64 lb, .int .i64 yb, .int .i64 mb, .int .i64 db, .int .i64 hb, .int .i64 ib, .int .i64 sb, .int .i64 pb, .int .i64 gb, .bool zb, .int .i64 ob] 31)).heap.size ((w.alloc (.cells #[.int .i64 la, .int .i64 ya, .int .i64 ma, .int .i64 da, .int .i64 ha, .int .i64 ia, .int .i64 sa, .int .i64 pa, .int .i64 ga, .bool za, .int .i64 oa] 31)).alloc (.cells #[.int .i64 lb, .int .i64 yb, .int .i64 mb, .int .i64 db, .int .i64 hb, .int .i64 ib, .int .i64 sb, .int .i64 pb, .int .i64 gb, .bool zb, .int .i64 ob] 31)) w1) := hb1
  clear hb1
  go_wp2_with fail
  refine (refInst_rel' HR.out HB1.out).mono ?_
  rintro e w2 ⟨rfl, hb2⟩
  have HB2 : Hid (Below ((w.alloc (.cells #[.int .i64 la, .int .i64 ya, .int .i64 ma, .int .i64 da, .int .i64 ha, .int .i64 ia, .int .i64 sa, .int .i64 pa, .int .i64 ga, .bool za, .int .i64 oa] 31)).alloc (.cells #[.int .i64 lb, .int .i64 yb, .int .i64 mb, .int .i64 db, .int .i64 hb, .int .i64 ib, .int .i64 sb, .int .i64 pb, .int .i64 gb, .bool zb, .int .i64 ob] 31)).heap.size ((w.alloc (.cells #[.int .i64 la, .int .i64 ya, .int .i64 ma, .int .i64 da, .int .i64 ha, .int .i64 ia, .int .i64 sa, .int .i64 pa, .int .i64 ga, .bool za, .int .i64 oa] 31)).alloc (.cells #[.int .i64 lb, .int .i64 yb, .int .i64 mb, .int .i64 db, .int .i64 hb, .int .i64 ib, .int .i64 sb, .int .i64 pb, .int .i64 gb, .bool zb, .int .i64 ob] 31)) w2) := hb2
  clear hb2 hc hf
  go_wp2_with fail
  go_ret3
  exact ⟨rfl, below_two HB2.out⟩
end Go.Proofs.YtohaiibecniacabDoor
