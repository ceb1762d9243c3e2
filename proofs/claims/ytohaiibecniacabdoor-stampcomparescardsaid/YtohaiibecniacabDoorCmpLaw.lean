/-
  The law StampCompares, walked.
-/
import Derived.Test.YtohaiibecniacabDoorRefCmp
namespace Go.Proofs.YtohaiibecniacabDoor
open Go.RowKit

set_option maxHeartbeats 2000000 in
theorem compares_ok {la ya ma da ha ia sa pa ga oa : Int} {za : Bool} {lb yb mb db hb ib sb pb gb ob : Int} {zb : Bool} (hra : rightB la ya ma da ha ia sa pa ga oa za = true) (hrb : rightB lb yb mb db hb ib sb pb gb ob zb = true) (w : World) (hM : Months w) :
    Calls Tryd.prog 6 #[.agg #[.int .i64 la, .int .i64 ya, .int .i64 ma, .int .i64 da, .int .i64 ha, .int .i64 ia, .int .i64 sa, .int .i64 pa, .int .i64 ga, .bool za, .int .i64 oa], .agg #[.int .i64 lb, .int .i64 yb, .int .i64 mb, .int .i64 db, .int .i64 hb, .int .i64 ib, .int .i64 sb, .int .i64 pb, .int .i64 gb, .bool zb, .int .i64 ob]] w fun e w' => e = .returned (.bool true) ∧ Below w.heap.size w w' := by
  have HM : Hid (Months ((w.alloc (.cells #[.int .i64 la, .int .i64 ya, .int .i64 ma, .int .i64 da, .int .i64 ha, .int .i64 ia, .int .i64 sa, .int .i64 pa, .int .i64 ga, .bool za, .int .i64 oa] 31)).alloc (.cells #[.int .i64 lb, .int .i64 yb, .int .i64 mb, .int .i64 db, .int .i64 hb, .int .i64 ib, .int .i64 sb, .int .i64 pb, .int .i64 gb, .bool zb, .int .i64 ob] 31))) := months_alloc (months_alloc hM _) _
  have HA : Hid (rightB la ya ma da ha ia sa pa ga oa za = true) := hra
  have HR : Hid (rightB lb yb mb db hb ib sb pb gb ob zb = true) := hrb
  clear hra hrb hM
  go_enter Tryd.func6, Tryd.ntmps6
  go_wp2_with fail
  refine (Compare_ok HA.out HR.out _ (months_below HM.out (Below.refl _ _))).mono ?_
  rintro e w1 ⟨rfl, hb1⟩
  have HB1 : Hid (Below ((w.alloc (.cells #[.int .i64 la, .int .i64 ya, .int .i64 ma, .int .i64 da, .int .i64 ha, .int .i64 ia, .int .i64 sa, .int .i64 pa, .int .i64 ga, .bool za, .int .i64 oa] 31)).alloc (.cells #[.int .i64 lb, .int .i64 yb, .int .i64 mb, .int .i64 db, .int .i64 hb, .int .i64 ib, .int .i64 sb, .int .i64 pb, .int .i64 gb, .bool zb, .int .i64 ob] 31)).heap.size ((w.alloc (.cells #[.int .i64 la, .int .i64 ya, .int .i64 ma, .int .i64 da, .int .i64 ha, .int .i64 ia, .int .i64 sa, .int .i64 pa, .int .i64 ga, .bool za, .int .i64 oa] 31)).alloc (.cells #[.int .i64 lb, .int .i64 yb, .int .i64 mb, .int .i64 db, .int .i64 hb, .int .i64 ib, .int .i64 sb, .int .i64 pb, .int .i64 gb, .bool zb, .int .i64 ob] 31)) w1) := hb1
  clear hb1
  obtain ⟨hc, hf⟩ := bcell HB1.out
  go_wp2_with fail
  refine (refCompare_ok HA.out HR.out _).mono ?_
  rintro e w2 ⟨rfl, hb2⟩
  have HB2 : Hid (Below ((w.alloc (.cells #[.int .i64 la, .int .i64 ya, .int .i64 ma, .int .i64 da, .int .i64 ha, .int .i64 ia, .int .i64 sa, .int .i64 pa, .int .i64 ga, .bool za, .int .i64 oa] 31)).alloc (.cells #[.int .i64 lb, .int .i64 yb, .int .i64 mb, .int .i64 db, .int .i64 hb, .int .i64 ib, .int .i64 sb, .int .i64 pb, .int .i64 gb, .bool zb, .int .i64 ob] 31)).heap.size ((w.alloc (.cells #[.int .i64 la, .int .i64 ya, .int .i64 ma, .int .i64 da, .int .i64 ha, .int .i64 ia, .int .i64 sa, .int .i64 pa, .int .i64 ga, .bool za, .int .i64 oa] 31)).alloc (.cells #[.int .i64 lb, .int .i64 yb, .int .i64 mb, .int .i64 db, .int .i64 hb, .int .i64 ib, .int .i64 sb, .int .i64 pb, .int .i64 gb, .bool zb, .int .i64 ob] 31)) w2) := below_then HB1.out hb2
  clear hb2 hc hf
  obtain ⟨hc, hf⟩ := bcell HB2.out
  go_wp2_with fail
  refine (Ticks_ok HA.out HR.out _ (months_below HM.out (HB2.out))).mono ?_
  rintro e w3 ⟨rfl, hb3⟩
  have HB3 : Hid (Below ((w.alloc (.cells #[.int .i64 la, .int .i64 ya, .int .i64 ma, .int .i64 da, .int .i64 ha, .int .i64 ia, .int .i64 sa, .int .i64 pa, .int .i64 ga, .bool za, .int .i64 oa] 31)).alloc (.cells #[.int .i64 lb, .int .i64 yb, .int .i64 mb, .int .i64 db, .int .i64 hb, .int .i64 ib, .int .i64 sb, .int .i64 pb, .int .i64 gb, .bool zb, .int .i64 ob] 31)).heap.size ((w.alloc (.cells #[.int .i64 la, .int .i64 ya, .int .i64 ma, .int .i64 da, .int .i64 ha, .int .i64 ia, .int .i64 sa, .int .i64 pa, .int .i64 ga, .bool za, .int .i64 oa] 31)).alloc (.cells #[.int .i64 lb, .int .i64 yb, .int .i64 mb, .int .i64 db, .int .i64 hb, .int .i64 ib, .int .i64 sb, .int .i64 pb, .int .i64 gb, .bool zb, .int .i64 ob] 31)) w3) := below_then HB2.out hb3
  clear hb3 hc hf
  obtain ⟨hc, hf⟩ := bcell HB3.out
  go_wp2_with fail
  refine (refTicks_ok HA.out HR.out _).mono ?_
  rintro e w4 ⟨rfl, hb4⟩
  have HB4 : Hid (Below ((w.alloc (.cells #[.int .i64 la, .int .i64 ya, .int .i64 ma, .int .i64 da, .int .i64 ha, .int .i64 ia, .int .i64 sa, .int .i64 pa, .int .i64 ga, .bool za, .int .i64 oa] 31)).alloc (.cells #[.int .i64 lb, .int .i64 yb, .int .i64 mb, .int .i64 db, .int .i64 hb, .int .i64 ib, .int .i64 sb, .int .i64 pb, .int .i64 gb, .bool zb, .int .i64 ob] 31)).heap.size ((w.alloc (.cells #[.int .i64 la, .int .i64 ya, .int .i64 ma, .int .i64 da, .int .i64 ha, .int .i64 ia, .int .i64 sa, .int .i64 pa, .int .i64 ga, .bool za, .int .i64 oa] 31)).alloc (.cells #[.int .i64 lb, .int .i64 yb, .int .i64 mb, .int .i64 db, .int .i64 hb, .int .i64 ib, .int .i64 sb, .int .i64 pb, .int .i64 gb, .bool zb, .int .i64 ob] 31)) w4) := below_then HB3.out hb4
  clear hb4 hc hf
  obtain ⟨hc, hf⟩ := bcell HB4.out
  clear hc hf
  go_wp2_with (go_at_call 10; refine (isOk _ _).mono ?_; rintro e w' ⟨rfl, rfl⟩)
  go_ret
  exact ⟨rfl, below_two HB4.out⟩

set_option maxHeartbeats 2000000 in
theorem compares_0 {la ya ma da ha ia sa pa ga oa : Int} {za : Bool} {lb yb mb db hb ib sb pb gb ob : Int} {zb : Bool} (hra : rightB la ya ma da ha ia sa pa ga oa za = false) (w : World) (hM : Months w) (hE : ErrType w) :
    Calls Tryd.prog 6 #[.agg #[.int .i64 la, .int .i64 ya, .int .i64 ma, .int .i64 da, .int .i64 ha, .int .i64 ia, .int .i64 sa, .int .i64 pa, .int .i64 ga, .bool za, .int .i64 oa], .agg #[.int .i64 lb, .int .i64 yb, .int .i64 mb, .int .i64 db, .int .i64 hb, .int .i64 ib, .int .i64 sb, .int .i64 pb, .int .i64 gb, .bool zb, .int .i64 ob]] w fun e w' => e = .returned (.bool true) ∧ Below w.heap.size w w' := by
  have HM : Hid (Months ((w.alloc (.cells #[.int .i64 la, .int .i64 ya, .int .i64 ma, .int .i64 da, .int .i64 ha, .int .i64 ia, .int .i64 sa, .int .i64 pa, .int .i64 ga, .bool za, .int .i64 oa] 31)).alloc (.cells #[.int .i64 lb, .int .i64 yb, .int .i64 mb, .int .i64 db, .int .i64 hb, .int .i64 ib, .int .i64 sb, .int .i64 pb, .int .i64 gb, .bool zb, .int .i64 ob] 31))) := months_alloc (months_alloc hM _) _
  have HA : Hid (rightB la ya ma da ha ia sa pa ga oa za = false) := hra
  have HE : Hid (ErrType w) := hE
  clear hra hM hE
  go_enter Tryd.func6, Tryd.ntmps6
  go_wp2_with fail
  refine (Compare_0 HA.out _ (months_below HM.out (Below.refl _ _))).mono ?_
  rintro e w1 ⟨⟨b1, rfl, f1⟩, hb1⟩
  have HB1 : Hid (Below ((w.alloc (.cells #[.int .i64 la, .int .i64 ya, .int .i64 ma, .int .i64 da, .int .i64 ha, .int .i64 ia, .int .i64 sa, .int .i64 pa, .int .i64 ga, .bool za, .int .i64 oa] 31)).alloc (.cells #[.int .i64 lb, .int .i64 yb, .int .i64 mb, .int .i64 db, .int .i64 hb, .int .i64 ib, .int .i64 sb, .int .i64 pb, .int .i64 gb, .bool zb, .int .i64 ob] 31)).heap.size ((w.alloc (.cells #[.int .i64 la, .int .i64 ya, .int .i64 ma, .int .i64 da, .int .i64 ha, .int .i64 ia, .int .i64 sa, .int .i64 pa, .int .i64 ga, .bool za, .int .i64 oa] 31)).alloc (.cells #[.int .i64 lb, .int .i64 yb, .int .i64 mb, .int .i64 db, .int .i64 hb, .int .i64 ib, .int .i64 sb, .int .i64 pb, .int .i64 gb, .bool zb, .int .i64 ob] 31)) w1) := hb1
  have HF1_1 : Hid (FaultAt w1 b1 0 20) := f1
  clear f1
  clear hb1
  obtain ⟨hc, hf⟩ := bcell HB1.out
  go_wp2_with fail
  refine (refCompare_0 HA.out _).mono ?_
  rintro e w2 ⟨rfl, hb2⟩
  have HB2 : Hid (Below ((w.alloc (.cells #[.int .i64 la, .int .i64 ya, .int .i64 ma, .int .i64 da, .int .i64 ha, .int .i64 ia, .int .i64 sa, .int .i64 pa, .int .i64 ga, .bool za, .int .i64 oa] 31)).alloc (.cells #[.int .i64 lb, .int .i64 yb, .int .i64 mb, .int .i64 db, .int .i64 hb, .int .i64 ib, .int .i64 sb, .int .i64 pb, .int .i64 gb, .bool zb, .int .i64 ob] 31)).heap.size ((w.alloc (.cells #[.int .i64 la, .int .i64 ya, .int .i64 ma, .int .i64 da, .int .i64 ha, .int .i64 ia, .int .i64 sa, .int .i64 pa, .int .i64 ga, .bool za, .int .i64 oa] 31)).alloc (.cells #[.int .i64 lb, .int .i64 yb, .int .i64 mb, .int .i64 db, .int .i64 hb, .int .i64 ib, .int .i64 sb, .int .i64 pb, .int .i64 gb, .bool zb, .int .i64 ob] 31)) w2) := below_then HB1.out hb2
  have HF1_2 : Hid (FaultAt w2 b1 0 20) := faultAt_below HF1_1.out hb2
  clear hb2 hc hf
  obtain ⟨hc, hf⟩ := bcell HB2.out
  go_wp2_with fail
  refine (Ticks_0 HA.out _ (months_below HM.out (HB2.out))).mono ?_
  rintro e w3 ⟨⟨b3, rfl, f3⟩, hb3⟩
  have HB3 : Hid (Below ((w.alloc (.cells #[.int .i64 la, .int .i64 ya, .int .i64 ma, .int .i64 da, .int .i64 ha, .int .i64 ia, .int .i64 sa, .int .i64 pa, .int .i64 ga, .bool za, .int .i64 oa] 31)).alloc (.cells #[.int .i64 lb, .int .i64 yb, .int .i64 mb, .int .i64 db, .int .i64 hb, .int .i64 ib, .int .i64 sb, .int .i64 pb, .int .i64 gb, .bool zb, .int .i64 ob] 31)).heap.size ((w.alloc (.cells #[.int .i64 la, .int .i64 ya, .int .i64 ma, .int .i64 da, .int .i64 ha, .int .i64 ia, .int .i64 sa, .int .i64 pa, .int .i64 ga, .bool za, .int .i64 oa] 31)).alloc (.cells #[.int .i64 lb, .int .i64 yb, .int .i64 mb, .int .i64 db, .int .i64 hb, .int .i64 ib, .int .i64 sb, .int .i64 pb, .int .i64 gb, .bool zb, .int .i64 ob] 31)) w3) := below_then HB2.out hb3
  have HF1_3 : Hid (FaultAt w3 b1 0 20) := faultAt_below HF1_2.out hb3
  have HF3_3 : Hid (FaultAt w3 b3 0 20) := f3
  clear f3
  clear hb3 hc hf
  obtain ⟨hc, hf⟩ := bcell HB3.out
  go_wp2_with fail
  refine (refTicks_0 HA.out _).mono ?_
  rintro e w4 ⟨rfl, hb4⟩
  have HB4 : Hid (Below ((w.alloc (.cells #[.int .i64 la, .int .i64 ya, .int .i64 ma, .int .i64 da, .int .i64 ha, .int .i64 ia, .int .i64 sa, .int .i64 pa, .int .i64 ga, .bool za, .int .i64 oa] 31)).alloc (.cells #[.int .i64 lb, .int .i64 yb, .int .i64 mb, .int .i64 db, .int .i64 hb, .int .i64 ib, .int .i64 sb, .int .i64 pb, .int .i64 gb, .bool zb, .int .i64 ob] 31)).heap.size ((w.alloc (.cells #[.int .i64 la, .int .i64 ya, .int .i64 ma, .int .i64 da, .int .i64 ha, .int .i64 ia, .int .i64 sa, .int .i64 pa, .int .i64 ga, .bool za, .int .i64 oa] 31)).alloc (.cells #[.int .i64 lb, .int .i64 yb, .int .i64 mb, .int .i64 db, .int .i64 hb, .int .i64 ib, .int .i64 sb, .int .i64 pb, .int .i64 gb, .bool zb, .int .i64 ob] 31)) w4) := below_then HB3.out hb4
  have HF1_4 : Hid (FaultAt w4 b1 0 20) := faultAt_below HF1_3.out hb4
  have HF3_4 : Hid (FaultAt w4 b3 0 20) := faultAt_below HF3_3.out hb4
  clear hb4 hc hf
  obtain ⟨hc, hf⟩ := bcell HB4.out
  clear hc hf
  have HB5 : Hid (Below w.heap.size w w4) := below_two HB4.out
  go_wp2_with fail
  refine (isFault _ _ _ _ (by decide) (errType_below HE.out HB5.out) HF1_4.out).mono ?_
  rintro e w5 ⟨rfl, hb5⟩
  have HB6 : Hid (Below w.heap.size w w5) := below_then HB5.out hb5
  have HF5 : Hid (FaultAt w5 b3 0 20) := faultAt_below HF3_4.out hb5
  clear hb5
  go_wp2_with fail
  refine (isFault _ _ _ _ (by decide) (errType_below HE.out HB6.out) HF5.out).mono ?_
  rintro e w6 ⟨rfl, hb6⟩
  have HB7 : Hid (Below w.heap.size w w6) := below_then HB6.out hb6
  clear hb6
  go_wp2_with fail
  go_ret
  exact ⟨rfl, HB7.out⟩

set_option maxHeartbeats 2000000 in
theorem compares_1 {la ya ma da ha ia sa pa ga oa : Int} {za : Bool} {lb yb mb db hb ib sb pb gb ob : Int} {zb : Bool} (hra : rightB la ya ma da ha ia sa pa ga oa za = true) (hrb : rightB lb yb mb db hb ib sb pb gb ob zb = false) (w : World) (hM : Months w) (hE : ErrType w) :
    Calls Tryd.prog 6 #[.agg #[.int .i64 la, .int .i64 ya, .int .i64 ma, .int .i64 da, .int .i64 ha, .int .i64 ia, .int .i64 sa, .int .i64 pa, .int .i64 ga, .bool za, .int .i64 oa], .agg #[.int .i64 lb, .int .i64 yb, .int .i64 mb, .int .i64 db, .int .i64 hb, .int .i64 ib, .int .i64 sb, .int .i64 pb, .int .i64 gb, .bool zb, .int .i64 ob]] w fun e w' => e = .returned (.bool true) ∧ Below w.heap.size w w' := by
  have HM : Hid (Months ((w.alloc (.cells #[.int .i64 la, .int .i64 ya, .int .i64 ma, .int .i64 da, .int .i64 ha, .int .i64 ia, .int .i64 sa, .int .i64 pa, .int .i64 ga, .bool za, .int .i64 oa] 31)).alloc (.cells #[.int .i64 lb, .int .i64 yb, .int .i64 mb, .int .i64 db, .int .i64 hb, .int .i64 ib, .int .i64 sb, .int .i64 pb, .int .i64 gb, .bool zb, .int .i64 ob] 31))) := months_alloc (months_alloc hM _) _
  have HA : Hid (rightB la ya ma da ha ia sa pa ga oa za = true) := hra
  have HR : Hid (rightB lb yb mb db hb ib sb pb gb ob zb = false) := hrb
  clear hrb
  have HE : Hid (ErrType w) := hE
  clear hra hM hE
  go_enter Tryd.func6, Tryd.ntmps6
  go_wp2_with fail
  refine (Compare_1 HA.out HR.out _ (months_below HM.out (Below.refl _ _))).mono ?_
  rintro e w1 ⟨⟨b1, rfl, f1⟩, hb1⟩
  have HB1 : Hid (Below ((w.alloc (.cells #[.int .i64 la, .int .i64 ya, .int .i64 ma, .int .i64 da, .int .i64 ha, .int .i64 ia, .int .i64 sa, .int .i64 pa, .int .i64 ga, .bool za, .int .i64 oa] 31)).alloc (.cells #[.int .i64 lb, .int .i64 yb, .int .i64 mb, .int .i64 db, .int .i64 hb, .int .i64 ib, .int .i64 sb, .int .i64 pb, .int .i64 gb, .bool zb, .int .i64 ob] 31)).heap.size ((w.alloc (.cells #[.int .i64 la, .int .i64 ya, .int .i64 ma, .int .i64 da, .int .i64 ha, .int .i64 ia, .int .i64 sa, .int .i64 pa, .int .i64 ga, .bool za, .int .i64 oa] 31)).alloc (.cells #[.int .i64 lb, .int .i64 yb, .int .i64 mb, .int .i64 db, .int .i64 hb, .int .i64 ib, .int .i64 sb, .int .i64 pb, .int .i64 gb, .bool zb, .int .i64 ob] 31)) w1) := hb1
  have HF1_1 : Hid (FaultAt w1 b1 1 20) := f1
  clear f1
  clear hb1
  obtain ⟨hc, hf⟩ := bcell HB1.out
  go_wp2_with fail
  refine (refCompare_1 HA.out HR.out _).mono ?_
  rintro e w2 ⟨rfl, hb2⟩
  have HB2 : Hid (Below ((w.alloc (.cells #[.int .i64 la, .int .i64 ya, .int .i64 ma, .int .i64 da, .int .i64 ha, .int .i64 ia, .int .i64 sa, .int .i64 pa, .int .i64 ga, .bool za, .int .i64 oa] 31)).alloc (.cells #[.int .i64 lb, .int .i64 yb, .int .i64 mb, .int .i64 db, .int .i64 hb, .int .i64 ib, .int .i64 sb, .int .i64 pb, .int .i64 gb, .bool zb, .int .i64 ob] 31)).heap.size ((w.alloc (.cells #[.int .i64 la, .int .i64 ya, .int .i64 ma, .int .i64 da, .int .i64 ha, .int .i64 ia, .int .i64 sa, .int .i64 pa, .int .i64 ga, .bool za, .int .i64 oa] 31)).alloc (.cells #[.int .i64 lb, .int .i64 yb, .int .i64 mb, .int .i64 db, .int .i64 hb, .int .i64 ib, .int .i64 sb, .int .i64 pb, .int .i64 gb, .bool zb, .int .i64 ob] 31)) w2) := below_then HB1.out hb2
  have HF1_2 : Hid (FaultAt w2 b1 1 20) := faultAt_below HF1_1.out hb2
  clear hb2 hc hf
  obtain ⟨hc, hf⟩ := bcell HB2.out
  go_wp2_with fail
  refine (Ticks_1 HA.out HR.out _ (months_below HM.out (HB2.out))).mono ?_
  rintro e w3 ⟨⟨b3, rfl, f3⟩, hb3⟩
  have HB3 : Hid (Below ((w.alloc (.cells #[.int .i64 la, .int .i64 ya, .int .i64 ma, .int .i64 da, .int .i64 ha, .int .i64 ia, .int .i64 sa, .int .i64 pa, .int .i64 ga, .bool za, .int .i64 oa] 31)).alloc (.cells #[.int .i64 lb, .int .i64 yb, .int .i64 mb, .int .i64 db, .int .i64 hb, .int .i64 ib, .int .i64 sb, .int .i64 pb, .int .i64 gb, .bool zb, .int .i64 ob] 31)).heap.size ((w.alloc (.cells #[.int .i64 la, .int .i64 ya, .int .i64 ma, .int .i64 da, .int .i64 ha, .int .i64 ia, .int .i64 sa, .int .i64 pa, .int .i64 ga, .bool za, .int .i64 oa] 31)).alloc (.cells #[.int .i64 lb, .int .i64 yb, .int .i64 mb, .int .i64 db, .int .i64 hb, .int .i64 ib, .int .i64 sb, .int .i64 pb, .int .i64 gb, .bool zb, .int .i64 ob] 31)) w3) := below_then HB2.out hb3
  have HF1_3 : Hid (FaultAt w3 b1 1 20) := faultAt_below HF1_2.out hb3
  have HF3_3 : Hid (FaultAt w3 b3 1 20) := f3
  clear f3
  clear hb3 hc hf
  obtain ⟨hc, hf⟩ := bcell HB3.out
  go_wp2_with fail
  refine (refTicks_1 HA.out HR.out _).mono ?_
  rintro e w4 ⟨rfl, hb4⟩
  have HB4 : Hid (Below ((w.alloc (.cells #[.int .i64 la, .int .i64 ya, .int .i64 ma, .int .i64 da, .int .i64 ha, .int .i64 ia, .int .i64 sa, .int .i64 pa, .int .i64 ga, .bool za, .int .i64 oa] 31)).alloc (.cells #[.int .i64 lb, .int .i64 yb, .int .i64 mb, .int .i64 db, .int .i64 hb, .int .i64 ib, .int .i64 sb, .int .i64 pb, .int .i64 gb, .bool zb, .int .i64 ob] 31)).heap.size ((w.alloc (.cells #[.int .i64 la, .int .i64 ya, .int .i64 ma, .int .i64 da, .int .i64 ha, .int .i64 ia, .int .i64 sa, .int .i64 pa, .int .i64 ga, .bool za, .int .i64 oa] 31)).alloc (.cells #[.int .i64 lb, .int .i64 yb, .int .i64 mb, .int .i64 db, .int .i64 hb, .int .i64 ib, .int .i64 sb, .int .i64 pb, .int .i64 gb, .bool zb, .int .i64 ob] 31)) w4) := below_then HB3.out hb4
  have HF1_4 : Hid (FaultAt w4 b1 1 20) := faultAt_below HF1_3.out hb4
  have HF3_4 : Hid (FaultAt w4 b3 1 20) := faultAt_below HF3_3.out hb4
  clear hb4 hc hf
  obtain ⟨hc, hf⟩ := bcell HB4.out
  clear hc hf
  have HB5 : Hid (Below w.heap.size w w4) := below_two HB4.out
  go_wp2_with fail
  refine (isFault _ _ _ _ (by decide) (errType_below HE.out HB5.out) HF1_4.out).mono ?_
  rintro e w5 ⟨rfl, hb5⟩
  have HB6 : Hid (Below w.heap.size w w5) := below_then HB5.out hb5
  have HF5 : Hid (FaultAt w5 b3 1 20) := faultAt_below HF3_4.out hb5
  clear hb5
  go_wp2_with fail
  refine (isFault _ _ _ _ (by decide) (errType_below HE.out HB6.out) HF5.out).mono ?_
  rintro e w6 ⟨rfl, hb6⟩
  have HB7 : Hid (Below w.heap.size w w6) := below_then HB6.out hb6
  clear hb6
  go_wp2_with fail
  go_ret
  exact ⟨rfl, HB7.out⟩

theorem compares_any (la ya ma da ha ia sa pa ga oa : Int) (za : Bool) (lb yb mb db hb ib sb pb gb ob : Int) (zb : Bool) (w : World) (hM : Months w) (hE : ErrType w) :
    Calls Tryd.prog 6 #[.agg #[.int .i64 la, .int .i64 ya, .int .i64 ma, .int .i64 da, .int .i64 ha, .int .i64 ia, .int .i64 sa, .int .i64 pa, .int .i64 ga, .bool za, .int .i64 oa], .agg #[.int .i64 lb, .int .i64 yb, .int .i64 mb, .int .i64 db, .int .i64 hb, .int .i64 ib, .int .i64 sb, .int .i64 pb, .int .i64 gb, .bool zb, .int .i64 ob]] w fun e w' => e = .returned (.bool true) ∧ Below w.heap.size w w' := by
  cases hra : rightB la ya ma da ha ia sa pa ga oa za with
  | false => exact compares_0 hra w hM hE
  | true =>
    cases hrb : rightB lb yb mb db hb ib sb pb gb ob zb with
    | false => exact compares_1 hra hrb w hM hE
    | true => exact compares_ok hra hrb w hM
end Go.Proofs.YtohaiibecniacabDoor
