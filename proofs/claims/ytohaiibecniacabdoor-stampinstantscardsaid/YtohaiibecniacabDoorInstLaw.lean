/-
  The law StampInstants, walked.
-/
import Derived.Test.YtohaiibecniacabDoorInst4
namespace Go.Proofs.YtohaiibecniacabDoor
open Go.RowKit

set_option maxHeartbeats 1000000 in
theorem instants_ok {lv y mo d h mi s p dg zn : Int} {z : Bool} (hr : rightB lv y mo d h mi s p dg zn z = true) (w : World) (hM : Months w) :
    Calls Tryd.prog 5 #[.agg #[.int .i64 lv, .int .i64 y, .int .i64 mo, .int .i64 d, .int .i64 h, .int .i64 mi, .int .i64 s, .int .i64 p, .int .i64 dg, .bool z, .int .i64 zn]] w fun e w' => e = .returned (.bool true) ∧ Below w.heap.size w w' := by
  have HR : Hid (rightB lv y mo d h mi s p dg zn z = true) := hr
  have HM : Hid (Months w) := hM
  clear hr hM
  go_enter Tryd.func5, Tryd.ntmps5
  go_wp2_with fail
  refine (Instant_ok HR.out _ (months_alloc HM.out _)).mono ?_
  rintro e w1 ⟨rfl, hb1⟩
  obtain ⟨hc, hf⟩ := bcell hb1
  have HB1 : Hid (Below (w.alloc (.cells #[.int .i64 lv, .int .i64 y, .int .i64 mo, .int .i64 d, .int .i64 h, .int .i64 mi, .int .i64 s, .int .i64 p, .int .i64 dg, .bool z, .int .i64 zn] 31)).heap.size (w.alloc (.cells #[.int .i64 lv, .int .i64 y, .int .i64 mo, .int .i64 d, .int .i64 h, .int .i64 mi, .int .i64 s, .int .i64 p, .int .i64 dg, .bool z, .int .i64 zn] 31)) w1) := hb1
  clear hb1
  go_wp2_with fail
  refine (refInstant_ok HR.out _).mono ?_
  rintro e w2 ⟨rfl, hb2⟩
  have HB2 : Hid (Below (w.alloc (.cells #[.int .i64 lv, .int .i64 y, .int .i64 mo, .int .i64 d, .int .i64 h, .int .i64 mi, .int .i64 s, .int .i64 p, .int .i64 dg, .bool z, .int .i64 zn] 31)).heap.size (w.alloc (.cells #[.int .i64 lv, .int .i64 y, .int .i64 mo, .int .i64 d, .int .i64 h, .int .i64 mi, .int .i64 s, .int .i64 p, .int .i64 dg, .bool z, .int .i64 zn] 31)) w2) := below_then HB1.out hb2
  clear hb2 hc hf
  obtain ⟨hc, hf⟩ := bcell HB2.out
  go_wp2_with fail
  refine (Span_ok HR.out _ (months_below HM.out (below_step (Below.refl _ _) HB2.out))).mono ?_
  rintro e w3 ⟨rfl, hb3⟩
  have HB3 : Hid (Below (w.alloc (.cells #[.int .i64 lv, .int .i64 y, .int .i64 mo, .int .i64 d, .int .i64 h, .int .i64 mi, .int .i64 s, .int .i64 p, .int .i64 dg, .bool z, .int .i64 zn] 31)).heap.size (w.alloc (.cells #[.int .i64 lv, .int .i64 y, .int .i64 mo, .int .i64 d, .int .i64 h, .int .i64 mi, .int .i64 s, .int .i64 p, .int .i64 dg, .bool z, .int .i64 zn] 31)) w3) := below_then HB2.out hb3
  clear hb3 hc hf
  obtain ⟨hc, hf⟩ := bcell HB3.out
  go_wp2_with fail
  refine (refSpan_ok HR.out _).mono ?_
  rintro e w4 ⟨rfl, hb4⟩
  have HB4 : Hid (Below (w.alloc (.cells #[.int .i64 lv, .int .i64 y, .int .i64 mo, .int .i64 d, .int .i64 h, .int .i64 mi, .int .i64 s, .int .i64 p, .int .i64 dg, .bool z, .int .i64 zn] 31)).heap.size (w.alloc (.cells #[.int .i64 lv, .int .i64 y, .int .i64 mo, .int .i64 d, .int .i64 h, .int .i64 mi, .int .i64 s, .int .i64 p, .int .i64 dg, .bool z, .int .i64 zn] 31)) w4) := below_then HB3.out hb4
  clear hb4 hc hf
  go_wp2_with (go_at_call 10; refine (isOk _ _).mono ?_; rintro e w' ⟨rfl, rfl⟩)
  go_ret
  exact ⟨rfl, below_step (Below.refl _ _) HB4.out⟩

set_option maxHeartbeats 1000000 in
theorem instants_bad {lv y mo d h mi s p dg zn : Int} {z : Bool} (hr : rightB lv y mo d h mi s p dg zn z = false) (w : World) (hM : Months w) (hE : ErrType w) :
    Calls Tryd.prog 5 #[.agg #[.int .i64 lv, .int .i64 y, .int .i64 mo, .int .i64 d, .int .i64 h, .int .i64 mi, .int .i64 s, .int .i64 p, .int .i64 dg, .bool z, .int .i64 zn]] w fun e w' => e = .returned (.bool true) ∧ Below w.heap.size w w' := by
  have HR : Hid (rightB lv y mo d h mi s p dg zn z = false) := hr
  have HM : Hid (Months w) := hM
  have HE : Hid (ErrType w) := hE
  clear hr hM hE
  go_enter Tryd.func5, Tryd.ntmps5
  go_wp2_with fail
  refine (Instant_bad HR.out _ (months_alloc HM.out _)).mono ?_
  rintro e w1 ⟨⟨b1, rfl, f1⟩, hb1⟩
  obtain ⟨hc, hf⟩ := bcell hb1
  have HB1 : Hid (Below (w.alloc (.cells #[.int .i64 lv, .int .i64 y, .int .i64 mo, .int .i64 d, .int .i64 h, .int .i64 mi, .int .i64 s, .int .i64 p, .int .i64 dg, .bool z, .int .i64 zn] 31)).heap.size (w.alloc (.cells #[.int .i64 lv, .int .i64 y, .int .i64 mo, .int .i64 d, .int .i64 h, .int .i64 mi, .int .i64 s, .int .i64 p, .int .i64 dg, .bool z, .int .i64 zn] 31)) w1) := hb1
  have HF1 : Hid (FaultAt w1 b1 0 20) := f1
  clear hb1 f1
  go_wp2_with fail
  refine (refInstant_bad HR.out _).mono ?_
  rintro e w2 ⟨rfl, hb2⟩
  have HB2 : Hid (Below (w.alloc (.cells #[.int .i64 lv, .int .i64 y, .int .i64 mo, .int .i64 d, .int .i64 h, .int .i64 mi, .int .i64 s, .int .i64 p, .int .i64 dg, .bool z, .int .i64 zn] 31)).heap.size (w.alloc (.cells #[.int .i64 lv, .int .i64 y, .int .i64 mo, .int .i64 d, .int .i64 h, .int .i64 mi, .int .i64 s, .int .i64 p, .int .i64 dg, .bool z, .int .i64 zn] 31)) w2) := below_then HB1.out hb2
  have HF2 : Hid (FaultAt w2 b1 0 20) := faultAt_below HF1.out hb2
  clear hb2 hc hf
  obtain ⟨hc, hf⟩ := bcell HB2.out
  go_wp2_with fail
  refine (Span_bad HR.out _ (months_below HM.out (below_step (Below.refl _ _) HB2.out))).mono ?_
  rintro e w3 ⟨⟨b2, rfl, g3⟩, hb3⟩
  have HB3 : Hid (Below (w.alloc (.cells #[.int .i64 lv, .int .i64 y, .int .i64 mo, .int .i64 d, .int .i64 h, .int .i64 mi, .int .i64 s, .int .i64 p, .int .i64 dg, .bool z, .int .i64 zn] 31)).heap.size (w.alloc (.cells #[.int .i64 lv, .int .i64 y, .int .i64 mo, .int .i64 d, .int .i64 h, .int .i64 mi, .int .i64 s, .int .i64 p, .int .i64 dg, .bool z, .int .i64 zn] 31)) w3) := below_then HB2.out hb3
  have HF3 : Hid (FaultAt w3 b1 0 20) := faultAt_below HF2.out hb3
  have HG3 : Hid (FaultAt w3 b2 0 20) := g3
  clear hb3 hc hf g3
  obtain ⟨hc, hf⟩ := bcell HB3.out
  go_wp2_with fail
  refine (refSpan_bad HR.out _).mono ?_
  rintro e w4 ⟨rfl, hb4⟩
  have HB4 : Hid (Below w.heap.size w w4) := below_step (Below.refl _ _) (below_then HB3.out hb4)
  have HF4 : Hid (FaultAt w4 b1 0 20) := faultAt_below HF3.out hb4
  have HG4 : Hid (FaultAt w4 b2 0 20) := faultAt_below HG3.out hb4
  clear hb4 hc hf
  go_wp2_with fail
  refine (isFault _ _ _ _ (by decide) (errType_below HE.out HB4.out) HF4.out).mono ?_
  rintro e w5 ⟨rfl, hb5⟩
  have HB5 : Hid (Below w.heap.size w w5) := below_then HB4.out hb5
  have HG5 : Hid (FaultAt w5 b2 0 20) := faultAt_below HG4.out hb5
  clear hb5
  go_wp2_with fail
  refine (isFault _ _ _ _ (by decide) (errType_below HE.out HB5.out) HG5.out).mono ?_
  rintro e w6 ⟨rfl, hb6⟩
  have HB6 : Hid (Below w.heap.size w w6) := below_then HB5.out hb6
  clear hb6
  go_wp2_with fail
  go_ret
  exact ⟨rfl, HB6.out⟩

theorem instants_any (lv y mo d h mi s p dg zn : Int) (z : Bool) (w : World) (hM : Months w) (hE : ErrType w) :
    Calls Tryd.prog 5 #[.agg #[.int .i64 lv, .int .i64 y, .int .i64 mo, .int .i64 d, .int .i64 h, .int .i64 mi, .int .i64 s, .int .i64 p, .int .i64 dg, .bool z, .int .i64 zn]] w fun e w' => e = .returned (.bool true) ∧ Below w.heap.size w w' := by
  cases hr : rightB lv y mo d h mi s p dg zn z with
  | true => exact instants_ok hr w hM
  | false => exact instants_bad hr w hM hE
end Go.Proofs.YtohaiibecniacabDoor
