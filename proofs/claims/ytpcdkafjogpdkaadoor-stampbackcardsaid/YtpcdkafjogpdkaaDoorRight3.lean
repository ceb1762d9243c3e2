/-
  A Stamp is right: the program's 'right' and the reference's 'Right' answer one Bool function of its numbers.
-/
import Derived.Test.YtpcdkafjogpdkaaDoorRight2
namespace Go.Proofs.YtpcdkafjogpdkaaDoor
open Go.RowKit

theorem rightDate_is {lv y mo d h mi s p dg zn : Int} {z : Bool} {b : Bool} (hb : dateB lv y mo d = b) (w : World) (hM : Months w) :
    Calls Tryd.prog 39 #[.agg #[.int .i64 lv, .int .i64 y, .int .i64 mo, .int .i64 d, .int .i64 h, .int .i64 mi, .int .i64 s, .int .i64 p, .int .i64 dg, .bool z, .int .i64 zn]] w fun e w' => e = .returned (.bool b) ∧ Below w.heap.size w w' := by rw [← hb]; exact rightDate_any lv y mo d h mi s p dg zn z w hM
theorem rightClock_is {lv y mo d h mi s p dg zn : Int} {z : Bool} {b : Bool} (hb : clockB lv h mi s = b) (w : World) :
    Calls Tryd.prog 40 #[.agg #[.int .i64 lv, .int .i64 y, .int .i64 mo, .int .i64 d, .int .i64 h, .int .i64 mi, .int .i64 s, .int .i64 p, .int .i64 dg, .bool z, .int .i64 zn]] w fun e w' => e = .returned (.bool b) ∧ Below w.heap.size w w' := by rw [← hb]; exact rightClock_any lv y mo d h mi s p dg zn z w
theorem rightPart_is {lv y mo d h mi s p dg zn : Int} {z : Bool} {b : Bool} (hb : partB lv p dg = b) (w : World) :
    Calls Tryd.prog 41 #[.agg #[.int .i64 lv, .int .i64 y, .int .i64 mo, .int .i64 d, .int .i64 h, .int .i64 mi, .int .i64 s, .int .i64 p, .int .i64 dg, .bool z, .int .i64 zn]] w fun e w' => e = .returned (.bool b) ∧ Below w.heap.size w w' := by rw [← hb]; exact rightPart_any lv y mo d h mi s p dg zn z w
theorem rightZone_is {lv y mo d h mi s p dg zn : Int} {z : Bool} {b : Bool} (hb : zoneB z zn = b) (w : World) :
    Calls Tryd.prog 42 #[.agg #[.int .i64 lv, .int .i64 y, .int .i64 mo, .int .i64 d, .int .i64 h, .int .i64 mi, .int .i64 s, .int .i64 p, .int .i64 dg, .bool z, .int .i64 zn]] w fun e w' => e = .returned (.bool b) ∧ Below w.heap.size w w' := by rw [← hb]; exact rightZone_any lv y mo d h mi s p dg zn z w

set_option maxHeartbeats 1000000 in
theorem right_any (lv y mo d h mi s p dg zn : Int) (z : Bool) (w : World) (hM : Months w) :
    Calls Tryd.prog 21 #[.agg #[.int .i64 lv, .int .i64 y, .int .i64 mo, .int .i64 d, .int .i64 h, .int .i64 mi, .int .i64 s, .int .i64 p, .int .i64 dg, .bool z, .int .i64 zn]] w fun e w' => e = .returned (.bool (rightB lv y mo d h mi s p dg zn z)) ∧ Below w.heap.size w w' := by
  have HM : Hid (Months w) := hM
  obtain ⟨b4, h4⟩ : ∃ b, zoneB z zn = b := ⟨_, rfl⟩
  clear hM
  cases h1 : dateB lv y mo d with
  | false =>
    go_enter Tryd.func21, Tryd.ntmps21
    go_wp2_with fail
    refine (rightDate_is h1 _ (months_alloc HM.out _)).mono ?_
    rintro e w1 ⟨rfl, hb1⟩
    have HB1 : Hid (Below (w.alloc (.cells #[.int .i64 lv, .int .i64 y, .int .i64 mo, .int .i64 d, .int .i64 h, .int .i64 mi, .int .i64 s, .int .i64 p, .int .i64 dg, .bool z, .int .i64 zn] 23)).heap.size (w.alloc (.cells #[.int .i64 lv, .int .i64 y, .int .i64 mo, .int .i64 d, .int .i64 h, .int .i64 mi, .int .i64 s, .int .i64 p, .int .i64 dg, .bool z, .int .i64 zn] 23)) w1) := hb1
    clear hb1
    obtain ⟨hc1, hf1⟩ := bcell HB1.out
    go_wp2
    go_ret
    exact ⟨ret_bool (by unfold rightB; rw [h1]; simp), (below_box _ _).trans (HB1.out.mono (by simp))⟩
  | true =>
    cases h2 : clockB lv h mi s with
    | false =>
      go_enter Tryd.func21, Tryd.ntmps21
      go_wp2_with fail
      refine (rightDate_is h1 _ (months_alloc HM.out _)).mono ?_
      rintro e w1 ⟨rfl, hb1⟩
      have HB1 : Hid (Below (w.alloc (.cells #[.int .i64 lv, .int .i64 y, .int .i64 mo, .int .i64 d, .int .i64 h, .int .i64 mi, .int .i64 s, .int .i64 p, .int .i64 dg, .bool z, .int .i64 zn] 23)).heap.size (w.alloc (.cells #[.int .i64 lv, .int .i64 y, .int .i64 mo, .int .i64 d, .int .i64 h, .int .i64 mi, .int .i64 s, .int .i64 p, .int .i64 dg, .bool z, .int .i64 zn] 23)) w1) := hb1
      clear hb1
      obtain ⟨hc1, hf1⟩ := bcell HB1.out
      go_wp2_with fail
      refine (rightClock_is h2 _).mono ?_
      rintro e w2 ⟨rfl, hb2⟩
      have HB2 : Hid (Below (w.alloc (.cells #[.int .i64 lv, .int .i64 y, .int .i64 mo, .int .i64 d, .int .i64 h, .int .i64 mi, .int .i64 s, .int .i64 p, .int .i64 dg, .bool z, .int .i64 zn] 23)).heap.size (w.alloc (.cells #[.int .i64 lv, .int .i64 y, .int .i64 mo, .int .i64 d, .int .i64 h, .int .i64 mi, .int .i64 s, .int .i64 p, .int .i64 dg, .bool z, .int .i64 zn] 23)) w2) := below_then HB1.out hb2
      clear hb2 hc1 hf1
      obtain ⟨hc2, hf2⟩ := bcell HB2.out
      go_wp2
      go_ret
      exact ⟨ret_bool (by unfold rightB; rw [h2]; simp), (below_box _ _).trans (HB2.out.mono (by simp))⟩
    | true =>
      cases h3 : partB lv p dg with
      | false =>
        go_enter Tryd.func21, Tryd.ntmps21
        go_wp2_with fail
        refine (rightDate_is h1 _ (months_alloc HM.out _)).mono ?_
        rintro e w1 ⟨rfl, hb1⟩
        have HB1 : Hid (Below (w.alloc (.cells #[.int .i64 lv, .int .i64 y, .int .i64 mo, .int .i64 d, .int .i64 h, .int .i64 mi, .int .i64 s, .int .i64 p, .int .i64 dg, .bool z, .int .i64 zn] 23)).heap.size (w.alloc (.cells #[.int .i64 lv, .int .i64 y, .int .i64 mo, .int .i64 d, .int .i64 h, .int .i64 mi, .int .i64 s, .int .i64 p, .int .i64 dg, .bool z, .int .i64 zn] 23)) w1) := hb1
        clear hb1
        obtain ⟨hc1, hf1⟩ := bcell HB1.out
        go_wp2_with fail
        refine (rightClock_is h2 _).mono ?_
        rintro e w2 ⟨rfl, hb2⟩
        have HB2 : Hid (Below (w.alloc (.cells #[.int .i64 lv, .int .i64 y, .int .i64 mo, .int .i64 d, .int .i64 h, .int .i64 mi, .int .i64 s, .int .i64 p, .int .i64 dg, .bool z, .int .i64 zn] 23)).heap.size (w.alloc (.cells #[.int .i64 lv, .int .i64 y, .int .i64 mo, .int .i64 d, .int .i64 h, .int .i64 mi, .int .i64 s, .int .i64 p, .int .i64 dg, .bool z, .int .i64 zn] 23)) w2) := below_then HB1.out hb2
        clear hb2 hc1 hf1
        obtain ⟨hc2, hf2⟩ := bcell HB2.out
        go_wp2_with fail
        refine (rightPart_is h3 _).mono ?_
        rintro e w3 ⟨rfl, hb3⟩
        have HB3 : Hid (Below (w.alloc (.cells #[.int .i64 lv, .int .i64 y, .int .i64 mo, .int .i64 d, .int .i64 h, .int .i64 mi, .int .i64 s, .int .i64 p, .int .i64 dg, .bool z, .int .i64 zn] 23)).heap.size (w.alloc (.cells #[.int .i64 lv, .int .i64 y, .int .i64 mo, .int .i64 d, .int .i64 h, .int .i64 mi, .int .i64 s, .int .i64 p, .int .i64 dg, .bool z, .int .i64 zn] 23)) w3) := below_then HB2.out hb3
        clear hb3 hc2 hf2
        obtain ⟨hc3, hf3⟩ := bcell HB3.out
        go_wp2
        go_ret
        exact ⟨ret_bool (by unfold rightB; rw [h3]; simp), (below_box _ _).trans (HB3.out.mono (by simp))⟩
      | true =>
        go_enter Tryd.func21, Tryd.ntmps21
        go_wp2_with fail
        refine (rightDate_is h1 _ (months_alloc HM.out _)).mono ?_
        rintro e w1 ⟨rfl, hb1⟩
        have HB1 : Hid (Below (w.alloc (.cells #[.int .i64 lv, .int .i64 y, .int .i64 mo, .int .i64 d, .int .i64 h, .int .i64 mi, .int .i64 s, .int .i64 p, .int .i64 dg, .bool z, .int .i64 zn] 23)).heap.size (w.alloc (.cells #[.int .i64 lv, .int .i64 y, .int .i64 mo, .int .i64 d, .int .i64 h, .int .i64 mi, .int .i64 s, .int .i64 p, .int .i64 dg, .bool z, .int .i64 zn] 23)) w1) := hb1
        clear hb1
        obtain ⟨hc1, hf1⟩ := bcell HB1.out
        go_wp2_with fail
        refine (rightClock_is h2 _).mono ?_
        rintro e w2 ⟨rfl, hb2⟩
        have HB2 : Hid (Below (w.alloc (.cells #[.int .i64 lv, .int .i64 y, .int .i64 mo, .int .i64 d, .int .i64 h, .int .i64 mi, .int .i64 s, .int .i64 p, .int .i64 dg, .bool z, .int .i64 zn] 23)).heap.size (w.alloc (.cells #[.int .i64 lv, .int .i64 y, .int .i64 mo, .int .i64 d, .int .i64 h, .int .i64 mi, .int .i64 s, .int .i64 p, .int .i64 dg, .bool z, .int .i64 zn] 23)) w2) := below_then HB1.out hb2
        clear hb2 hc1 hf1
        obtain ⟨hc2, hf2⟩ := bcell HB2.out
        go_wp2_with fail
        refine (rightPart_is h3 _).mono ?_
        rintro e w3 ⟨rfl, hb3⟩
        have HB3 : Hid (Below (w.alloc (.cells #[.int .i64 lv, .int .i64 y, .int .i64 mo, .int .i64 d, .int .i64 h, .int .i64 mi, .int .i64 s, .int .i64 p, .int .i64 dg, .bool z, .int .i64 zn] 23)).heap.size (w.alloc (.cells #[.int .i64 lv, .int .i64 y, .int .i64 mo, .int .i64 d, .int .i64 h, .int .i64 mi, .int .i64 s, .int .i64 p, .int .i64 dg, .bool z, .int .i64 zn] 23)) w3) := below_then HB2.out hb3
        clear hb3 hc2 hf2
        obtain ⟨hc3, hf3⟩ := bcell HB3.out
        go_wp2_with fail
        refine (rightZone_is h4 _).mono ?_
        rintro e w4 ⟨rfl, hb4⟩
        have HB4 : Hid (Below (w.alloc (.cells #[.int .i64 lv, .int .i64 y, .int .i64 mo, .int .i64 d, .int .i64 h, .int .i64 mi, .int .i64 s, .int .i64 p, .int .i64 dg, .bool z, .int .i64 zn] 23)).heap.size (w.alloc (.cells #[.int .i64 lv, .int .i64 y, .int .i64 mo, .int .i64 d, .int .i64 h, .int .i64 mi, .int .i64 s, .int .i64 p, .int .i64 dg, .bool z, .int .i64 zn] 23)) w4) := below_then HB3.out hb4
        clear hb4 hc3 hf3
        obtain ⟨hc4, hf4⟩ := bcell HB4.out
        go_wp2
        go_ret
        exact ⟨ret_bool (by unfold rightB; rw [h1, h2, h3, h4]; simp), (below_box _ _).trans (HB4.out.mono (by simp))⟩
theorem right_is {lv y mo d h mi s p dg zn : Int} {z : Bool} {b : Bool} (hb : rightB lv y mo d h mi s p dg zn z = b) (w : World) (hM : Months w) :
    Calls Tryd.prog 21 #[.agg #[.int .i64 lv, .int .i64 y, .int .i64 mo, .int .i64 d, .int .i64 h, .int .i64 mi, .int .i64 s, .int .i64 p, .int .i64 dg, .bool z, .int .i64 zn]] w fun e w' => e = .returned (.bool b) ∧ Below w.heap.size w w' := by rw [← hb]; exact right_any lv y mo d h mi s p dg zn z w hM

/-- The reference's tests, one by one, are the program's. -/
def refB (lv y mo d h mi s p dg zn : Int) (z : Bool) : Bool := inB lv 1 7 && fitB true y 1 9999 && fitB (decide (1 < lv)) mo 1 12 && fitB (decide (2 < lv)) d 1 (dim y mo) && fitB (decide (3 < lv)) h 0 23 &&
  fitB (decide (4 < lv)) mi 0 59 && fitB (decide (5 < lv)) s 0 59 && fitB (decide (6 < lv)) dg 1 4 && fitB (decide (6 < lv)) p 0 (tensB dg - 1) && fitB z zn (-840) 840
theorem fit_din {lv y mo d : Int} (h : fitB (decide (2 ≤ lv)) mo 1 12 = true) : fitB (decide (3 ≤ lv)) d 1 (dinB y mo) = fitB (decide (3 ≤ lv)) d 1 (dim y mo) := by
  by_cases g : 3 ≤ lv
  · have e : inB mo 1 12 = true := by unfold fitB at h; rw [if_pos (by simpa using (by omega : 2 ≤ lv))] at h; exact h
    unfold dinB; rw [if_pos e]
  · unfold fitB; rw [if_neg (by simpa using g), if_neg (by simpa using g)]
theorem right_ref (lv y mo d h mi s p dg zn : Int) (z : Bool) : rightB lv y mo d h mi s p dg zn z = refB lv y mo d h mi s p dg zn z := by
  unfold rightB refB dateB clockB partB zoneB
  cases hl : inB lv 1 7 with
  | false => simp
  | true =>
    have l := inB_iff.1 hl
    have e1 : decide (1 < lv) = decide (2 ≤ lv) := decide_eq_decide.2 (by omega)
    have e2 : decide (2 < lv) = decide (3 ≤ lv) := decide_eq_decide.2 (by omega)
    have e3 : decide (3 < lv) = decide (4 ≤ lv) := decide_eq_decide.2 (by omega)
    have e4 : decide (4 < lv) = decide (5 ≤ lv) := decide_eq_decide.2 (by omega)
    have e5 : decide (5 < lv) = decide (6 ≤ lv) := decide_eq_decide.2 (by omega)
    have e6 : decide (6 < lv) = (lv == 7) := by rw [Bool.eq_iff_iff]; simp; omega
    have ey : fitB true y 1 9999 = inB y 1 9999 := rfl
    rw [e1, e2, e3, e4, e5, e6, ey]
    cases hm : fitB (decide (2 ≤ lv)) mo 1 12 with
    | false => simp
    | true => rw [fit_din hm]; simp [Bool.and_assoc]
end Go.Proofs.YtpcdkafjogpdkaaDoor
