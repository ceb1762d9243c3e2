/-
  The law's anchor: a leap day is read, counted and written again.
-/
import Derived.Test.YtpcdkafjogpdkaaDoorRdParse
import Derived.Test.YtpcdkafjogpdkaaDoorWr3
import Derived.Test.YtpcdkafjogpdkaaDoorInst4
namespace Go.Proofs.YtpcdkafjogpdkaaDoor
open Go.RowKit

def anchorS : ByteArray := ⟨#[50, 48, 50, 52, 48, 50, 50, 57, 50, 51, 53, 57, 53, 57, 46, 53, 43, 48, 49, 51, 48]⟩
theorem anchor_right : rightB 7 2024 2 29 23 59 59 5 1 90 true = true := by decide +kernel
theorem anchor_inst : instI 7 2024 2 29 23 59 59 5 1 90 = 638448425995000 := by decide +kernel
theorem anchor_text : textI 7 2024 2 29 23 59 59 5 1 true 90 = [50, 48, 50, 52, 48, 50, 50, 57, 50, 51, 53, 57, 53, 57, 46, 53, 43, 48, 49, 51, 48] := by decide +kernel
theorem anchor_date : ∃ A B, dateS anchorS 0 none = (3, 2024, 2, 29, A, B) ∧ ∃ A2 B2, clkS anchorS A B 3 = (7, 23, 59, 59, 5, 1, A2, B2) ∧ ∃ A3 B3, zoneS anchorS A2 B2 = (true, 90, A3, B3) ∧ endB anchorS A3 B3 = none := by
  refine ⟨_, _, rfl, _, _, rfl, _, _, rfl, rfl⟩
set_option maxRecDepth 100000 in
set_option maxHeartbeats 1000000 in
theorem anchor_any (w : World) (hM : Months w) (hP : Pow w) : Calls Tryd.prog 13 #[] w fun e w' => e = .returned (.bool true) ∧ Below w.heap.size w w' := by
  have HM : Hid (Months w) := hM
  have HP : Hid (Pow w) := hP
  clear hM hP
  obtain ⟨A, B, hd, A2, B2, hc, A3, B3, hz, he⟩ := anchor_date
  have HPa := Parse_any anchorS w (by show _ ≤ maxLen; unfold maxLen; decide) HM.out hd hc hz he
  have HPb : Hid (Calls Tryd.prog 12 #[.string anchorS] w fun e w' => e = .returned (.tuple #[.agg #[.int .i64 7, .int .i64 2024, .int .i64 2, .int .i64 29, .int .i64 23, .int .i64 59, .int .i64 59, .int .i64 5, .int .i64 1, .bool true, .int .i64 90], .nilIface]) ∧ Below w.heap.size w w') := HPa
  clear HPa hd hc hz he
  go_enter Tryd.func13, Tryd.ntmps13
  go_wp2_with fail
  refine HPb.out.mono ?_
  rintro e w1 ⟨rfl, hb⟩
  have HB1 : Hid (Below w.heap.size w (w1.alloc (.cells #[.int .i64 7, .int .i64 2024, .int .i64 2, .int .i64 29, .int .i64 23, .int .i64 59, .int .i64 59, .int .i64 5, .int .i64 1, .bool true, .int .i64 90] 23))) := hb.alloc hb.size _
  clear hb
  go_wp2_with fail
  refine (Instant_ok anchor_right _ (months_below HM.out HB1.out)).mono ?_
  rintro e w2 ⟨he, hb⟩
  rw [anchor_inst] at he
  subst he
  obtain ⟨v0, hv0⟩ : ∃ v0, w1.alloc (.cells #[.int .i64 7, .int .i64 2024, .int .i64 2, .int .i64 29, .int .i64 23, .int .i64 59, .int .i64 59, .int .i64 5, .int .i64 1, .bool true, .int .i64 90] 23) = v0 := ⟨_, rfl⟩
  rw [hv0] at hb HB1
  have HC : Hid (∀ w', Below v0.heap.size v0 w' → ∀ j x, (#[.int .i64 7, .int .i64 2024, .int .i64 2, .int .i64 29, .int .i64 23, .int .i64 59, .int .i64 59, .int .i64 5, .int .i64 1, .bool true, .int .i64 90] : Array Value)[j]? = some x → w'.cell? ⟨w1.heap.size, j, none⟩ = some x) := fun w' hb j x hx => stamp_cells 7 2024 2 29 23 59 59 5 1 90 true hv0 hb j x hx
  have HB2 : Hid (Below v0.heap.size v0 w2) := hb
  have q0 := HC.out w2 HB2.out 0 _ rfl
  have q1 := HC.out w2 HB2.out 1 _ rfl
  have q2 := HC.out w2 HB2.out 2 _ rfl
  have q3 := HC.out w2 HB2.out 3 _ rfl
  have q4 := HC.out w2 HB2.out 4 _ rfl
  have q5 := HC.out w2 HB2.out 5 _ rfl
  have q6 := HC.out w2 HB2.out 6 _ rfl
  have q7 := HC.out w2 HB2.out 7 _ rfl
  have q8 := HC.out w2 HB2.out 8 _ rfl
  have q9 := HC.out w2 HB2.out 9 _ rfl
  have q10 := HC.out w2 HB2.out 10 _ rfl
  clear hb hv0
  go_wp2_with fail
  refine (Print_ok anchor_right _ (months_below HM.out (HB1.out.trans (HB2.out.mono HB1.out.size))) (HP.out.below (HB1.out.trans (HB2.out.mono HB1.out.size)))).mono ?_
  rintro e w3 ⟨T, rfl, HT, hb⟩
  obtain rfl : T = anchorS := by have h := HT.out; rw [anchor_text] at h; exact h
  have HB3 : Hid (Below w.heap.size w w3) := below_then (HB1.out.trans (HB2.out.mono HB1.out.size)) hb
  clear hb
  unfold anchorS
  go_wp2_with fail
  go_ret
  exact ⟨rfl, HB3.out⟩
end Go.Proofs.YtpcdkafjogpdkaaDoor
