/-
  The reference's Print whole; the law StampPrints, walked.
-/
import Derived.Test.YtpcdkafjogpdkaaDoorRefPrL1
import Derived.Test.YtpcdkafjogpdkaaDoorRefPrL2
import Derived.Test.YtpcdkafjogpdkaaDoorRefPrL3
import Derived.Test.YtpcdkafjogpdkaaDoorRefPrL4
import Derived.Test.YtpcdkafjogpdkaaDoorRefPrL5
import Derived.Test.YtpcdkafjogpdkaaDoorRefPrL6
import Derived.Test.YtpcdkafjogpdkaaDoorRefPrL7
namespace Go.Proofs.YtpcdkafjogpdkaaDoor
open Go.RowKit

theorem rprint_ok {lv y mo d h mi s p dg zn : Int} {z : Bool} (hr : rightB lv y mo d h mi s p dg zn z = true) (w : World) :
    Calls Tryd.prog 10 #[.agg #[.int .i64 lv, .int .i64 y, .int .i64 mo, .int .i64 d, .int .i64 h, .int .i64 mi, .int .i64 s, .int .i64 p, .int .i64 dg, .bool z, .int .i64 zn]] w fun e w' => ∃ T, e = .returned (.tuple #[.string T, .int .i64 0]) ∧ Hid (Txt T (textI lv y mo d h mi s p dg z zn)) ∧ Below w.heap.size w w' := by
  obtain ⟨L, Y, Mo, D, H, Mi, Sc, P, G, rfl, rfl, rfl, rfl, rfl, rfl, rfl, rfl, rfl, h1, h7, hY, hMo, hD, hH, hMi, hSc, hPG, hz⟩ := right_nat hr
  obtain rfl | rfl | rfl | rfl | rfl | rfl | rfl : L = 1 ∨ L = 2 ∨ L = 3 ∨ L = 4 ∨ L = 5 ∨ L = 6 ∨ L = 7 := by omega
  · exact rprint_1 Y Mo D H Mi Sc P G z zn w hr hY hMo hD hH hMi hSc hPG hz
  · exact rprint_2 Y Mo D H Mi Sc P G z zn w hr hY hMo hD hH hMi hSc hPG hz
  · exact rprint_3 Y Mo D H Mi Sc P G z zn w hr hY hMo hD hH hMi hSc hPG hz
  · exact rprint_4 Y Mo D H Mi Sc P G z zn w hr hY hMo hD hH hMi hSc hPG hz
  · exact rprint_5 Y Mo D H Mi Sc P G z zn w hr hY hMo hD hH hMi hSc hPG hz
  · exact rprint_6 Y Mo D H Mi Sc P G z zn w hr hY hMo hD hH hMi hSc hPG hz
  · exact rprint_7 Y Mo D H Mi Sc P G z zn w hr hY hMo hD hH hMi hSc hPG hz
set_option maxRecDepth 100000 in
set_option maxHeartbeats 1000000 in
theorem rprint_no {lv y mo d h mi s p dg zn : Int} {z : Bool} (hr : rightB lv y mo d h mi s p dg zn z = false) (w : World) :
    Calls Tryd.prog 10 #[.agg #[.int .i64 lv, .int .i64 y, .int .i64 mo, .int .i64 d, .int .i64 h, .int .i64 mi, .int .i64 s, .int .i64 p, .int .i64 dg, .bool z, .int .i64 zn]] w fun e w' => e = .returned (.tuple #[.string ⟨#[]⟩, .int .i64 20]) ∧ Below w.heap.size w w' := by
  have HR : Hid (rightB lv y mo d h mi s p dg zn z = false) := hr
  obtain ⟨w0, hw0⟩ : ∃ w0, w.alloc (.cells #[.int .i64 lv, .int .i64 y, .int .i64 mo, .int .i64 d, .int .i64 h, .int .i64 mi, .int .i64 s, .int .i64 p, .int .i64 dg, .bool z, .int .i64 zn] 23) = w0 := ⟨_, rfl⟩
  have H0 : Hid (Below w.heap.size w w0) := by unfold Hid; rw [← hw0]; exact (Below.refl _ _).alloc (Nat.le_refl _) _
  have HC : Hid (∀ w1, Below w0.heap.size w0 w1 → ∀ j x, (#[.int .i64 lv, .int .i64 y, .int .i64 mo, .int .i64 d, .int .i64 h, .int .i64 mi, .int .i64 s, .int .i64 p, .int .i64 dg, .bool z, .int .i64 zn] : Array Value)[j]? = some x → w1.cell? ⟨w.heap.size, j, none⟩ = some x) := fun w1 hb j x hx => stamp_cells lv y mo d h mi s p dg zn z hw0 hb j x hx
  have q0 := HC.out w0 (Below.refl _ _) 0 _ rfl
  have q1 := HC.out w0 (Below.refl _ _) 1 _ rfl
  have q2 := HC.out w0 (Below.refl _ _) 2 _ rfl
  have q3 := HC.out w0 (Below.refl _ _) 3 _ rfl
  have q4 := HC.out w0 (Below.refl _ _) 4 _ rfl
  have q5 := HC.out w0 (Below.refl _ _) 5 _ rfl
  have q6 := HC.out w0 (Below.refl _ _) 6 _ rfl
  have q7 := HC.out w0 (Below.refl _ _) 7 _ rfl
  have q8 := HC.out w0 (Below.refl _ _) 8 _ rfl
  have q9 := HC.out w0 (Below.refl _ _) 9 _ rfl
  have q10 := HC.out w0 (Below.refl _ _) 10 _ rfl
  clear hr
  go_enter Tryd.func10, Tryd.ntmps10
  go_wp2_with fail
  refine (Right_is HR.out _).mono ?_
  rintro e w1 ⟨rfl, hb⟩
  have HB1 : Hid (Below w.heap.size w w1) := H0.out.trans (hb.mono H0.out.size)
  clear hb q0 q1 q2 q3 q4 q5 q6 q7 q8 q9 q10
  go_wp2_with fail
  exact bodyPost_ret (v := .tuple #[.string ⟨#[]⟩, .int .i64 20]) (by simp [results, Tryd.results10, go_sem]) rfl ⟨rfl, HB1.out⟩
set_option maxRecDepth 100000 in
set_option maxHeartbeats 1000000 in
theorem prints_any (lv y mo d h mi s p dg zn : Int) (z : Bool) (w : World) (hP : Pow w) (hM : Months w) (hE : ErrType w) :
    Calls Tryd.prog 3 #[.agg #[.int .i64 lv, .int .i64 y, .int .i64 mo, .int .i64 d, .int .i64 h, .int .i64 mi, .int .i64 s, .int .i64 p, .int .i64 dg, .bool z, .int .i64 zn]] w fun e w' => e = .returned (.bool true) ∧ Below w.heap.size w w' := by
  obtain ⟨w0, hw0⟩ : ∃ w0, w.alloc (.cells #[.int .i64 lv, .int .i64 y, .int .i64 mo, .int .i64 d, .int .i64 h, .int .i64 mi, .int .i64 s, .int .i64 p, .int .i64 dg, .bool z, .int .i64 zn] 23) = w0 := ⟨_, rfl⟩
  have H0 : Hid (Below w.heap.size w w0 ∧ Pow w0 ∧ Months w0 ∧ ErrType w0) := by
    have hb : Below w.heap.size w w0 := by rw [← hw0]; exact (Below.refl _ _).alloc (Nat.le_refl _) _
    exact ⟨hb, hP.below hb, months_below hM hb, errType_below hE hb⟩
  have HC : Hid (∀ w1, Below w0.heap.size w0 w1 → ∀ j x, (#[.int .i64 lv, .int .i64 y, .int .i64 mo, .int .i64 d, .int .i64 h, .int .i64 mi, .int .i64 s, .int .i64 p, .int .i64 dg, .bool z, .int .i64 zn] : Array Value)[j]? = some x → w1.cell? ⟨w.heap.size, j, none⟩ = some x) := fun w1 hb j x hx => stamp_cells lv y mo d h mi s p dg zn z hw0 hb j x hx
  have q0 := HC.out w0 (Below.refl _ _) 0 _ rfl
  have q1 := HC.out w0 (Below.refl _ _) 1 _ rfl
  have q2 := HC.out w0 (Below.refl _ _) 2 _ rfl
  have q3 := HC.out w0 (Below.refl _ _) 3 _ rfl
  have q4 := HC.out w0 (Below.refl _ _) 4 _ rfl
  have q5 := HC.out w0 (Below.refl _ _) 5 _ rfl
  have q6 := HC.out w0 (Below.refl _ _) 6 _ rfl
  have q7 := HC.out w0 (Below.refl _ _) 7 _ rfl
  have q8 := HC.out w0 (Below.refl _ _) 8 _ rfl
  have q9 := HC.out w0 (Below.refl _ _) 9 _ rfl
  have q10 := HC.out w0 (Below.refl _ _) 10 _ rfl
  clear hP hM hE
  cases hr : rightB lv y mo d h mi s p dg zn z with
  | true =>
    have HR : Hid (rightB lv y mo d h mi s p dg zn z = true) := hr
    clear hr
    go_enter Tryd.func3, Tryd.ntmps3
    go_wp2_with fail
    refine (Print_ok HR.out _ H0.out.2.2.1 H0.out.2.1).mono ?_
    rintro e w1 ⟨T, rfl, HT, hb⟩
    have HB1 : Hid (Below w0.heap.size w0 w1) := hb
    clear hb q0 q1 q2 q3 q4 q5 q6 q7 q8 q9 q10
    have q0 := HC.out w1 HB1.out 0 _ rfl
    have q1 := HC.out w1 HB1.out 1 _ rfl
    have q2 := HC.out w1 HB1.out 2 _ rfl
    have q3 := HC.out w1 HB1.out 3 _ rfl
    have q4 := HC.out w1 HB1.out 4 _ rfl
    have q5 := HC.out w1 HB1.out 5 _ rfl
    have q6 := HC.out w1 HB1.out 6 _ rfl
    have q7 := HC.out w1 HB1.out 7 _ rfl
    have q8 := HC.out w1 HB1.out 8 _ rfl
    have q9 := HC.out w1 HB1.out 9 _ rfl
    have q10 := HC.out w1 HB1.out 10 _ rfl
    go_wp2_with fail
    refine (rprint_ok HR.out _).mono ?_
    rintro e w2 ⟨T', rfl, HT', hb⟩
    obtain rfl : T' = T := HT'.out.trans HT.out.symm
    have HB2 : Hid (Below w.heap.size w w2) := H0.out.1.trans ((below_then HB1.out hb).mono H0.out.1.size)
    clear hb q0 q1 q2 q3 q4 q5 q6 q7 q8 q9 q10
    go_wp2_with fail
    refine (isOk _ _).mono ?_
    rintro e w3 ⟨rfl, rfl⟩
    go_wp2_with fail
    go_ret
    exact ⟨rfl, HB2.out⟩
  | false =>
    have HR : Hid (rightB lv y mo d h mi s p dg zn z = false) := hr
    clear hr
    go_enter Tryd.func3, Tryd.ntmps3
    go_wp2_with fail
    refine (Print_no HR.out _ H0.out.2.2.1).mono ?_
    rintro e w1 ⟨b, rfl, hF, hb⟩
    have HB1 : Hid (Below w0.heap.size w0 w1) := hb
    have HF : Hid (FaultAt w1 b 0 20) := hF
    clear hb hF q0 q1 q2 q3 q4 q5 q6 q7 q8 q9 q10
    have q0 := HC.out w1 HB1.out 0 _ rfl
    have q1 := HC.out w1 HB1.out 1 _ rfl
    have q2 := HC.out w1 HB1.out 2 _ rfl
    have q3 := HC.out w1 HB1.out 3 _ rfl
    have q4 := HC.out w1 HB1.out 4 _ rfl
    have q5 := HC.out w1 HB1.out 5 _ rfl
    have q6 := HC.out w1 HB1.out 6 _ rfl
    have q7 := HC.out w1 HB1.out 7 _ rfl
    have q8 := HC.out w1 HB1.out 8 _ rfl
    have q9 := HC.out w1 HB1.out 9 _ rfl
    have q10 := HC.out w1 HB1.out 10 _ rfl
    go_wp2_with fail
    refine (rprint_no HR.out _).mono ?_
    rintro e w2 ⟨rfl, hb⟩
    have HB2 : Hid (Below w0.heap.size w0 w2) := below_then HB1.out hb
    have HF2 : Hid (FaultAt w2 b 0 20) := faultAt_below HF.out hb
    clear hb q0 q1 q2 q3 q4 q5 q6 q7 q8 q9 q10
    go_wp2_with fail
    refine (isFault b 0 20 _ rfl (errType_below H0.out.2.2.2 HB2.out) HF2.out).mono ?_
    rintro e w3 ⟨rfl, hb⟩
    have HB3 : Hid (Below w.heap.size w w3) := H0.out.1.trans ((below_then HB2.out hb).mono H0.out.1.size)
    clear hb
    go_wp2_with fail
    go_ret
    exact ⟨rfl, HB3.out⟩
end Go.Proofs.YtpcdkafjogpdkaaDoor
