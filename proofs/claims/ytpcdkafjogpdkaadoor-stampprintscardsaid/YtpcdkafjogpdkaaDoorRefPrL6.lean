/-
  The reference's Print, by level.
-/
import Derived.Test.YtpcdkafjogpdkaaDoorRefPr2
namespace Go.Proofs.YtpcdkafjogpdkaaDoor
open Go.RowKit

set_option maxRecDepth 100000 in
set_option maxHeartbeats 4000000 in
theorem rprint_6 (Y Mo D H Mi Sc P G : Nat) (z : Bool) (zn : Int) (w : World) (hr : rightB 6 Y Mo D H Mi Sc P G zn z = true) (hY : Y < 10000) (hMo : Mo < 100) (hD : D < 100) (hH : H < 100) (hMi : Mi < 100) (hSc : Sc < 100) (hPG : 6 = 7 → 1 ≤ G ∧ G ≤ 4 ∧ P < 10 ^ G) (hz : z = true → -840 ≤ zn ∧ zn ≤ 840) : Calls Tryd.prog 10 #[.agg #[.int .i64 6, .int .i64 (Y : Int), .int .i64 (Mo : Int), .int .i64 (D : Int), .int .i64 (H : Int), .int .i64 (Mi : Int), .int .i64 (Sc : Int), .int .i64 (P : Int), .int .i64 (G : Int), .bool z, .int .i64 zn]] w fun e w' => ∃ T, e = .returned (.tuple #[.string T, .int .i64 0]) ∧ Hid (Txt T (textL 6 Y Mo D H Mi Sc P G z zn)) ∧ Below w.heap.size w w' := by
  have HU : Hid ((Y < 10000 ∧ Mo < 100 ∧ D < 100 ∧ H < 100 ∧ Mi < 100 ∧ Sc < 100) ∧ (6 = 7 → 1 ≤ G ∧ G ≤ 4 ∧ P < 10 ^ G)) := ⟨⟨hY, hMo, hD, hH, hMi, hSc⟩, hPG⟩
  have HR : Hid (rightB 6 Y Mo D H Mi Sc P G zn z = true) := hr
  have HZ : Hid (z = true → -840 ≤ zn ∧ zn ≤ 840) := hz
  obtain ⟨w0, hw0⟩ : ∃ w0, w.alloc (.cells #[.int .i64 6, .int .i64 (Y : Int), .int .i64 (Mo : Int), .int .i64 (D : Int), .int .i64 (H : Int), .int .i64 (Mi : Int), .int .i64 (Sc : Int), .int .i64 (P : Int), .int .i64 (G : Int), .bool z, .int .i64 zn] 23) = w0 := ⟨_, rfl⟩
  have H0 : Hid (Below w.heap.size w w0) := by unfold Hid; rw [← hw0]; exact (Below.refl _ _).alloc (Nat.le_refl _) _
  have HC : Hid (∀ w1, Below w0.heap.size w0 w1 → ∀ j x, (#[.int .i64 6, .int .i64 (Y : Int), .int .i64 (Mo : Int), .int .i64 (D : Int), .int .i64 (H : Int), .int .i64 (Mi : Int), .int .i64 (Sc : Int), .int .i64 (P : Int), .int .i64 (G : Int), .bool z, .int .i64 zn] : Array Value)[j]? = some x → w1.cell? ⟨w.heap.size, j, none⟩ = some x) := fun w1 hb j x hx => stamp_cells 6 Y Mo D H Mi Sc P G zn z hw0 hb j x hx
  have q0 := HC.out w0 (Below.refl _ _) 0 _ rfl
  have q1 := HC.out w0 (Below.refl _ _) 1 _ rfl
  have q2 := HC.out w0 (Below.refl _ _) 2 _ rfl
  have q3 := HC.out w0 (Below.refl _ _) 3 _ rfl
  have q4 := HC.out w0 (Below.refl _ _) 4 _ rfl
  have q5 := HC.out w0 (Below.refl _ _) 5 _ rfl
  have q6 := HC.out w0 (Below.refl _ _) 6 _ rfl
  have q7 := HC.out w0 (Below.refl _ _) 7 _ rfl
  have q8 := HC.out w0 (Below.refl _ _) 8 _ rfl
  have q9 := HC.out w0 (Below.refl _ _) 9 _ rfl
  have q10 := HC.out w0 (Below.refl _ _) 10 _ rfl
  clear hr hPG hz
  go_enter Tryd.func10, Tryd.ntmps10
  go_wp2_with fail
  refine (Right_is HR.out _).mono ?_
  rintro e w1 ⟨rfl, hb⟩
  have HB1 : Hid (Below w0.heap.size w0 w1) := hb
  clear hb
  clear q0 q1 q2 q3 q4 q5 q6 q7 q8 q9 q10
  have q0 := HC.out w1 HB1.out 0 _ rfl
  have q1 := HC.out w1 HB1.out 1 _ rfl
  have q2 := HC.out w1 HB1.out 2 _ rfl
  have q3 := HC.out w1 HB1.out 3 _ rfl
  have q4 := HC.out w1 HB1.out 4 _ rfl
  have q5 := HC.out w1 HB1.out 5 _ rfl
  have q6 := HC.out w1 HB1.out 6 _ rfl
  have q7 := HC.out w1 HB1.out 7 _ rfl
  have q8 := HC.out w1 HB1.out 8 _ rfl
  have q9 := HC.out w1 HB1.out 9 _ rfl
  have q10 := HC.out w1 HB1.out 10 _ rfl
  go_wp2_with fail
  refine (digits_is (n := Y) (k := 4) rfl rfl (by omega) (by decide) _).mono ?_
  rintro e w2 ⟨T0, rfl, hs0, HT0, hb⟩
  have HB2 : Hid (Below w0.heap.size w0 w2) := below_then HB1.out hb
  clear hb
  clear q0 q1 q2 q3 q4 q5 q6 q7 q8 q9 q10
  have q0 := HC.out w2 HB2.out 0 _ rfl
  have q1 := HC.out w2 HB2.out 1 _ rfl
  have q2 := HC.out w2 HB2.out 2 _ rfl
  have q3 := HC.out w2 HB2.out 3 _ rfl
  have q4 := HC.out w2 HB2.out 4 _ rfl
  have q5 := HC.out w2 HB2.out 5 _ rfl
  have q6 := HC.out w2 HB2.out 6 _ rfl
  have q7 := HC.out w2 HB2.out 7 _ rfl
  have q8 := HC.out w2 HB2.out 8 _ rfl
  have q9 := HC.out w2 HB2.out 9 _ rfl
  have q10 := HC.out w2 HB2.out 10 _ rfl
  go_wp2_with fail
  obtain ⟨w3, hw3⟩ : ∃ w3, w2.alloc (.cells #[.int .i64 (Mo : Int), .int .i64 (D : Int), .int .i64 (H : Int), .int .i64 (Mi : Int), .int .i64 (Sc : Int)] 51) = w3 := ⟨_, rfl⟩
  have HB3 : Hid (Below w0.heap.size w0 w3) := by unfold Hid; rw [← hw3]; exact HB2.out.alloc HB2.out.size _
  have HPt : Hid (∀ w4, Below w3.heap.size w3 w4 → ∀ j x, (#[.int .i64 (Mo : Int), .int .i64 (D : Int), .int .i64 (H : Int), .int .i64 (Mi : Int), .int .i64 (Sc : Int)] : Array Value)[j]? = some x → w4.cell? ⟨w2.heap.size, j, none⟩ = some x) := fun w4 hb j x hx => by
    have hlt : w2.heap.size < w3.heap.size := by rw [← hw3]; simp
    rw [hb.cell (p := ⟨w2.heap.size, j, none⟩) hlt, ← hw3]
    simpa using hx
  rw [hw3]
  have HN3 : Hid (Below w3.heap.size w3 w3) := Below.refl _ _
  clear hw3
  clear q0 q1 q2 q3 q4 q5 q6 q7 q8 q9 q10
  have q0 := HC.out w3 HB3.out 0 _ rfl
  have q1 := HC.out w3 HB3.out 1 _ rfl
  have q2 := HC.out w3 HB3.out 2 _ rfl
  have q3 := HC.out w3 HB3.out 3 _ rfl
  have q4 := HC.out w3 HB3.out 4 _ rfl
  have q5 := HC.out w3 HB3.out 5 _ rfl
  have q6 := HC.out w3 HB3.out 6 _ rfl
  have q7 := HC.out w3 HB3.out 7 _ rfl
  have q8 := HC.out w3 HB3.out 8 _ rfl
  have q9 := HC.out w3 HB3.out 9 _ rfl
  have q10 := HC.out w3 HB3.out 10 _ rfl
  have p0 := HPt.out w3 HN3.out 0 _ rfl
  have p1 := HPt.out w3 HN3.out 1 _ rfl
  have p2 := HPt.out w3 HN3.out 2 _ rfl
  have p3 := HPt.out w3 HN3.out 3 _ rfl
  have p4 := HPt.out w3 HN3.out 4 _ rfl
  refine wp_loop_rounds 6 ?_
  rw [rounds_succ]
  go_wp2_with fail
  refine (digits_is (n := Mo) (k := 2) rfl rfl (by omega) (by decide) _).mono ?_
  rintro e w4 ⟨T1, rfl, hs1, HT1, hb⟩
  have HB4 : Hid (Below w0.heap.size w0 w4) := below_then HB3.out hb
  have HN4 : Hid (Below w3.heap.size w3 w4) := below_then HN3.out hb
  clear hb
  clear q0 q1 q2 q3 q4 q5 q6 q7 q8 q9 q10
  have q0 := HC.out w4 HB4.out 0 _ rfl
  have q1 := HC.out w4 HB4.out 1 _ rfl
  have q2 := HC.out w4 HB4.out 2 _ rfl
  have q3 := HC.out w4 HB4.out 3 _ rfl
  have q4 := HC.out w4 HB4.out 4 _ rfl
  have q5 := HC.out w4 HB4.out 5 _ rfl
  have q6 := HC.out w4 HB4.out 6 _ rfl
  have q7 := HC.out w4 HB4.out 7 _ rfl
  have q8 := HC.out w4 HB4.out 8 _ rfl
  have q9 := HC.out w4 HB4.out 9 _ rfl
  have q10 := HC.out w4 HB4.out 10 _ rfl
  clear p0 p1 p2 p3 p4
  have p0 := HPt.out w4 HN4.out 0 _ rfl
  have p1 := HPt.out w4 HN4.out 1 _ rfl
  have p2 := HPt.out w4 HN4.out 2 _ rfl
  have p3 := HPt.out w4 HN4.out 3 _ rfl
  have p4 := HPt.out w4 HN4.out 4 _ rfl
  go_wp2_with fail
  rw [rounds_succ]
  go_wp2_with fail
  refine (digits_is (n := D) (k := 2) rfl rfl (by omega) (by decide) _).mono ?_
  rintro e w5 ⟨T2, rfl, hs2, HT2, hb⟩
  have HB5 : Hid (Below w0.heap.size w0 w5) := below_then HB4.out hb
  have HN5 : Hid (Below w3.heap.size w3 w5) := below_then HN4.out hb
  clear hb
  clear q0 q1 q2 q3 q4 q5 q6 q7 q8 q9 q10
  have q0 := HC.out w5 HB5.out 0 _ rfl
  have q1 := HC.out w5 HB5.out 1 _ rfl
  have q2 := HC.out w5 HB5.out 2 _ rfl
  have q3 := HC.out w5 HB5.out 3 _ rfl
  have q4 := HC.out w5 HB5.out 4 _ rfl
  have q5 := HC.out w5 HB5.out 5 _ rfl
  have q6 := HC.out w5 HB5.out 6 _ rfl
  have q7 := HC.out w5 HB5.out 7 _ rfl
  have q8 := HC.out w5 HB5.out 8 _ rfl
  have q9 := HC.out w5 HB5.out 9 _ rfl
  have q10 := HC.out w5 HB5.out 10 _ rfl
  clear p0 p1 p2 p3 p4
  have p0 := HPt.out w5 HN5.out 0 _ rfl
  have p1 := HPt.out w5 HN5.out 1 _ rfl
  have p2 := HPt.out w5 HN5.out 2 _ rfl
  have p3 := HPt.out w5 HN5.out 3 _ rfl
  have p4 := HPt.out w5 HN5.out 4 _ rfl
  go_wp2_with fail
  rw [rounds_succ]
  go_wp2_with fail
  refine (digits_is (n := H) (k := 2) rfl rfl (by omega) (by decide) _).mono ?_
  rintro e w6 ⟨T3, rfl, hs3, HT3, hb⟩
  have HB6 : Hid (Below w0.heap.size w0 w6) := below_then HB5.out hb
  have HN6 : Hid (Below w3.heap.size w3 w6) := below_then HN5.out hb
  clear hb
  clear q0 q1 q2 q3 q4 q5 q6 q7 q8 q9 q10
  have q0 := HC.out w6 HB6.out 0 _ rfl
  have q1 := HC.out w6 HB6.out 1 _ rfl
  have q2 := HC.out w6 HB6.out 2 _ rfl
  have q3 := HC.out w6 HB6.out 3 _ rfl
  have q4 := HC.out w6 HB6.out 4 _ rfl
  have q5 := HC.out w6 HB6.out 5 _ rfl
  have q6 := HC.out w6 HB6.out 6 _ rfl
  have q7 := HC.out w6 HB6.out 7 _ rfl
  have q8 := HC.out w6 HB6.out 8 _ rfl
  have q9 := HC.out w6 HB6.out 9 _ rfl
  have q10 := HC.out w6 HB6.out 10 _ rfl
  clear p0 p1 p2 p3 p4
  have p0 := HPt.out w6 HN6.out 0 _ rfl
  have p1 := HPt.out w6 HN6.out 1 _ rfl
  have p2 := HPt.out w6 HN6.out 2 _ rfl
  have p3 := HPt.out w6 HN6.out 3 _ rfl
  have p4 := HPt.out w6 HN6.out 4 _ rfl
  go_wp2_with fail
  rw [rounds_succ]
  go_wp2_with fail
  refine (digits_is (n := Mi) (k := 2) rfl rfl (by omega) (by decide) _).mono ?_
  rintro e w7 ⟨T4, rfl, hs4, HT4, hb⟩
  have HB7 : Hid (Below w0.heap.size w0 w7) := below_then HB6.out hb
  have HN7 : Hid (Below w3.heap.size w3 w7) := below_then HN6.out hb
  clear hb
  clear q0 q1 q2 q3 q4 q5 q6 q7 q8 q9 q10
  have q0 := HC.out w7 HB7.out 0 _ rfl
  have q1 := HC.out w7 HB7.out 1 _ rfl
  have q2 := HC.out w7 HB7.out 2 _ rfl
  have q3 := HC.out w7 HB7.out 3 _ rfl
  have q4 := HC.out w7 HB7.out 4 _ rfl
  have q5 := HC.out w7 HB7.out 5 _ rfl
  have q6 := HC.out w7 HB7.out 6 _ rfl
  have q7 := HC.out w7 HB7.out 7 _ rfl
  have q8 := HC.out w7 HB7.out 8 _ rfl
  have q9 := HC.out w7 HB7.out 9 _ rfl
  have q10 := HC.out w7 HB7.out 10 _ rfl
  clear p0 p1 p2 p3 p4
  have p0 := HPt.out w7 HN7.out 0 _ rfl
  have p1 := HPt.out w7 HN7.out 1 _ rfl
  have p2 := HPt.out w7 HN7.out 2 _ rfl
  have p3 := HPt.out w7 HN7.out 3 _ rfl
  have p4 := HPt.out w7 HN7.out 4 _ rfl
  go_wp2_with fail
  rw [rounds_succ]
  go_wp2_with fail
  refine (digits_is (n := Sc) (k := 2) rfl rfl (by omega) (by decide) _).mono ?_
  rintro e w8 ⟨T5, rfl, hs5, HT5, hb⟩
  have HB8 : Hid (Below w0.heap.size w0 w8) := below_then HB7.out hb
  have HN8 : Hid (Below w3.heap.size w3 w8) := below_then HN7.out hb
  clear hb
  clear q0 q1 q2 q3 q4 q5 q6 q7 q8 q9 q10
  have q0 := HC.out w8 HB8.out 0 _ rfl
  have q1 := HC.out w8 HB8.out 1 _ rfl
  have q2 := HC.out w8 HB8.out 2 _ rfl
  have q3 := HC.out w8 HB8.out 3 _ rfl
  have q4 := HC.out w8 HB8.out 4 _ rfl
  have q5 := HC.out w8 HB8.out 5 _ rfl
  have q6 := HC.out w8 HB8.out 6 _ rfl
  have q7 := HC.out w8 HB8.out 7 _ rfl
  have q8 := HC.out w8 HB8.out 8 _ rfl
  have q9 := HC.out w8 HB8.out 9 _ rfl
  have q10 := HC.out w8 HB8.out 10 _ rfl
  clear p0 p1 p2 p3 p4
  have p0 := HPt.out w8 HN8.out 0 _ rfl
  have p1 := HPt.out w8 HN8.out 1 _ rfl
  have p2 := HPt.out w8 HN8.out 2 _ rfl
  have p3 := HPt.out w8 HN8.out 3 _ rfl
  have p4 := HPt.out w8 HN8.out 4 _ rfl
  go_wp2_with fail
  rw [rounds_succ]
  clear p0 p1 p2 p3 p4
  cases z with
  | false =>
    go_wp2_with fail
    refine bodyPost_ret (v := .tuple #[.string _, .int .i64 0]) (by simp [results, Tryd.results10, go_sem]; rfl) rfl ⟨_, rfl, ?_, H0.out.trans (HB8.out.mono H0.out.size)⟩
    exact txt_eq (((((HT0.out.app HT1.out).app HT2.out).app HT3.out).app HT4.out).app HT5.out) (by simp [textL, zoneL])
  | true =>
    obtain ⟨hz1, hz2⟩ := HZ.out rfl
    by_cases hn : zn < 0
    · go_wp2_with fail
      refine (digits_is (n := zn.natAbs / 60) (k := 2) (ref_neg hz1 hn).1 rfl (by omega) (by decide) _).mono ?_
      rintro e v1 ⟨TA, rfl, hsA, HTA, hb⟩
      have HV1 : Hid (Below w0.heap.size w0 v1) := below_then HB8.out hb
      clear hb
      go_wp2_with fail
      refine (digits_is (n := zn.natAbs % 60) (k := 2) (ref_neg hz1 hn).2 rfl (by omega) (by decide) _).mono ?_
      rintro e v2 ⟨TB, rfl, hsB, HTB, hb⟩
      have HV2 : Hid (Below w0.heap.size w0 v2) := below_then HV1.out hb
      clear hb
      go_wp2_with fail
      refine bodyPost_ret (v := .tuple #[.string _, .int .i64 0]) (by simp [results, Tryd.results10, go_sem]; rfl) rfl ⟨_, rfl, ?_, H0.out.trans (HV2.out.mono H0.out.size)⟩
      exact txt_eq ((((((((HT0.out.app HT1.out).app HT2.out).app HT3.out).app HT4.out).app HT5.out).app sg45T).app HTA.out).app HTB.out) (by simp [textL, zoneL, hn])
    · go_wp2_with fail
      refine (digits_is (n := zn.natAbs / 60) (k := 2) (ref_pos (by omega)).1 rfl (by omega) (by decide) _).mono ?_
      rintro e v1 ⟨TA, rfl, hsA, HTA, hb⟩
      have HV1 : Hid (Below w0.heap.size w0 v1) := below_then HB8.out hb
      clear hb
      go_wp2_with fail
      refine (digits_is (n := zn.natAbs % 60) (k := 2) (ref_pos (by omega)).2 rfl (by omega) (by decide) _).mono ?_
      rintro e v2 ⟨TB, rfl, hsB, HTB, hb⟩
      have HV2 : Hid (Below w0.heap.size w0 v2) := below_then HV1.out hb
      clear hb
      go_wp2_with fail
      refine bodyPost_ret (v := .tuple #[.string _, .int .i64 0]) (by simp [results, Tryd.results10, go_sem]; rfl) rfl ⟨_, rfl, ?_, H0.out.trans (HV2.out.mono H0.out.size)⟩
      exact txt_eq ((((((((HT0.out.app HT1.out).app HT2.out).app HT3.out).app HT4.out).app HT5.out).app sg43T).app HTA.out).app HTB.out) (by simp [textL, zoneL, hn])
end Go.Proofs.YtpcdkafjogpdkaaDoor
