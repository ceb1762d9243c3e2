/-
  A stamp written: write, by level.
-/
import Derived.Test.YtpcdkafjogpdkaaDoorWr
import Derived.Test.YtpcdkafjogpdkaaDoorRight3
namespace Go.Proofs.YtpcdkafjogpdkaaDoor
open Go.RowKit

/-- A right stamp's text. -/
def textL (lv Y Mo D H Mi Sc P G : Nat) (z : Bool) (zn : Int) : List UInt8 :=
  digs 4 Y ++ ((if 2 ≤ lv then digs 2 Mo else []) ++ ((if 3 ≤ lv then digs 2 D else []) ++ ((if 4 ≤ lv then digs 2 H else []) ++ ((if 5 ≤ lv then digs 2 Mi else []) ++ ((if 6 ≤ lv then digs 2 Sc else []) ++ ((if lv = 7 then 46 :: digs G P else []) ++ zoneL z zn))))))
theorem zoneL_len (z : Bool) (zn : Int) : (zoneL z zn).length ≤ 5 := by
  unfold zoneL
  split
  · simp [digs_length]
  · simp
theorem Pow.alloc {w : World} (h : Pow w) (o : Obj) : Pow (w.alloc o) := h.below ((Below.refl _ _).alloc (Nat.le_refl _) _)
set_option maxRecDepth 100000 in
set_option maxHeartbeats 1000000 in
theorem write_1 (Y Mo D H Mi Sc P G : Nat) (z : Bool) (zn : Int) (w : World) (hY : Y < 10000) (hMo : Mo < 100) (hD : D < 100) (hH : H < 100) (hMi : Mi < 100) (hSc : Sc < 100) (hPG : 1 = 7 → 1 ≤ G ∧ G ≤ 4 ∧ P < 10 ^ G) (hz : z = true → -840 ≤ zn ∧ zn ≤ 840) (hP : Pow w) : Calls Tryd.prog 23 #[.agg #[.int .i64 1, .int .i64 (Y : Int), .int .i64 (Mo : Int), .int .i64 (D : Int), .int .i64 (H : Int), .int .i64 (Mi : Int), .int .i64 (Sc : Int), .int .i64 (P : Int), .int .i64 (G : Int), .bool z, .int .i64 zn]] w fun e w' => ∃ T, e = .returned (.string T) ∧ Hid (Txt T (textL 1 Y Mo D H Mi Sc P G z zn)) ∧ Below w.heap.size w w' := by
  have HU : Hid ((Y < 10000 ∧ Mo < 100 ∧ D < 100 ∧ H < 100 ∧ Mi < 100 ∧ Sc < 100) ∧ (1 = 7 → 1 ≤ G ∧ G ≤ 4 ∧ P < 10 ^ G)) := ⟨⟨hY, hMo, hD, hH, hMi, hSc⟩, hPG⟩
  obtain ⟨w0, hw0⟩ : ∃ w0, w.alloc (.cells #[.int .i64 1, .int .i64 (Y : Int), .int .i64 (Mo : Int), .int .i64 (D : Int), .int .i64 (H : Int), .int .i64 (Mi : Int), .int .i64 (Sc : Int), .int .i64 (P : Int), .int .i64 (G : Int), .bool z, .int .i64 zn] 23) = w0 := ⟨_, rfl⟩
  have H0 : Hid (Below w.heap.size w w0 ∧ Pow w0 ∧ w.heap.size < w0.heap.size) := by unfold Hid; rw [← hw0]; exact ⟨(Below.refl _ _).alloc (Nat.le_refl _) _, hP.alloc _, by simp⟩
  have k : ∀ j x, (#[.int .i64 1, .int .i64 (Y : Int), .int .i64 (Mo : Int), .int .i64 (D : Int), .int .i64 (H : Int), .int .i64 (Mi : Int), .int .i64 (Sc : Int), .int .i64 (P : Int), .int .i64 (G : Int), .bool z, .int .i64 zn] : Array Value)[j]? = some x → w0.cell? ⟨w.heap.size, j, none⟩ = some x := fun j x h => by rw [← hw0]; simpa using h
  have k0 := k 0 _ rfl
  have k1 := k 1 _ rfl
  have k2 := k 2 _ rfl
  have k3 := k 3 _ rfl
  have k4 := k 4 _ rfl
  have k5 := k 5 _ rfl
  have k6 := k 6 _ rfl
  have k7 := k 7 _ rfl
  have k8 := k 8 _ rfl
  have k9 := k 9 _ rfl
  have k10 := k 10 _ rfl
  clear k hP hPG
  have HZ : Hid (z = true → -840 ≤ zn ∧ zn ≤ 840) := hz
  clear hz
  go_enter Tryd.func23, Tryd.ntmps23
  go_wp2_with fail
  refine (zoneText_any _ _ _ _ _ _ _ _ _ _ _ _ HZ.out H0.out.2.1).mono ?_
  rintro e w1 ⟨T0, rfl, HT0, hb⟩
  have hs0 : T0.size ≤ 5 := by rw [HT0.out.size]; exact zoneL_len _ _
  have HB1 : Hid (Below w0.heap.size w0 w1) := hb
  have q0 := (HB1.out.cell (p := ⟨w.heap.size, 0, none⟩) H0.out.2.2).trans k0
  have q1 := (HB1.out.cell (p := ⟨w.heap.size, 1, none⟩) H0.out.2.2).trans k1
  have q2 := (HB1.out.cell (p := ⟨w.heap.size, 2, none⟩) H0.out.2.2).trans k2
  have q3 := (HB1.out.cell (p := ⟨w.heap.size, 3, none⟩) H0.out.2.2).trans k3
  have q4 := (HB1.out.cell (p := ⟨w.heap.size, 4, none⟩) H0.out.2.2).trans k4
  have q5 := (HB1.out.cell (p := ⟨w.heap.size, 5, none⟩) H0.out.2.2).trans k5
  have q6 := (HB1.out.cell (p := ⟨w.heap.size, 6, none⟩) H0.out.2.2).trans k6
  have q7 := (HB1.out.cell (p := ⟨w.heap.size, 7, none⟩) H0.out.2.2).trans k7
  have q8 := (HB1.out.cell (p := ⟨w.heap.size, 8, none⟩) H0.out.2.2).trans k8
  clear hb
  go_wp2_with fail
  refine (padded_is (n := Y) (wd := 4) rfl rfl (by decide) (by decide) (by omega) _ (H0.out.2.1.below HB1.out)).mono ?_
  rintro e w2 ⟨T1, rfl, hs1, HT1, hb⟩
  have HB2 : Hid (Below w0.heap.size w0 w2) := below_then HB1.out hb
  clear q0 q1 q2 q3 q4 q5 q6 q7 q8
  have q0 := (HB2.out.cell (p := ⟨w.heap.size, 0, none⟩) H0.out.2.2).trans k0
  have q1 := (HB2.out.cell (p := ⟨w.heap.size, 1, none⟩) H0.out.2.2).trans k1
  have q2 := (HB2.out.cell (p := ⟨w.heap.size, 2, none⟩) H0.out.2.2).trans k2
  have q3 := (HB2.out.cell (p := ⟨w.heap.size, 3, none⟩) H0.out.2.2).trans k3
  have q4 := (HB2.out.cell (p := ⟨w.heap.size, 4, none⟩) H0.out.2.2).trans k4
  have q5 := (HB2.out.cell (p := ⟨w.heap.size, 5, none⟩) H0.out.2.2).trans k5
  have q6 := (HB2.out.cell (p := ⟨w.heap.size, 6, none⟩) H0.out.2.2).trans k6
  have q7 := (HB2.out.cell (p := ⟨w.heap.size, 7, none⟩) H0.out.2.2).trans k7
  have q8 := (HB2.out.cell (p := ⟨w.heap.size, 8, none⟩) H0.out.2.2).trans k8
  clear hb
  go_wp2_with fail
  go_ret
  exact ⟨_, rfl, (HT1.out.app HT0.out), H0.out.1.trans (HB2.out.mono (by have := H0.out.2.2; omega))⟩
set_option maxRecDepth 100000 in
set_option maxHeartbeats 1000000 in
theorem write_2 (Y Mo D H Mi Sc P G : Nat) (z : Bool) (zn : Int) (w : World) (hY : Y < 10000) (hMo : Mo < 100) (hD : D < 100) (hH : H < 100) (hMi : Mi < 100) (hSc : Sc < 100) (hPG : 2 = 7 → 1 ≤ G ∧ G ≤ 4 ∧ P < 10 ^ G) (hz : z = true → -840 ≤ zn ∧ zn ≤ 840) (hP : Pow w) : Calls Tryd.prog 23 #[.agg #[.int .i64 2, .int .i64 (Y : Int), .int .i64 (Mo : Int), .int .i64 (D : Int), .int .i64 (H : Int), .int .i64 (Mi : Int), .int .i64 (Sc : Int), .int .i64 (P : Int), .int .i64 (G : Int), .bool z, .int .i64 zn]] w fun e w' => ∃ T, e = .returned (.string T) ∧ Hid (Txt T (textL 2 Y Mo D H Mi Sc P G z zn)) ∧ Below w.heap.size w w' := by
  have HU : Hid ((Y < 10000 ∧ Mo < 100 ∧ D < 100 ∧ H < 100 ∧ Mi < 100 ∧ Sc < 100) ∧ (2 = 7 → 1 ≤ G ∧ G ≤ 4 ∧ P < 10 ^ G)) := ⟨⟨hY, hMo, hD, hH, hMi, hSc⟩, hPG⟩
  obtain ⟨w0, hw0⟩ : ∃ w0, w.alloc (.cells #[.int .i64 2, .int .i64 (Y : Int), .int .i64 (Mo : Int), .int .i64 (D : Int), .int .i64 (H : Int), .int .i64 (Mi : Int), .int .i64 (Sc : Int), .int .i64 (P : Int), .int .i64 (G : Int), .bool z, .int .i64 zn] 23) = w0 := ⟨_, rfl⟩
  have H0 : Hid (Below w.heap.size w w0 ∧ Pow w0 ∧ w.heap.size < w0.heap.size) := by unfold Hid; rw [← hw0]; exact ⟨(Below.refl _ _).alloc (Nat.le_refl _) _, hP.alloc _, by simp⟩
  have k : ∀ j x, (#[.int .i64 2, .int .i64 (Y : Int), .int .i64 (Mo : Int), .int .i64 (D : Int), .int .i64 (H : Int), .int .i64 (Mi : Int), .int .i64 (Sc : Int), .int .i64 (P : Int), .int .i64 (G : Int), .bool z, .int .i64 zn] : Array Value)[j]? = some x → w0.cell? ⟨w.heap.size, j, none⟩ = some x := fun j x h => by rw [← hw0]; simpa using h
  have k0 := k 0 _ rfl
  have k1 := k 1 _ rfl
  have k2 := k 2 _ rfl
  have k3 := k 3 _ rfl
  have k4 := k 4 _ rfl
  have k5 := k 5 _ rfl
  have k6 := k 6 _ rfl
  have k7 := k 7 _ rfl
  have k8 := k 8 _ rfl
  have k9 := k 9 _ rfl
  have k10 := k 10 _ rfl
  clear k hP hPG
  have HZ : Hid (z = true → -840 ≤ zn ∧ zn ≤ 840) := hz
  clear hz
  go_enter Tryd.func23, Tryd.ntmps23
  go_wp2_with fail
  refine (zoneText_any _ _ _ _ _ _ _ _ _ _ _ _ HZ.out H0.out.2.1).mono ?_
  rintro e w1 ⟨T0, rfl, HT0, hb⟩
  have hs0 : T0.size ≤ 5 := by rw [HT0.out.size]; exact zoneL_len _ _
  have HB1 : Hid (Below w0.heap.size w0 w1) := hb
  have q0 := (HB1.out.cell (p := ⟨w.heap.size, 0, none⟩) H0.out.2.2).trans k0
  have q1 := (HB1.out.cell (p := ⟨w.heap.size, 1, none⟩) H0.out.2.2).trans k1
  have q2 := (HB1.out.cell (p := ⟨w.heap.size, 2, none⟩) H0.out.2.2).trans k2
  have q3 := (HB1.out.cell (p := ⟨w.heap.size, 3, none⟩) H0.out.2.2).trans k3
  have q4 := (HB1.out.cell (p := ⟨w.heap.size, 4, none⟩) H0.out.2.2).trans k4
  have q5 := (HB1.out.cell (p := ⟨w.heap.size, 5, none⟩) H0.out.2.2).trans k5
  have q6 := (HB1.out.cell (p := ⟨w.heap.size, 6, none⟩) H0.out.2.2).trans k6
  have q7 := (HB1.out.cell (p := ⟨w.heap.size, 7, none⟩) H0.out.2.2).trans k7
  have q8 := (HB1.out.cell (p := ⟨w.heap.size, 8, none⟩) H0.out.2.2).trans k8
  clear hb
  go_wp2_with fail
  refine (padded_is (n := Mo) (wd := 2) rfl rfl (by decide) (by decide) (by omega) _ (H0.out.2.1.below HB1.out)).mono ?_
  rintro e w2 ⟨T1, rfl, hs1, HT1, hb⟩
  have HB2 : Hid (Below w0.heap.size w0 w2) := below_then HB1.out hb
  clear q0 q1 q2 q3 q4 q5 q6 q7 q8
  have q0 := (HB2.out.cell (p := ⟨w.heap.size, 0, none⟩) H0.out.2.2).trans k0
  have q1 := (HB2.out.cell (p := ⟨w.heap.size, 1, none⟩) H0.out.2.2).trans k1
  have q2 := (HB2.out.cell (p := ⟨w.heap.size, 2, none⟩) H0.out.2.2).trans k2
  have q3 := (HB2.out.cell (p := ⟨w.heap.size, 3, none⟩) H0.out.2.2).trans k3
  have q4 := (HB2.out.cell (p := ⟨w.heap.size, 4, none⟩) H0.out.2.2).trans k4
  have q5 := (HB2.out.cell (p := ⟨w.heap.size, 5, none⟩) H0.out.2.2).trans k5
  have q6 := (HB2.out.cell (p := ⟨w.heap.size, 6, none⟩) H0.out.2.2).trans k6
  have q7 := (HB2.out.cell (p := ⟨w.heap.size, 7, none⟩) H0.out.2.2).trans k7
  have q8 := (HB2.out.cell (p := ⟨w.heap.size, 8, none⟩) H0.out.2.2).trans k8
  clear hb
  go_wp2_with fail
  refine (padded_is (n := Y) (wd := 4) rfl rfl (by decide) (by decide) (by omega) _ (H0.out.2.1.below HB2.out)).mono ?_
  rintro e w3 ⟨T2, rfl, hs2, HT2, hb⟩
  have HB3 : Hid (Below w0.heap.size w0 w3) := below_then HB2.out hb
  clear q0 q1 q2 q3 q4 q5 q6 q7 q8
  have q0 := (HB3.out.cell (p := ⟨w.heap.size, 0, none⟩) H0.out.2.2).trans k0
  have q1 := (HB3.out.cell (p := ⟨w.heap.size, 1, none⟩) H0.out.2.2).trans k1
  have q2 := (HB3.out.cell (p := ⟨w.heap.size, 2, none⟩) H0.out.2.2).trans k2
  have q3 := (HB3.out.cell (p := ⟨w.heap.size, 3, none⟩) H0.out.2.2).trans k3
  have q4 := (HB3.out.cell (p := ⟨w.heap.size, 4, none⟩) H0.out.2.2).trans k4
  have q5 := (HB3.out.cell (p := ⟨w.heap.size, 5, none⟩) H0.out.2.2).trans k5
  have q6 := (HB3.out.cell (p := ⟨w.heap.size, 6, none⟩) H0.out.2.2).trans k6
  have q7 := (HB3.out.cell (p := ⟨w.heap.size, 7, none⟩) H0.out.2.2).trans k7
  have q8 := (HB3.out.cell (p := ⟨w.heap.size, 8, none⟩) H0.out.2.2).trans k8
  clear hb
  go_wp2_with fail
  go_ret
  exact ⟨_, rfl, (HT2.out.app (HT1.out.app HT0.out)), H0.out.1.trans (HB3.out.mono (by have := H0.out.2.2; omega))⟩
set_option maxRecDepth 100000 in
set_option maxHeartbeats 1000000 in
theorem write_3 (Y Mo D H Mi Sc P G : Nat) (z : Bool) (zn : Int) (w : World) (hY : Y < 10000) (hMo : Mo < 100) (hD : D < 100) (hH : H < 100) (hMi : Mi < 100) (hSc : Sc < 100) (hPG : 3 = 7 → 1 ≤ G ∧ G ≤ 4 ∧ P < 10 ^ G) (hz : z = true → -840 ≤ zn ∧ zn ≤ 840) (hP : Pow w) : Calls Tryd.prog 23 #[.agg #[.int .i64 3, .int .i64 (Y : Int), .int .i64 (Mo : Int), .int .i64 (D : Int), .int .i64 (H : Int), .int .i64 (Mi : Int), .int .i64 (Sc : Int), .int .i64 (P : Int), .int .i64 (G : Int), .bool z, .int .i64 zn]] w fun e w' => ∃ T, e = .returned (.string T) ∧ Hid (Txt T (textL 3 Y Mo D H Mi Sc P G z zn)) ∧ Below w.heap.size w w' := by
  have HU : Hid ((Y < 10000 ∧ Mo < 100 ∧ D < 100 ∧ H < 100 ∧ Mi < 100 ∧ Sc < 100) ∧ (3 = 7 → 1 ≤ G ∧ G ≤ 4 ∧ P < 10 ^ G)) := ⟨⟨hY, hMo, hD, hH, hMi, hSc⟩, hPG⟩
  obtain ⟨w0, hw0⟩ : ∃ w0, w.alloc (.cells #[.int .i64 3, .int .i64 (Y : Int), .int .i64 (Mo : Int), .int .i64 (D : Int), .int .i64 (H : Int), .int .i64 (Mi : Int), .int .i64 (Sc : Int), .int .i64 (P : Int), .int .i64 (G : Int), .bool z, .int .i64 zn] 23) = w0 := ⟨_, rfl⟩
  have H0 : Hid (Below w.heap.size w w0 ∧ Pow w0 ∧ w.heap.size < w0.heap.size) := by unfold Hid; rw [← hw0]; exact ⟨(Below.refl _ _).alloc (Nat.le_refl _) _, hP.alloc _, by simp⟩
  have k : ∀ j x, (#[.int .i64 3, .int .i64 (Y : Int), .int .i64 (Mo : Int), .int .i64 (D : Int), .int .i64 (H : Int), .int .i64 (Mi : Int), .int .i64 (Sc : Int), .int .i64 (P : Int), .int .i64 (G : Int), .bool z, .int .i64 zn] : Array Value)[j]? = some x → w0.cell? ⟨w.heap.size, j, none⟩ = some x := fun j x h => by rw [← hw0]; simpa using h
  have k0 := k 0 _ rfl
  have k1 := k 1 _ rfl
  have k2 := k 2 _ rfl
  have k3 := k 3 _ rfl
  have k4 := k 4 _ rfl
  have k5 := k 5 _ rfl
  have k6 := k 6 _ rfl
  have k7 := k 7 _ rfl
  have k8 := k 8 _ rfl
  have k9 := k 9 _ rfl
  have k10 := k 10 _ rfl
  clear k hP hPG
  have HZ : Hid (z = true → -840 ≤ zn ∧ zn ≤ 840) := hz
  clear hz
  go_enter Tryd.func23, Tryd.ntmps23
  go_wp2_with fail
  refine (zoneText_any _ _ _ _ _ _ _ _ _ _ _ _ HZ.out H0.out.2.1).mono ?_
  rintro e w1 ⟨T0, rfl, HT0, hb⟩
  have hs0 : T0.size ≤ 5 := by rw [HT0.out.size]; exact zoneL_len _ _
  have HB1 : Hid (Below w0.heap.size w0 w1) := hb
  have q0 := (HB1.out.cell (p := ⟨w.heap.size, 0, none⟩) H0.out.2.2).trans k0
  have q1 := (HB1.out.cell (p := ⟨w.heap.size, 1, none⟩) H0.out.2.2).trans k1
  have q2 := (HB1.out.cell (p := ⟨w.heap.size, 2, none⟩) H0.out.2.2).trans k2
  have q3 := (HB1.out.cell (p := ⟨w.heap.size, 3, none⟩) H0.out.2.2).trans k3
  have q4 := (HB1.out.cell (p := ⟨w.heap.size, 4, none⟩) H0.out.2.2).trans k4
  have q5 := (HB1.out.cell (p := ⟨w.heap.size, 5, none⟩) H0.out.2.2).trans k5
  have q6 := (HB1.out.cell (p := ⟨w.heap.size, 6, none⟩) H0.out.2.2).trans k6
  have q7 := (HB1.out.cell (p := ⟨w.heap.size, 7, none⟩) H0.out.2.2).trans k7
  have q8 := (HB1.out.cell (p := ⟨w.heap.size, 8, none⟩) H0.out.2.2).trans k8
  clear hb
  go_wp2_with fail
  refine (padded_is (n := D) (wd := 2) rfl rfl (by decide) (by decide) (by omega) _ (H0.out.2.1.below HB1.out)).mono ?_
  rintro e w2 ⟨T1, rfl, hs1, HT1, hb⟩
  have HB2 : Hid (Below w0.heap.size w0 w2) := below_then HB1.out hb
  clear q0 q1 q2 q3 q4 q5 q6 q7 q8
  have q0 := (HB2.out.cell (p := ⟨w.heap.size, 0, none⟩) H0.out.2.2).trans k0
  have q1 := (HB2.out.cell (p := ⟨w.heap.size, 1, none⟩) H0.out.2.2).trans k1
  have q2 := (HB2.out.cell (p := ⟨w.heap.size, 2, none⟩) H0.out.2.2).trans k2
  have q3 := (HB2.out.cell (p := ⟨w.heap.size, 3, none⟩) H0.out.2.2).trans k3
  have q4 := (HB2.out.cell (p := ⟨w.heap.size, 4, none⟩) H0.out.2.2).trans k4
  have q5 := (HB2.out.cell (p := ⟨w.heap.size, 5, none⟩) H0.out.2.2).trans k5
  have q6 := (HB2.out.cell (p := ⟨w.heap.size, 6, none⟩) H0.out.2.2).trans k6
  have q7 := (HB2.out.cell (p := ⟨w.heap.size, 7, none⟩) H0.out.2.2).trans k7
  have q8 := (HB2.out.cell (p := ⟨w.heap.size, 8, none⟩) H0.out.2.2).trans k8
  clear hb
  go_wp2_with fail
  refine (padded_is (n := Mo) (wd := 2) rfl rfl (by decide) (by decide) (by omega) _ (H0.out.2.1.below HB2.out)).mono ?_
  rintro e w3 ⟨T2, rfl, hs2, HT2, hb⟩
  have HB3 : Hid (Below w0.heap.size w0 w3) := below_then HB2.out hb
  clear q0 q1 q2 q3 q4 q5 q6 q7 q8
  have q0 := (HB3.out.cell (p := ⟨w.heap.size, 0, none⟩) H0.out.2.2).trans k0
  have q1 := (HB3.out.cell (p := ⟨w.heap.size, 1, none⟩) H0.out.2.2).trans k1
  have q2 := (HB3.out.cell (p := ⟨w.heap.size, 2, none⟩) H0.out.2.2).trans k2
  have q3 := (HB3.out.cell (p := ⟨w.heap.size, 3, none⟩) H0.out.2.2).trans k3
  have q4 := (HB3.out.cell (p := ⟨w.heap.size, 4, none⟩) H0.out.2.2).trans k4
  have q5 := (HB3.out.cell (p := ⟨w.heap.size, 5, none⟩) H0.out.2.2).trans k5
  have q6 := (HB3.out.cell (p := ⟨w.heap.size, 6, none⟩) H0.out.2.2).trans k6
  have q7 := (HB3.out.cell (p := ⟨w.heap.size, 7, none⟩) H0.out.2.2).trans k7
  have q8 := (HB3.out.cell (p := ⟨w.heap.size, 8, none⟩) H0.out.2.2).trans k8
  clear hb
  go_wp2_with fail
  refine (padded_is (n := Y) (wd := 4) rfl rfl (by decide) (by decide) (by omega) _ (H0.out.2.1.below HB3.out)).mono ?_
  rintro e w4 ⟨T3, rfl, hs3, HT3, hb⟩
  have HB4 : Hid (Below w0.heap.size w0 w4) := below_then HB3.out hb
  clear q0 q1 q2 q3 q4 q5 q6 q7 q8
  have q0 := (HB4.out.cell (p := ⟨w.heap.size, 0, none⟩) H0.out.2.2).trans k0
  have q1 := (HB4.out.cell (p := ⟨w.heap.size, 1, none⟩) H0.out.2.2).trans k1
  have q2 := (HB4.out.cell (p := ⟨w.heap.size, 2, none⟩) H0.out.2.2).trans k2
  have q3 := (HB4.out.cell (p := ⟨w.heap.size, 3, none⟩) H0.out.2.2).trans k3
  have q4 := (HB4.out.cell (p := ⟨w.heap.size, 4, none⟩) H0.out.2.2).trans k4
  have q5 := (HB4.out.cell (p := ⟨w.heap.size, 5, none⟩) H0.out.2.2).trans k5
  have q6 := (HB4.out.cell (p := ⟨w.heap.size, 6, none⟩) H0.out.2.2).trans k6
  have q7 := (HB4.out.cell (p := ⟨w.heap.size, 7, none⟩) H0.out.2.2).trans k7
  have q8 := (HB4.out.cell (p := ⟨w.heap.size, 8, none⟩) H0.out.2.2).trans k8
  clear hb
  go_wp2_with fail
  go_ret
  exact ⟨_, rfl, (HT3.out.app (HT2.out.app (HT1.out.app HT0.out))), H0.out.1.trans (HB4.out.mono (by have := H0.out.2.2; omega))⟩
set_option maxRecDepth 100000 in
set_option maxHeartbeats 1000000 in
theorem write_4 (Y Mo D H Mi Sc P G : Nat) (z : Bool) (zn : Int) (w : World) (hY : Y < 10000) (hMo : Mo < 100) (hD : D < 100) (hH : H < 100) (hMi : Mi < 100) (hSc : Sc < 100) (hPG : 4 = 7 → 1 ≤ G ∧ G ≤ 4 ∧ P < 10 ^ G) (hz : z = true → -840 ≤ zn ∧ zn ≤ 840) (hP : Pow w) : Calls Tryd.prog 23 #[.agg #[.int .i64 4, .int .i64 (Y : Int), .int .i64 (Mo : Int), .int .i64 (D : Int), .int .i64 (H : Int), .int .i64 (Mi : Int), .int .i64 (Sc : Int), .int .i64 (P : Int), .int .i64 (G : Int), .bool z, .int .i64 zn]] w fun e w' => ∃ T, e = .returned (.string T) ∧ Hid (Txt T (textL 4 Y Mo D H Mi Sc P G z zn)) ∧ Below w.heap.size w w' := by
  have HU : Hid ((Y < 10000 ∧ Mo < 100 ∧ D < 100 ∧ H < 100 ∧ Mi < 100 ∧ Sc < 100) ∧ (4 = 7 → 1 ≤ G ∧ G ≤ 4 ∧ P < 10 ^ G)) := ⟨⟨hY, hMo, hD, hH, hMi, hSc⟩, hPG⟩
  obtain ⟨w0, hw0⟩ : ∃ w0, w.alloc (.cells #[.int .i64 4, .int .i64 (Y : Int), .int .i64 (Mo : Int), .int .i64 (D : Int), .int .i64 (H : Int), .int .i64 (Mi : Int), .int .i64 (Sc : Int), .int .i64 (P : Int), .int .i64 (G : Int), .bool z, .int .i64 zn] 23) = w0 := ⟨_, rfl⟩
  have H0 : Hid (Below w.heap.size w w0 ∧ Pow w0 ∧ w.heap.size < w0.heap.size) := by unfold Hid; rw [← hw0]; exact ⟨(Below.refl _ _).alloc (Nat.le_refl _) _, hP.alloc _, by simp⟩
  have k : ∀ j x, (#[.int .i64 4, .int .i64 (Y : Int), .int .i64 (Mo : Int), .int .i64 (D : Int), .int .i64 (H : Int), .int .i64 (Mi : Int), .int .i64 (Sc : Int), .int .i64 (P : Int), .int .i64 (G : Int), .bool z, .int .i64 zn] : Array Value)[j]? = some x → w0.cell? ⟨w.heap.size, j, none⟩ = some x := fun j x h => by rw [← hw0]; simpa using h
  have k0 := k 0 _ rfl
  have k1 := k 1 _ rfl
  have k2 := k 2 _ rfl
  have k3 := k 3 _ rfl
  have k4 := k 4 _ rfl
  have k5 := k 5 _ rfl
  have k6 := k 6 _ rfl
  have k7 := k 7 _ rfl
  have k8 := k 8 _ rfl
  have k9 := k 9 _ rfl
  have k10 := k 10 _ rfl
  clear k hP hPG
  have HZ : Hid (z = true → -840 ≤ zn ∧ zn ≤ 840) := hz
  clear hz
  go_enter Tryd.func23, Tryd.ntmps23
  go_wp2_with fail
  refine (zoneText_any _ _ _ _ _ _ _ _ _ _ _ _ HZ.out H0.out.2.1).mono ?_
  rintro e w1 ⟨T0, rfl, HT0, hb⟩
  have hs0 : T0.size ≤ 5 := by rw [HT0.out.size]; exact zoneL_len _ _
  have HB1 : Hid (Below w0.heap.size w0 w1) := hb
  have q0 := (HB1.out.cell (p := ⟨w.heap.size, 0, none⟩) H0.out.2.2).trans k0
  have q1 := (HB1.out.cell (p := ⟨w.heap.size, 1, none⟩) H0.out.2.2).trans k1
  have q2 := (HB1.out.cell (p := ⟨w.heap.size, 2, none⟩) H0.out.2.2).trans k2
  have q3 := (HB1.out.cell (p := ⟨w.heap.size, 3, none⟩) H0.out.2.2).trans k3
  have q4 := (HB1.out.cell (p := ⟨w.heap.size, 4, none⟩) H0.out.2.2).trans k4
  have q5 := (HB1.out.cell (p := ⟨w.heap.size, 5, none⟩) H0.out.2.2).trans k5
  have q6 := (HB1.out.cell (p := ⟨w.heap.size, 6, none⟩) H0.out.2.2).trans k6
  have q7 := (HB1.out.cell (p := ⟨w.heap.size, 7, none⟩) H0.out.2.2).trans k7
  have q8 := (HB1.out.cell (p := ⟨w.heap.size, 8, none⟩) H0.out.2.2).trans k8
  clear hb
  go_wp2_with fail
  refine (padded_is (n := H) (wd := 2) rfl rfl (by decide) (by decide) (by omega) _ (H0.out.2.1.below HB1.out)).mono ?_
  rintro e w2 ⟨T1, rfl, hs1, HT1, hb⟩
  have HB2 : Hid (Below w0.heap.size w0 w2) := below_then HB1.out hb
  clear q0 q1 q2 q3 q4 q5 q6 q7 q8
  have q0 := (HB2.out.cell (p := ⟨w.heap.size, 0, none⟩) H0.out.2.2).trans k0
  have q1 := (HB2.out.cell (p := ⟨w.heap.size, 1, none⟩) H0.out.2.2).trans k1
  have q2 := (HB2.out.cell (p := ⟨w.heap.size, 2, none⟩) H0.out.2.2).trans k2
  have q3 := (HB2.out.cell (p := ⟨w.heap.size, 3, none⟩) H0.out.2.2).trans k3
  have q4 := (HB2.out.cell (p := ⟨w.heap.size, 4, none⟩) H0.out.2.2).trans k4
  have q5 := (HB2.out.cell (p := ⟨w.heap.size, 5, none⟩) H0.out.2.2).trans k5
  have q6 := (HB2.out.cell (p := ⟨w.heap.size, 6, none⟩) H0.out.2.2).trans k6
  have q7 := (HB2.out.cell (p := ⟨w.heap.size, 7, none⟩) H0.out.2.2).trans k7
  have q8 := (HB2.out.cell (p := ⟨w.heap.size, 8, none⟩) H0.out.2.2).trans k8
  clear hb
  go_wp2_with fail
  refine (padded_is (n := D) (wd := 2) rfl rfl (by decide) (by decide) (by omega) _ (H0.out.2.1.below HB2.out)).mono ?_
  rintro e w3 ⟨T2, rfl, hs2, HT2, hb⟩
  have HB3 : Hid (Below w0.heap.size w0 w3) := below_then HB2.out hb
  clear q0 q1 q2 q3 q4 q5 q6 q7 q8
  have q0 := (HB3.out.cell (p := ⟨w.heap.size, 0, none⟩) H0.out.2.2).trans k0
  have q1 := (HB3.out.cell (p := ⟨w.heap.size, 1, none⟩) H0.out.2.2).trans k1
  have q2 := (HB3.out.cell (p := ⟨w.heap.size, 2, none⟩) H0.out.2.2).trans k2
  have q3 := (HB3.out.cell (p := ⟨w.heap.size, 3, none⟩) H0.out.2.2).trans k3
  have q4 := (HB3.out.cell (p := ⟨w.heap.size, 4, none⟩) H0.out.2.2).trans k4
  have q5 := (HB3.out.cell (p := ⟨w.heap.size, 5, none⟩) H0.out.2.2).trans k5
  have q6 := (HB3.out.cell (p := ⟨w.heap.size, 6, none⟩) H0.out.2.2).trans k6
  have q7 := (HB3.out.cell (p := ⟨w.heap.size, 7, none⟩) H0.out.2.2).trans k7
  have q8 := (HB3.out.cell (p := ⟨w.heap.size, 8, none⟩) H0.out.2.2).trans k8
  clear hb
  go_wp2_with fail
  refine (padded_is (n := Mo) (wd := 2) rfl rfl (by decide) (by decide) (by omega) _ (H0.out.2.1.below HB3.out)).mono ?_
  rintro e w4 ⟨T3, rfl, hs3, HT3, hb⟩
  have HB4 : Hid (Below w0.heap.size w0 w4) := below_then HB3.out hb
  clear q0 q1 q2 q3 q4 q5 q6 q7 q8
  have q0 := (HB4.out.cell (p := ⟨w.heap.size, 0, none⟩) H0.out.2.2).trans k0
  have q1 := (HB4.out.cell (p := ⟨w.heap.size, 1, none⟩) H0.out.2.2).trans k1
  have q2 := (HB4.out.cell (p := ⟨w.heap.size, 2, none⟩) H0.out.2.2).trans k2
  have q3 := (HB4.out.cell (p := ⟨w.heap.size, 3, none⟩) H0.out.2.2).trans k3
  have q4 := (HB4.out.cell (p := ⟨w.heap.size, 4, none⟩) H0.out.2.2).trans k4
  have q5 := (HB4.out.cell (p := ⟨w.heap.size, 5, none⟩) H0.out.2.2).trans k5
  have q6 := (HB4.out.cell (p := ⟨w.heap.size, 6, none⟩) H0.out.2.2).trans k6
  have q7 := (HB4.out.cell (p := ⟨w.heap.size, 7, none⟩) H0.out.2.2).trans k7
  have q8 := (HB4.out.cell (p := ⟨w.heap.size, 8, none⟩) H0.out.2.2).trans k8
  clear hb
  go_wp2_with fail
  refine (padded_is (n := Y) (wd := 4) rfl rfl (by decide) (by decide) (by omega) _ (H0.out.2.1.below HB4.out)).mono ?_
  rintro e w5 ⟨T4, rfl, hs4, HT4, hb⟩
  have HB5 : Hid (Below w0.heap.size w0 w5) := below_then HB4.out hb
  clear q0 q1 q2 q3 q4 q5 q6 q7 q8
  have q0 := (HB5.out.cell (p := ⟨w.heap.size, 0, none⟩) H0.out.2.2).trans k0
  have q1 := (HB5.out.cell (p := ⟨w.heap.size, 1, none⟩) H0.out.2.2).trans k1
  have q2 := (HB5.out.cell (p := ⟨w.heap.size, 2, none⟩) H0.out.2.2).trans k2
  have q3 := (HB5.out.cell (p := ⟨w.heap.size, 3, none⟩) H0.out.2.2).trans k3
  have q4 := (HB5.out.cell (p := ⟨w.heap.size, 4, none⟩) H0.out.2.2).trans k4
  have q5 := (HB5.out.cell (p := ⟨w.heap.size, 5, none⟩) H0.out.2.2).trans k5
  have q6 := (HB5.out.cell (p := ⟨w.heap.size, 6, none⟩) H0.out.2.2).trans k6
  have q7 := (HB5.out.cell (p := ⟨w.heap.size, 7, none⟩) H0.out.2.2).trans k7
  have q8 := (HB5.out.cell (p := ⟨w.heap.size, 8, none⟩) H0.out.2.2).trans k8
  clear hb
  go_wp2_with fail
  go_ret
  exact ⟨_, rfl, (HT4.out.app (HT3.out.app (HT2.out.app (HT1.out.app HT0.out)))), H0.out.1.trans (HB5.out.mono (by have := H0.out.2.2; omega))⟩
set_option maxRecDepth 100000 in
set_option maxHeartbeats 1000000 in
theorem write_5 (Y Mo D H Mi Sc P G : Nat) (z : Bool) (zn : Int) (w : World) (hY : Y < 10000) (hMo : Mo < 100) (hD : D < 100) (hH : H < 100) (hMi : Mi < 100) (hSc : Sc < 100) (hPG : 5 = 7 → 1 ≤ G ∧ G ≤ 4 ∧ P < 10 ^ G) (hz : z = true → -840 ≤ zn ∧ zn ≤ 840) (hP : Pow w) : Calls Tryd.prog 23 #[.agg #[.int .i64 5, .int .i64 (Y : Int), .int .i64 (Mo : Int), .int .i64 (D : Int), .int .i64 (H : Int), .int .i64 (Mi : Int), .int .i64 (Sc : Int), .int .i64 (P : Int), .int .i64 (G : Int), .bool z, .int .i64 zn]] w fun e w' => ∃ T, e = .returned (.string T) ∧ Hid (Txt T (textL 5 Y Mo D H Mi Sc P G z zn)) ∧ Below w.heap.size w w' := by
  have HU : Hid ((Y < 10000 ∧ Mo < 100 ∧ D < 100 ∧ H < 100 ∧ Mi < 100 ∧ Sc < 100) ∧ (5 = 7 → 1 ≤ G ∧ G ≤ 4 ∧ P < 10 ^ G)) := ⟨⟨hY, hMo, hD, hH, hMi, hSc⟩, hPG⟩
  obtain ⟨w0, hw0⟩ : ∃ w0, w.alloc (.cells #[.int .i64 5, .int .i64 (Y : Int), .int .i64 (Mo : Int), .int .i64 (D : Int), .int .i64 (H : Int), .int .i64 (Mi : Int), .int .i64 (Sc : Int), .int .i64 (P : Int), .int .i64 (G : Int), .bool z, .int .i64 zn] 23) = w0 := ⟨_, rfl⟩
  have H0 : Hid (Below w.heap.size w w0 ∧ Pow w0 ∧ w.heap.size < w0.heap.size) := by unfold Hid; rw [← hw0]; exact ⟨(Below.refl _ _).alloc (Nat.le_refl _) _, hP.alloc _, by simp⟩
  have k : ∀ j x, (#[.int .i64 5, .int .i64 (Y : Int), .int .i64 (Mo : Int), .int .i64 (D : Int), .int .i64 (H : Int), .int .i64 (Mi : Int), .int .i64 (Sc : Int), .int .i64 (P : Int), .int .i64 (G : Int), .bool z, .int .i64 zn] : Array Value)[j]? = some x → w0.cell? ⟨w.heap.size, j, none⟩ = some x := fun j x h => by rw [← hw0]; simpa using h
  have k0 := k 0 _ rfl
  have k1 := k 1 _ rfl
  have k2 := k 2 _ rfl
  have k3 := k 3 _ rfl
  have k4 := k 4 _ rfl
  have k5 := k 5 _ rfl
  have k6 := k 6 _ rfl
  have k7 := k 7 _ rfl
  have k8 := k 8 _ rfl
  have k9 := k 9 _ rfl
  have k10 := k 10 _ rfl
  clear k hP hPG
  have HZ : Hid (z = true → -840 ≤ zn ∧ zn ≤ 840) := hz
  clear hz
  go_enter Tryd.func23, Tryd.ntmps23
  go_wp2_with fail
  refine (zoneText_any _ _ _ _ _ _ _ _ _ _ _ _ HZ.out H0.out.2.1).mono ?_
  rintro e w1 ⟨T0, rfl, HT0, hb⟩
  have hs0 : T0.size ≤ 5 := by rw [HT0.out.size]; exact zoneL_len _ _
  have HB1 : Hid (Below w0.heap.size w0 w1) := hb
  have q0 := (HB1.out.cell (p := ⟨w.heap.size, 0, none⟩) H0.out.2.2).trans k0
  have q1 := (HB1.out.cell (p := ⟨w.heap.size, 1, none⟩) H0.out.2.2).trans k1
  have q2 := (HB1.out.cell (p := ⟨w.heap.size, 2, none⟩) H0.out.2.2).trans k2
  have q3 := (HB1.out.cell (p := ⟨w.heap.size, 3, none⟩) H0.out.2.2).trans k3
  have q4 := (HB1.out.cell (p := ⟨w.heap.size, 4, none⟩) H0.out.2.2).trans k4
  have q5 := (HB1.out.cell (p := ⟨w.heap.size, 5, none⟩) H0.out.2.2).trans k5
  have q6 := (HB1.out.cell (p := ⟨w.heap.size, 6, none⟩) H0.out.2.2).trans k6
  have q7 := (HB1.out.cell (p := ⟨w.heap.size, 7, none⟩) H0.out.2.2).trans k7
  have q8 := (HB1.out.cell (p := ⟨w.heap.size, 8, none⟩) H0.out.2.2).trans k8
  clear hb
  go_wp2_with fail
  refine (padded_is (n := Mi) (wd := 2) rfl rfl (by decide) (by decide) (by omega) _ (H0.out.2.1.below HB1.out)).mono ?_
  rintro e w2 ⟨T1, rfl, hs1, HT1, hb⟩
  have HB2 : Hid (Below w0.heap.size w0 w2) := below_then HB1.out hb
  clear q0 q1 q2 q3 q4 q5 q6 q7 q8
  have q0 := (HB2.out.cell (p := ⟨w.heap.size, 0, none⟩) H0.out.2.2).trans k0
  have q1 := (HB2.out.cell (p := ⟨w.heap.size, 1, none⟩) H0.out.2.2).trans k1
  have q2 := (HB2.out.cell (p := ⟨w.heap.size, 2, none⟩) H0.out.2.2).trans k2
  have q3 := (HB2.out.cell (p := ⟨w.heap.size, 3, none⟩) H0.out.2.2).trans k3
  have q4 := (HB2.out.cell (p := ⟨w.heap.size, 4, none⟩) H0.out.2.2).trans k4
  have q5 := (HB2.out.cell (p := ⟨w.heap.size, 5, none⟩) H0.out.2.2).trans k5
  have q6 := (HB2.out.cell (p := ⟨w.heap.size, 6, none⟩) H0.out.2.2).trans k6
  have q7 := (HB2.out.cell (p := ⟨w.heap.size, 7, none⟩) H0.out.2.2).trans k7
  have q8 := (HB2.out.cell (p := ⟨w.heap.size, 8, none⟩) H0.out.2.2).trans k8
  clear hb
  go_wp2_with fail
  refine (padded_is (n := H) (wd := 2) rfl rfl (by decide) (by decide) (by omega) _ (H0.out.2.1.below HB2.out)).mono ?_
  rintro e w3 ⟨T2, rfl, hs2, HT2, hb⟩
  have HB3 : Hid (Below w0.heap.size w0 w3) := below_then HB2.out hb
  clear q0 q1 q2 q3 q4 q5 q6 q7 q8
  have q0 := (HB3.out.cell (p := ⟨w.heap.size, 0, none⟩) H0.out.2.2).trans k0
  have q1 := (HB3.out.cell (p := ⟨w.heap.size, 1, none⟩) H0.out.2.2).trans k1
  have q2 := (HB3.out.cell (p := ⟨w.heap.size, 2, none⟩) H0.out.2.2).trans k2
  have q3 := (HB3.out.cell (p := ⟨w.heap.size, 3, none⟩) H0.out.2.2).trans k3
  have q4 := (HB3.out.cell (p := ⟨w.heap.size, 4, none⟩) H0.out.2.2).trans k4
  have q5 := (HB3.out.cell (p := ⟨w.heap.size, 5, none⟩) H0.out.2.2).trans k5
  have q6 := (HB3.out.cell (p := ⟨w.heap.size, 6, none⟩) H0.out.2.2).trans k6
  have q7 := (HB3.out.cell (p := ⟨w.heap.size, 7, none⟩) H0.out.2.2).trans k7
  have q8 := (HB3.out.cell (p := ⟨w.heap.size, 8, none⟩) H0.out.2.2).trans k8
  clear hb
  go_wp2_with fail
  refine (padded_is (n := D) (wd := 2) rfl rfl (by decide) (by decide) (by omega) _ (H0.out.2.1.below HB3.out)).mono ?_
  rintro e w4 ⟨T3, rfl, hs3, HT3, hb⟩
  have HB4 : Hid (Below w0.heap.size w0 w4) := below_then HB3.out hb
  clear q0 q1 q2 q3 q4 q5 q6 q7 q8
  have q0 := (HB4.out.cell (p := ⟨w.heap.size, 0, none⟩) H0.out.2.2).trans k0
  have q1 := (HB4.out.cell (p := ⟨w.heap.size, 1, none⟩) H0.out.2.2).trans k1
  have q2 := (HB4.out.cell (p := ⟨w.heap.size, 2, none⟩) H0.out.2.2).trans k2
  have q3 := (HB4.out.cell (p := ⟨w.heap.size, 3, none⟩) H0.out.2.2).trans k3
  have q4 := (HB4.out.cell (p := ⟨w.heap.size, 4, none⟩) H0.out.2.2).trans k4
  have q5 := (HB4.out.cell (p := ⟨w.heap.size, 5, none⟩) H0.out.2.2).trans k5
  have q6 := (HB4.out.cell (p := ⟨w.heap.size, 6, none⟩) H0.out.2.2).trans k6
  have q7 := (HB4.out.cell (p := ⟨w.heap.size, 7, none⟩) H0.out.2.2).trans k7
  have q8 := (HB4.out.cell (p := ⟨w.heap.size, 8, none⟩) H0.out.2.2).trans k8
  clear hb
  go_wp2_with fail
  refine (padded_is (n := Mo) (wd := 2) rfl rfl (by decide) (by decide) (by omega) _ (H0.out.2.1.below HB4.out)).mono ?_
  rintro e w5 ⟨T4, rfl, hs4, HT4, hb⟩
  have HB5 : Hid (Below w0.heap.size w0 w5) := below_then HB4.out hb
  clear q0 q1 q2 q3 q4 q5 q6 q7 q8
  have q0 := (HB5.out.cell (p := ⟨w.heap.size, 0, none⟩) H0.out.2.2).trans k0
  have q1 := (HB5.out.cell (p := ⟨w.heap.size, 1, none⟩) H0.out.2.2).trans k1
  have q2 := (HB5.out.cell (p := ⟨w.heap.size, 2, none⟩) H0.out.2.2).trans k2
  have q3 := (HB5.out.cell (p := ⟨w.heap.size, 3, none⟩) H0.out.2.2).trans k3
  have q4 := (HB5.out.cell (p := ⟨w.heap.size, 4, none⟩) H0.out.2.2).trans k4
  have q5 := (HB5.out.cell (p := ⟨w.heap.size, 5, none⟩) H0.out.2.2).trans k5
  have q6 := (HB5.out.cell (p := ⟨w.heap.size, 6, none⟩) H0.out.2.2).trans k6
  have q7 := (HB5.out.cell (p := ⟨w.heap.size, 7, none⟩) H0.out.2.2).trans k7
  have q8 := (HB5.out.cell (p := ⟨w.heap.size, 8, none⟩) H0.out.2.2).trans k8
  clear hb
  go_wp2_with fail
  refine (padded_is (n := Y) (wd := 4) rfl rfl (by decide) (by decide) (by omega) _ (H0.out.2.1.below HB5.out)).mono ?_
  rintro e w6 ⟨T5, rfl, hs5, HT5, hb⟩
  have HB6 : Hid (Below w0.heap.size w0 w6) := below_then HB5.out hb
  clear q0 q1 q2 q3 q4 q5 q6 q7 q8
  have q0 := (HB6.out.cell (p := ⟨w.heap.size, 0, none⟩) H0.out.2.2).trans k0
  have q1 := (HB6.out.cell (p := ⟨w.heap.size, 1, none⟩) H0.out.2.2).trans k1
  have q2 := (HB6.out.cell (p := ⟨w.heap.size, 2, none⟩) H0.out.2.2).trans k2
  have q3 := (HB6.out.cell (p := ⟨w.heap.size, 3, none⟩) H0.out.2.2).trans k3
  have q4 := (HB6.out.cell (p := ⟨w.heap.size, 4, none⟩) H0.out.2.2).trans k4
  have q5 := (HB6.out.cell (p := ⟨w.heap.size, 5, none⟩) H0.out.2.2).trans k5
  have q6 := (HB6.out.cell (p := ⟨w.heap.size, 6, none⟩) H0.out.2.2).trans k6
  have q7 := (HB6.out.cell (p := ⟨w.heap.size, 7, none⟩) H0.out.2.2).trans k7
  have q8 := (HB6.out.cell (p := ⟨w.heap.size, 8, none⟩) H0.out.2.2).trans k8
  clear hb
  go_wp2_with fail
  go_ret
  exact ⟨_, rfl, (HT5.out.app (HT4.out.app (HT3.out.app (HT2.out.app (HT1.out.app HT0.out))))), H0.out.1.trans (HB6.out.mono (by have := H0.out.2.2; omega))⟩
set_option maxRecDepth 100000 in
set_option maxHeartbeats 1000000 in
theorem write_6 (Y Mo D H Mi Sc P G : Nat) (z : Bool) (zn : Int) (w : World) (hY : Y < 10000) (hMo : Mo < 100) (hD : D < 100) (hH : H < 100) (hMi : Mi < 100) (hSc : Sc < 100) (hPG : 6 = 7 → 1 ≤ G ∧ G ≤ 4 ∧ P < 10 ^ G) (hz : z = true → -840 ≤ zn ∧ zn ≤ 840) (hP : Pow w) : Calls Tryd.prog 23 #[.agg #[.int .i64 6, .int .i64 (Y : Int), .int .i64 (Mo : Int), .int .i64 (D : Int), .int .i64 (H : Int), .int .i64 (Mi : Int), .int .i64 (Sc : Int), .int .i64 (P : Int), .int .i64 (G : Int), .bool z, .int .i64 zn]] w fun e w' => ∃ T, e = .returned (.string T) ∧ Hid (Txt T (textL 6 Y Mo D H Mi Sc P G z zn)) ∧ Below w.heap.size w w' := by
  have HU : Hid ((Y < 10000 ∧ Mo < 100 ∧ D < 100 ∧ H < 100 ∧ Mi < 100 ∧ Sc < 100) ∧ (6 = 7 → 1 ≤ G ∧ G ≤ 4 ∧ P < 10 ^ G)) := ⟨⟨hY, hMo, hD, hH, hMi, hSc⟩, hPG⟩
  obtain ⟨w0, hw0⟩ : ∃ w0, w.alloc (.cells #[.int .i64 6, .int .i64 (Y : Int), .int .i64 (Mo : Int), .int .i64 (D : Int), .int .i64 (H : Int), .int .i64 (Mi : Int), .int .i64 (Sc : Int), .int .i64 (P : Int), .int .i64 (G : Int), .bool z, .int .i64 zn] 23) = w0 := ⟨_, rfl⟩
  have H0 : Hid (Below w.heap.size w w0 ∧ Pow w0 ∧ w.heap.size < w0.heap.size) := by unfold Hid; rw [← hw0]; exact ⟨(Below.refl _ _).alloc (Nat.le_refl _) _, hP.alloc _, by simp⟩
  have k : ∀ j x, (#[.int .i64 6, .int .i64 (Y : Int), .int .i64 (Mo : Int), .int .i64 (D : Int), .int .i64 (H : Int), .int .i64 (Mi : Int), .int .i64 (Sc : Int), .int .i64 (P : Int), .int .i64 (G : Int), .bool z, .int .i64 zn] : Array Value)[j]? = some x → w0.cell? ⟨w.heap.size, j, none⟩ = some x := fun j x h => by rw [← hw0]; simpa using h
  have k0 := k 0 _ rfl
  have k1 := k 1 _ rfl
  have k2 := k 2 _ rfl
  have k3 := k 3 _ rfl
  have k4 := k 4 _ rfl
  have k5 := k 5 _ rfl
  have k6 := k 6 _ rfl
  have k7 := k 7 _ rfl
  have k8 := k 8 _ rfl
  have k9 := k 9 _ rfl
  have k10 := k 10 _ rfl
  clear k hP hPG
  have HZ : Hid (z = true → -840 ≤ zn ∧ zn ≤ 840) := hz
  clear hz
  go_enter Tryd.func23, Tryd.ntmps23
  go_wp2_with fail
  refine (zoneText_any _ _ _ _ _ _ _ _ _ _ _ _ HZ.out H0.out.2.1).mono ?_
  rintro e w1 ⟨T0, rfl, HT0, hb⟩
  have hs0 : T0.size ≤ 5 := by rw [HT0.out.size]; exact zoneL_len _ _
  have HB1 : Hid (Below w0.heap.size w0 w1) := hb
  have q0 := (HB1.out.cell (p := ⟨w.heap.size, 0, none⟩) H0.out.2.2).trans k0
  have q1 := (HB1.out.cell (p := ⟨w.heap.size, 1, none⟩) H0.out.2.2).trans k1
  have q2 := (HB1.out.cell (p := ⟨w.heap.size, 2, none⟩) H0.out.2.2).trans k2
  have q3 := (HB1.out.cell (p := ⟨w.heap.size, 3, none⟩) H0.out.2.2).trans k3
  have q4 := (HB1.out.cell (p := ⟨w.heap.size, 4, none⟩) H0.out.2.2).trans k4
  have q5 := (HB1.out.cell (p := ⟨w.heap.size, 5, none⟩) H0.out.2.2).trans k5
  have q6 := (HB1.out.cell (p := ⟨w.heap.size, 6, none⟩) H0.out.2.2).trans k6
  have q7 := (HB1.out.cell (p := ⟨w.heap.size, 7, none⟩) H0.out.2.2).trans k7
  have q8 := (HB1.out.cell (p := ⟨w.heap.size, 8, none⟩) H0.out.2.2).trans k8
  clear hb
  go_wp2_with fail
  refine (padded_is (n := Sc) (wd := 2) rfl rfl (by decide) (by decide) (by omega) _ (H0.out.2.1.below HB1.out)).mono ?_
  rintro e w2 ⟨T1, rfl, hs1, HT1, hb⟩
  have HB2 : Hid (Below w0.heap.size w0 w2) := below_then HB1.out hb
  clear q0 q1 q2 q3 q4 q5 q6 q7 q8
  have q0 := (HB2.out.cell (p := ⟨w.heap.size, 0, none⟩) H0.out.2.2).trans k0
  have q1 := (HB2.out.cell (p := ⟨w.heap.size, 1, none⟩) H0.out.2.2).trans k1
  have q2 := (HB2.out.cell (p := ⟨w.heap.size, 2, none⟩) H0.out.2.2).trans k2
  have q3 := (HB2.out.cell (p := ⟨w.heap.size, 3, none⟩) H0.out.2.2).trans k3
  have q4 := (HB2.out.cell (p := ⟨w.heap.size, 4, none⟩) H0.out.2.2).trans k4
  have q5 := (HB2.out.cell (p := ⟨w.heap.size, 5, none⟩) H0.out.2.2).trans k5
  have q6 := (HB2.out.cell (p := ⟨w.heap.size, 6, none⟩) H0.out.2.2).trans k6
  have q7 := (HB2.out.cell (p := ⟨w.heap.size, 7, none⟩) H0.out.2.2).trans k7
  have q8 := (HB2.out.cell (p := ⟨w.heap.size, 8, none⟩) H0.out.2.2).trans k8
  clear hb
  go_wp2_with fail
  refine (padded_is (n := Mi) (wd := 2) rfl rfl (by decide) (by decide) (by omega) _ (H0.out.2.1.below HB2.out)).mono ?_
  rintro e w3 ⟨T2, rfl, hs2, HT2, hb⟩
  have HB3 : Hid (Below w0.heap.size w0 w3) := below_then HB2.out hb
  clear q0 q1 q2 q3 q4 q5 q6 q7 q8
  have q0 := (HB3.out.cell (p := ⟨w.heap.size, 0, none⟩) H0.out.2.2).trans k0
  have q1 := (HB3.out.cell (p := ⟨w.heap.size, 1, none⟩) H0.out.2.2).trans k1
  have q2 := (HB3.out.cell (p := ⟨w.heap.size, 2, none⟩) H0.out.2.2).trans k2
  have q3 := (HB3.out.cell (p := ⟨w.heap.size, 3, none⟩) H0.out.2.2).trans k3
  have q4 := (HB3.out.cell (p := ⟨w.heap.size, 4, none⟩) H0.out.2.2).trans k4
  have q5 := (HB3.out.cell (p := ⟨w.heap.size, 5, none⟩) H0.out.2.2).trans k5
  have q6 := (HB3.out.cell (p := ⟨w.heap.size, 6, none⟩) H0.out.2.2).trans k6
  have q7 := (HB3.out.cell (p := ⟨w.heap.size, 7, none⟩) H0.out.2.2).trans k7
  have q8 := (HB3.out.cell (p := ⟨w.heap.size, 8, none⟩) H0.out.2.2).trans k8
  clear hb
  go_wp2_with fail
  refine (padded_is (n := H) (wd := 2) rfl rfl (by decide) (by decide) (by omega) _ (H0.out.2.1.below HB3.out)).mono ?_
  rintro e w4 ⟨T3, rfl, hs3, HT3, hb⟩
  have HB4 : Hid (Below w0.heap.size w0 w4) := below_then HB3.out hb
  clear q0 q1 q2 q3 q4 q5 q6 q7 q8
  have q0 := (HB4.out.cell (p := ⟨w.heap.size, 0, none⟩) H0.out.2.2).trans k0
  have q1 := (HB4.out.cell (p := ⟨w.heap.size, 1, none⟩) H0.out.2.2).trans k1
  have q2 := (HB4.out.cell (p := ⟨w.heap.size, 2, none⟩) H0.out.2.2).trans k2
  have q3 := (HB4.out.cell (p := ⟨w.heap.size, 3, none⟩) H0.out.2.2).trans k3
  have q4 := (HB4.out.cell (p := ⟨w.heap.size, 4, none⟩) H0.out.2.2).trans k4
  have q5 := (HB4.out.cell (p := ⟨w.heap.size, 5, none⟩) H0.out.2.2).trans k5
  have q6 := (HB4.out.cell (p := ⟨w.heap.size, 6, none⟩) H0.out.2.2).trans k6
  have q7 := (HB4.out.cell (p := ⟨w.heap.size, 7, none⟩) H0.out.2.2).trans k7
  have q8 := (HB4.out.cell (p := ⟨w.heap.size, 8, none⟩) H0.out.2.2).trans k8
  clear hb
  go_wp2_with fail
  refine (padded_is (n := D) (wd := 2) rfl rfl (by decide) (by decide) (by omega) _ (H0.out.2.1.below HB4.out)).mono ?_
  rintro e w5 ⟨T4, rfl, hs4, HT4, hb⟩
  have HB5 : Hid (Below w0.heap.size w0 w5) := below_then HB4.out hb
  clear q0 q1 q2 q3 q4 q5 q6 q7 q8
  have q0 := (HB5.out.cell (p := ⟨w.heap.size, 0, none⟩) H0.out.2.2).trans k0
  have q1 := (HB5.out.cell (p := ⟨w.heap.size, 1, none⟩) H0.out.2.2).trans k1
  have q2 := (HB5.out.cell (p := ⟨w.heap.size, 2, none⟩) H0.out.2.2).trans k2
  have q3 := (HB5.out.cell (p := ⟨w.heap.size, 3, none⟩) H0.out.2.2).trans k3
  have q4 := (HB5.out.cell (p := ⟨w.heap.size, 4, none⟩) H0.out.2.2).trans k4
  have q5 := (HB5.out.cell (p := ⟨w.heap.size, 5, none⟩) H0.out.2.2).trans k5
  have q6 := (HB5.out.cell (p := ⟨w.heap.size, 6, none⟩) H0.out.2.2).trans k6
  have q7 := (HB5.out.cell (p := ⟨w.heap.size, 7, none⟩) H0.out.2.2).trans k7
  have q8 := (HB5.out.cell (p := ⟨w.heap.size, 8, none⟩) H0.out.2.2).trans k8
  clear hb
  go_wp2_with fail
  refine (padded_is (n := Mo) (wd := 2) rfl rfl (by decide) (by decide) (by omega) _ (H0.out.2.1.below HB5.out)).mono ?_
  rintro e w6 ⟨T5, rfl, hs5, HT5, hb⟩
  have HB6 : Hid (Below w0.heap.size w0 w6) := below_then HB5.out hb
  clear q0 q1 q2 q3 q4 q5 q6 q7 q8
  have q0 := (HB6.out.cell (p := ⟨w.heap.size, 0, none⟩) H0.out.2.2).trans k0
  have q1 := (HB6.out.cell (p := ⟨w.heap.size, 1, none⟩) H0.out.2.2).trans k1
  have q2 := (HB6.out.cell (p := ⟨w.heap.size, 2, none⟩) H0.out.2.2).trans k2
  have q3 := (HB6.out.cell (p := ⟨w.heap.size, 3, none⟩) H0.out.2.2).trans k3
  have q4 := (HB6.out.cell (p := ⟨w.heap.size, 4, none⟩) H0.out.2.2).trans k4
  have q5 := (HB6.out.cell (p := ⟨w.heap.size, 5, none⟩) H0.out.2.2).trans k5
  have q6 := (HB6.out.cell (p := ⟨w.heap.size, 6, none⟩) H0.out.2.2).trans k6
  have q7 := (HB6.out.cell (p := ⟨w.heap.size, 7, none⟩) H0.out.2.2).trans k7
  have q8 := (HB6.out.cell (p := ⟨w.heap.size, 8, none⟩) H0.out.2.2).trans k8
  clear hb
  go_wp2_with fail
  refine (padded_is (n := Y) (wd := 4) rfl rfl (by decide) (by decide) (by omega) _ (H0.out.2.1.below HB6.out)).mono ?_
  rintro e w7 ⟨T6, rfl, hs6, HT6, hb⟩
  have HB7 : Hid (Below w0.heap.size w0 w7) := below_then HB6.out hb
  clear q0 q1 q2 q3 q4 q5 q6 q7 q8
  have q0 := (HB7.out.cell (p := ⟨w.heap.size, 0, none⟩) H0.out.2.2).trans k0
  have q1 := (HB7.out.cell (p := ⟨w.heap.size, 1, none⟩) H0.out.2.2).trans k1
  have q2 := (HB7.out.cell (p := ⟨w.heap.size, 2, none⟩) H0.out.2.2).trans k2
  have q3 := (HB7.out.cell (p := ⟨w.heap.size, 3, none⟩) H0.out.2.2).trans k3
  have q4 := (HB7.out.cell (p := ⟨w.heap.size, 4, none⟩) H0.out.2.2).trans k4
  have q5 := (HB7.out.cell (p := ⟨w.heap.size, 5, none⟩) H0.out.2.2).trans k5
  have q6 := (HB7.out.cell (p := ⟨w.heap.size, 6, none⟩) H0.out.2.2).trans k6
  have q7 := (HB7.out.cell (p := ⟨w.heap.size, 7, none⟩) H0.out.2.2).trans k7
  have q8 := (HB7.out.cell (p := ⟨w.heap.size, 8, none⟩) H0.out.2.2).trans k8
  clear hb
  go_wp2_with fail
  go_ret
  exact ⟨_, rfl, (HT6.out.app (HT5.out.app (HT4.out.app (HT3.out.app (HT2.out.app (HT1.out.app HT0.out)))))), H0.out.1.trans (HB7.out.mono (by have := H0.out.2.2; omega))⟩
set_option maxRecDepth 100000 in
set_option maxHeartbeats 1000000 in
theorem write_7 (Y Mo D H Mi Sc P G : Nat) (z : Bool) (zn : Int) (w : World) (hY : Y < 10000) (hMo : Mo < 100) (hD : D < 100) (hH : H < 100) (hMi : Mi < 100) (hSc : Sc < 100) (hPG : 7 = 7 → 1 ≤ G ∧ G ≤ 4 ∧ P < 10 ^ G) (hz : z = true → -840 ≤ zn ∧ zn ≤ 840) (hP : Pow w) : Calls Tryd.prog 23 #[.agg #[.int .i64 7, .int .i64 (Y : Int), .int .i64 (Mo : Int), .int .i64 (D : Int), .int .i64 (H : Int), .int .i64 (Mi : Int), .int .i64 (Sc : Int), .int .i64 (P : Int), .int .i64 (G : Int), .bool z, .int .i64 zn]] w fun e w' => ∃ T, e = .returned (.string T) ∧ Hid (Txt T (textL 7 Y Mo D H Mi Sc P G z zn)) ∧ Below w.heap.size w w' := by
  have HU : Hid ((Y < 10000 ∧ Mo < 100 ∧ D < 100 ∧ H < 100 ∧ Mi < 100 ∧ Sc < 100) ∧ (7 = 7 → 1 ≤ G ∧ G ≤ 4 ∧ P < 10 ^ G)) := ⟨⟨hY, hMo, hD, hH, hMi, hSc⟩, hPG⟩
  obtain ⟨w0, hw0⟩ : ∃ w0, w.alloc (.cells #[.int .i64 7, .int .i64 (Y : Int), .int .i64 (Mo : Int), .int .i64 (D : Int), .int .i64 (H : Int), .int .i64 (Mi : Int), .int .i64 (Sc : Int), .int .i64 (P : Int), .int .i64 (G : Int), .bool z, .int .i64 zn] 23) = w0 := ⟨_, rfl⟩
  have H0 : Hid (Below w.heap.size w w0 ∧ Pow w0 ∧ w.heap.size < w0.heap.size) := by unfold Hid; rw [← hw0]; exact ⟨(Below.refl _ _).alloc (Nat.le_refl _) _, hP.alloc _, by simp⟩
  have k : ∀ j x, (#[.int .i64 7, .int .i64 (Y : Int), .int .i64 (Mo : Int), .int .i64 (D : Int), .int .i64 (H : Int), .int .i64 (Mi : Int), .int .i64 (Sc : Int), .int .i64 (P : Int), .int .i64 (G : Int), .bool z, .int .i64 zn] : Array Value)[j]? = some x → w0.cell? ⟨w.heap.size, j, none⟩ = some x := fun j x h => by rw [← hw0]; simpa using h
  have k0 := k 0 _ rfl
  have k1 := k 1 _ rfl
  have k2 := k 2 _ rfl
  have k3 := k 3 _ rfl
  have k4 := k 4 _ rfl
  have k5 := k 5 _ rfl
  have k6 := k 6 _ rfl
  have k7 := k 7 _ rfl
  have k8 := k 8 _ rfl
  have k9 := k 9 _ rfl
  have k10 := k 10 _ rfl
  clear k hP hPG
  have HZ : Hid (z = true → -840 ≤ zn ∧ zn ≤ 840) := hz
  clear hz
  obtain ⟨hG1, hG, hPG⟩ := HU.out.2 rfl
  go_enter Tryd.func23, Tryd.ntmps23
  go_wp2_with fail
  refine (zoneText_any _ _ _ _ _ _ _ _ _ _ _ _ HZ.out H0.out.2.1).mono ?_
  rintro e w1 ⟨T0, rfl, HT0, hb⟩
  have hs0 : T0.size ≤ 5 := by rw [HT0.out.size]; exact zoneL_len _ _
  have HB1 : Hid (Below w0.heap.size w0 w1) := hb
  have q0 := (HB1.out.cell (p := ⟨w.heap.size, 0, none⟩) H0.out.2.2).trans k0
  have q1 := (HB1.out.cell (p := ⟨w.heap.size, 1, none⟩) H0.out.2.2).trans k1
  have q2 := (HB1.out.cell (p := ⟨w.heap.size, 2, none⟩) H0.out.2.2).trans k2
  have q3 := (HB1.out.cell (p := ⟨w.heap.size, 3, none⟩) H0.out.2.2).trans k3
  have q4 := (HB1.out.cell (p := ⟨w.heap.size, 4, none⟩) H0.out.2.2).trans k4
  have q5 := (HB1.out.cell (p := ⟨w.heap.size, 5, none⟩) H0.out.2.2).trans k5
  have q6 := (HB1.out.cell (p := ⟨w.heap.size, 6, none⟩) H0.out.2.2).trans k6
  have q7 := (HB1.out.cell (p := ⟨w.heap.size, 7, none⟩) H0.out.2.2).trans k7
  have q8 := (HB1.out.cell (p := ⟨w.heap.size, 8, none⟩) H0.out.2.2).trans k8
  clear hb
  go_wp2_with fail
  refine (padded_is (n := P) (wd := G) rfl rfl hG1 hG hPG _ (H0.out.2.1.below HB1.out)).mono ?_
  rintro e w2 ⟨T1, rfl, hs1, HT1, hb⟩
  have HB2 : Hid (Below w0.heap.size w0 w2) := below_then HB1.out hb
  clear q0 q1 q2 q3 q4 q5 q6 q7 q8
  have q0 := (HB2.out.cell (p := ⟨w.heap.size, 0, none⟩) H0.out.2.2).trans k0
  have q1 := (HB2.out.cell (p := ⟨w.heap.size, 1, none⟩) H0.out.2.2).trans k1
  have q2 := (HB2.out.cell (p := ⟨w.heap.size, 2, none⟩) H0.out.2.2).trans k2
  have q3 := (HB2.out.cell (p := ⟨w.heap.size, 3, none⟩) H0.out.2.2).trans k3
  have q4 := (HB2.out.cell (p := ⟨w.heap.size, 4, none⟩) H0.out.2.2).trans k4
  have q5 := (HB2.out.cell (p := ⟨w.heap.size, 5, none⟩) H0.out.2.2).trans k5
  have q6 := (HB2.out.cell (p := ⟨w.heap.size, 6, none⟩) H0.out.2.2).trans k6
  have q7 := (HB2.out.cell (p := ⟨w.heap.size, 7, none⟩) H0.out.2.2).trans k7
  have q8 := (HB2.out.cell (p := ⟨w.heap.size, 8, none⟩) H0.out.2.2).trans k8
  clear hb
  go_wp2_with fail
  refine (padded_is (n := Sc) (wd := 2) rfl rfl (by decide) (by decide) (by omega) _ (H0.out.2.1.below HB2.out)).mono ?_
  rintro e w3 ⟨T2, rfl, hs2, HT2, hb⟩
  have HB3 : Hid (Below w0.heap.size w0 w3) := below_then HB2.out hb
  clear q0 q1 q2 q3 q4 q5 q6 q7 q8
  have q0 := (HB3.out.cell (p := ⟨w.heap.size, 0, none⟩) H0.out.2.2).trans k0
  have q1 := (HB3.out.cell (p := ⟨w.heap.size, 1, none⟩) H0.out.2.2).trans k1
  have q2 := (HB3.out.cell (p := ⟨w.heap.size, 2, none⟩) H0.out.2.2).trans k2
  have q3 := (HB3.out.cell (p := ⟨w.heap.size, 3, none⟩) H0.out.2.2).trans k3
  have q4 := (HB3.out.cell (p := ⟨w.heap.size, 4, none⟩) H0.out.2.2).trans k4
  have q5 := (HB3.out.cell (p := ⟨w.heap.size, 5, none⟩) H0.out.2.2).trans k5
  have q6 := (HB3.out.cell (p := ⟨w.heap.size, 6, none⟩) H0.out.2.2).trans k6
  have q7 := (HB3.out.cell (p := ⟨w.heap.size, 7, none⟩) H0.out.2.2).trans k7
  have q8 := (HB3.out.cell (p := ⟨w.heap.size, 8, none⟩) H0.out.2.2).trans k8
  clear hb
  go_wp2_with fail
  refine (padded_is (n := Mi) (wd := 2) rfl rfl (by decide) (by decide) (by omega) _ (H0.out.2.1.below HB3.out)).mono ?_
  rintro e w4 ⟨T3, rfl, hs3, HT3, hb⟩
  have HB4 : Hid (Below w0.heap.size w0 w4) := below_then HB3.out hb
  clear q0 q1 q2 q3 q4 q5 q6 q7 q8
  have q0 := (HB4.out.cell (p := ⟨w.heap.size, 0, none⟩) H0.out.2.2).trans k0
  have q1 := (HB4.out.cell (p := ⟨w.heap.size, 1, none⟩) H0.out.2.2).trans k1
  have q2 := (HB4.out.cell (p := ⟨w.heap.size, 2, none⟩) H0.out.2.2).trans k2
  have q3 := (HB4.out.cell (p := ⟨w.heap.size, 3, none⟩) H0.out.2.2).trans k3
  have q4 := (HB4.out.cell (p := ⟨w.heap.size, 4, none⟩) H0.out.2.2).trans k4
  have q5 := (HB4.out.cell (p := ⟨w.heap.size, 5, none⟩) H0.out.2.2).trans k5
  have q6 := (HB4.out.cell (p := ⟨w.heap.size, 6, none⟩) H0.out.2.2).trans k6
  have q7 := (HB4.out.cell (p := ⟨w.heap.size, 7, none⟩) H0.out.2.2).trans k7
  have q8 := (HB4.out.cell (p := ⟨w.heap.size, 8, none⟩) H0.out.2.2).trans k8
  clear hb
  go_wp2_with fail
  refine (padded_is (n := H) (wd := 2) rfl rfl (by decide) (by decide) (by omega) _ (H0.out.2.1.below HB4.out)).mono ?_
  rintro e w5 ⟨T4, rfl, hs4, HT4, hb⟩
  have HB5 : Hid (Below w0.heap.size w0 w5) := below_then HB4.out hb
  clear q0 q1 q2 q3 q4 q5 q6 q7 q8
  have q0 := (HB5.out.cell (p := ⟨w.heap.size, 0, none⟩) H0.out.2.2).trans k0
  have q1 := (HB5.out.cell (p := ⟨w.heap.size, 1, none⟩) H0.out.2.2).trans k1
  have q2 := (HB5.out.cell (p := ⟨w.heap.size, 2, none⟩) H0.out.2.2).trans k2
  have q3 := (HB5.out.cell (p := ⟨w.heap.size, 3, none⟩) H0.out.2.2).trans k3
  have q4 := (HB5.out.cell (p := ⟨w.heap.size, 4, none⟩) H0.out.2.2).trans k4
  have q5 := (HB5.out.cell (p := ⟨w.heap.size, 5, none⟩) H0.out.2.2).trans k5
  have q6 := (HB5.out.cell (p := ⟨w.heap.size, 6, none⟩) H0.out.2.2).trans k6
  have q7 := (HB5.out.cell (p := ⟨w.heap.size, 7, none⟩) H0.out.2.2).trans k7
  have q8 := (HB5.out.cell (p := ⟨w.heap.size, 8, none⟩) H0.out.2.2).trans k8
  clear hb
  go_wp2_with fail
  refine (padded_is (n := D) (wd := 2) rfl rfl (by decide) (by decide) (by omega) _ (H0.out.2.1.below HB5.out)).mono ?_
  rintro e w6 ⟨T5, rfl, hs5, HT5, hb⟩
  have HB6 : Hid (Below w0.heap.size w0 w6) := below_then HB5.out hb
  clear q0 q1 q2 q3 q4 q5 q6 q7 q8
  have q0 := (HB6.out.cell (p := ⟨w.heap.size, 0, none⟩) H0.out.2.2).trans k0
  have q1 := (HB6.out.cell (p := ⟨w.heap.size, 1, none⟩) H0.out.2.2).trans k1
  have q2 := (HB6.out.cell (p := ⟨w.heap.size, 2, none⟩) H0.out.2.2).trans k2
  have q3 := (HB6.out.cell (p := ⟨w.heap.size, 3, none⟩) H0.out.2.2).trans k3
  have q4 := (HB6.out.cell (p := ⟨w.heap.size, 4, none⟩) H0.out.2.2).trans k4
  have q5 := (HB6.out.cell (p := ⟨w.heap.size, 5, none⟩) H0.out.2.2).trans k5
  have q6 := (HB6.out.cell (p := ⟨w.heap.size, 6, none⟩) H0.out.2.2).trans k6
  have q7 := (HB6.out.cell (p := ⟨w.heap.size, 7, none⟩) H0.out.2.2).trans k7
  have q8 := (HB6.out.cell (p := ⟨w.heap.size, 8, none⟩) H0.out.2.2).trans k8
  clear hb
  go_wp2_with fail
  refine (padded_is (n := Mo) (wd := 2) rfl rfl (by decide) (by decide) (by omega) _ (H0.out.2.1.below HB6.out)).mono ?_
  rintro e w7 ⟨T6, rfl, hs6, HT6, hb⟩
  have HB7 : Hid (Below w0.heap.size w0 w7) := below_then HB6.out hb
  clear q0 q1 q2 q3 q4 q5 q6 q7 q8
  have q0 := (HB7.out.cell (p := ⟨w.heap.size, 0, none⟩) H0.out.2.2).trans k0
  have q1 := (HB7.out.cell (p := ⟨w.heap.size, 1, none⟩) H0.out.2.2).trans k1
  have q2 := (HB7.out.cell (p := ⟨w.heap.size, 2, none⟩) H0.out.2.2).trans k2
  have q3 := (HB7.out.cell (p := ⟨w.heap.size, 3, none⟩) H0.out.2.2).trans k3
  have q4 := (HB7.out.cell (p := ⟨w.heap.size, 4, none⟩) H0.out.2.2).trans k4
  have q5 := (HB7.out.cell (p := ⟨w.heap.size, 5, none⟩) H0.out.2.2).trans k5
  have q6 := (HB7.out.cell (p := ⟨w.heap.size, 6, none⟩) H0.out.2.2).trans k6
  have q7 := (HB7.out.cell (p := ⟨w.heap.size, 7, none⟩) H0.out.2.2).trans k7
  have q8 := (HB7.out.cell (p := ⟨w.heap.size, 8, none⟩) H0.out.2.2).trans k8
  clear hb
  go_wp2_with fail
  refine (padded_is (n := Y) (wd := 4) rfl rfl (by decide) (by decide) (by omega) _ (H0.out.2.1.below HB7.out)).mono ?_
  rintro e w8 ⟨T7, rfl, hs7, HT7, hb⟩
  have HB8 : Hid (Below w0.heap.size w0 w8) := below_then HB7.out hb
  clear q0 q1 q2 q3 q4 q5 q6 q7 q8
  have q0 := (HB8.out.cell (p := ⟨w.heap.size, 0, none⟩) H0.out.2.2).trans k0
  have q1 := (HB8.out.cell (p := ⟨w.heap.size, 1, none⟩) H0.out.2.2).trans k1
  have q2 := (HB8.out.cell (p := ⟨w.heap.size, 2, none⟩) H0.out.2.2).trans k2
  have q3 := (HB8.out.cell (p := ⟨w.heap.size, 3, none⟩) H0.out.2.2).trans k3
  have q4 := (HB8.out.cell (p := ⟨w.heap.size, 4, none⟩) H0.out.2.2).trans k4
  have q5 := (HB8.out.cell (p := ⟨w.heap.size, 5, none⟩) H0.out.2.2).trans k5
  have q6 := (HB8.out.cell (p := ⟨w.heap.size, 6, none⟩) H0.out.2.2).trans k6
  have q7 := (HB8.out.cell (p := ⟨w.heap.size, 7, none⟩) H0.out.2.2).trans k7
  have q8 := (HB8.out.cell (p := ⟨w.heap.size, 8, none⟩) H0.out.2.2).trans k8
  clear hb
  go_wp2_with fail
  go_ret
  exact ⟨_, rfl, (HT7.out.app (HT6.out.app (HT5.out.app (HT4.out.app (HT3.out.app (HT2.out.app ((Txt.app (T := ⟨#[46]⟩) (l := [46]) rfl HT1.out).app HT0.out))))))), H0.out.1.trans (HB8.out.mono (by have := H0.out.2.2; omega))⟩
end Go.Proofs.YtpcdkafjogpdkaaDoor
