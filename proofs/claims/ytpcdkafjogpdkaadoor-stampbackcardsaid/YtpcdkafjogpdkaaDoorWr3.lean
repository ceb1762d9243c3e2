/-
  Print.
-/
import Derived.Test.YtpcdkafjogpdkaaDoorWr2
namespace Go.Proofs.YtpcdkafjogpdkaaDoor
open Go.RowKit

theorem write_any {lv : Nat} (h1 : 1 ≤ lv) (h7 : lv ≤ 7) (Y Mo D H Mi Sc P G : Nat) (z : Bool) (zn : Int) (w : World) (hY : Y < 10000) (hMo : Mo < 100) (hD : D < 100) (hH : H < 100) (hMi : Mi < 100) (hSc : Sc < 100) (hPG : lv = 7 → 1 ≤ G ∧ G ≤ 4 ∧ P < 10 ^ G) (hz : z = true → -840 ≤ zn ∧ zn ≤ 840) (hP : Pow w) :
    Calls Tryd.prog 23 #[.agg #[.int .i64 ((lv : Int)), .int .i64 ((Y : Int)), .int .i64 ((Mo : Int)), .int .i64 ((D : Int)), .int .i64 ((H : Int)), .int .i64 ((Mi : Int)), .int .i64 ((Sc : Int)), .int .i64 ((P : Int)), .int .i64 ((G : Int)), .bool z, .int .i64 zn]] w fun e w' => ∃ T, e = .returned (.string T) ∧ Hid (Txt T (textL lv Y Mo D H Mi Sc P G z zn)) ∧ Below w.heap.size w w' := by
  obtain rfl | rfl | rfl | rfl | rfl | rfl | rfl : lv = 1 ∨ lv = 2 ∨ lv = 3 ∨ lv = 4 ∨ lv = 5 ∨ lv = 6 ∨ lv = 7 := by omega
  · exact write_1 Y Mo D H Mi Sc P G z zn w hY hMo hD hH hMi hSc hPG hz hP
  · exact write_2 Y Mo D H Mi Sc P G z zn w hY hMo hD hH hMi hSc hPG hz hP
  · exact write_3 Y Mo D H Mi Sc P G z zn w hY hMo hD hH hMi hSc hPG hz hP
  · exact write_4 Y Mo D H Mi Sc P G z zn w hY hMo hD hH hMi hSc hPG hz hP
  · exact write_5 Y Mo D H Mi Sc P G z zn w hY hMo hD hH hMi hSc hPG hz hP
  · exact write_6 Y Mo D H Mi Sc P G z zn w hY hMo hD hH hMi hSc hPG hz hP
  · exact write_7 Y Mo D H Mi Sc P G z zn w hY hMo hD hH hMi hSc hPG hz hP
theorem fit_nat {t : Bool} {v lo hi : Int} (h : fitB t v lo hi = true) (hlo : 0 ≤ lo) (hhi : hi ≤ 99) : 0 ≤ v ∧ v < 100 := by
  unfold fitB inB at h
  cases t <;> simp at h <;> omega
/-- A right stamp's numbers. -/
theorem right_nat {lv y mo d h mi s p dg zn : Int} {z : Bool} (hr : rightB lv y mo d h mi s p dg zn z = true) :
    ∃ L Y Mo D H Mi Sc P G : Nat, lv = L ∧ y = Y ∧ mo = Mo ∧ d = D ∧ h = H ∧ mi = Mi ∧ s = Sc ∧ p = P ∧ dg = G ∧ 1 ≤ L ∧ L ≤ 7 ∧ Y < 10000 ∧ Mo < 100 ∧ D < 100 ∧ H < 100 ∧ Mi < 100 ∧ Sc < 100 ∧ (L = 7 → 1 ≤ G ∧ G ≤ 4 ∧ P < 10 ^ G) ∧ (z = true → -840 ≤ zn ∧ zn ≤ 840) := by
  unfold rightB dateB clockB partB zoneB at hr
  simp only [Bool.and_eq_true] at hr
  obtain ⟨⟨⟨⟨⟨⟨a1, a2⟩, a3⟩, a4⟩, ⟨⟨b1, b2⟩, b3⟩⟩, ⟨c1, c2⟩⟩, e1⟩ := hr
  rw [inB_iff] at a1 a2
  have m1 := fit_nat a3 (by decide) (by decide)
  have m2 := fit_nat a4 (by decide) (by have := din_bd y mo; omega)
  have m3 := fit_nat b1 (by decide) (by decide)
  have m4 := fit_nat b2 (by decide) (by decide)
  have m5 := fit_nat b3 (by decide) (by decide)
  have m6 := fit_nat c1 (by decide) (by decide)
  have m7 : 0 ≤ p := by
    unfold fitB inB at c2
    cases hl : (lv == 7) <;> rw [hl] at c2 <;> simp at c2 <;> omega
  refine ⟨lv.toNat, y.toNat, mo.toNat, d.toNat, h.toNat, mi.toNat, s.toNat, p.toNat, dg.toNat, by omega, by omega, by omega, by omega, by omega, by omega, by omega, by omega, by omega, by omega, by omega, by omega, by omega, by omega, by omega, by omega, by omega, ?_, ?_⟩
  · intro h7
    have hl : (lv == 7) = true := by simp; omega
    rw [hl] at c1 c2
    simp only [fitB, if_true, inB_iff] at c1 c2
    refine ⟨by omega, by omega, ?_⟩
    have e : tensB dg = ((10 ^ dg.toNat : Nat) : Int) := by
      unfold tensB
      rw [show min dg 4 = dg by omega]
      simp
    rw [e] at c2
    omega
  · intro hz
    rw [hz] at e1
    simpa [fitB, inB] using e1
def textI (lv y mo d h mi s p dg : Int) (z : Bool) (zn : Int) : List UInt8 := textL lv.toNat y.toNat mo.toNat d.toNat h.toNat mi.toNat s.toNat p.toNat dg.toNat z zn
theorem write_right {lv y mo d h mi s p dg zn : Int} {z : Bool} (hr : rightB lv y mo d h mi s p dg zn z = true) (w : World) (hP : Pow w) :
    Calls Tryd.prog 23 #[.agg #[.int .i64 lv, .int .i64 y, .int .i64 mo, .int .i64 d, .int .i64 h, .int .i64 mi, .int .i64 s, .int .i64 p, .int .i64 dg, .bool z, .int .i64 zn]] w fun e w' => ∃ T, e = .returned (.string T) ∧ Hid (Txt T (textI lv y mo d h mi s p dg z zn)) ∧ Below w.heap.size w w' := by
  obtain ⟨L, Y, Mo, D, H, Mi, Sc, P, G, rfl, rfl, rfl, rfl, rfl, rfl, rfl, rfl, rfl, h1, h7, hY, hMo, hD, hH, hMi, hSc, hPG, hz⟩ := right_nat hr
  exact write_any h1 h7 Y Mo D H Mi Sc P G z zn w hY hMo hD hH hMi hSc hPG hz hP
theorem stamp_cells (lv y mo d h mi s p dg zn : Int) (z : Bool) {w w0 w1 : World} (hw0 : w.alloc (.cells #[.int .i64 lv, .int .i64 y, .int .i64 mo, .int .i64 d, .int .i64 h, .int .i64 mi, .int .i64 s, .int .i64 p, .int .i64 dg, .bool z, .int .i64 zn] 23) = w0) (hb : Below w0.heap.size w0 w1) (j : Nat) (x : Value) (hx : (#[.int .i64 lv, .int .i64 y, .int .i64 mo, .int .i64 d, .int .i64 h, .int .i64 mi, .int .i64 s, .int .i64 p, .int .i64 dg, .bool z, .int .i64 zn] : Array Value)[j]? = some x) : w1.cell? ⟨w.heap.size, j, none⟩ = some x := by
  have hlt : w.heap.size < w0.heap.size := by rw [← hw0]; simp
  rw [hb.cell (p := ⟨w.heap.size, j, none⟩) hlt, ← hw0]
  simpa using hx
set_option maxRecDepth 100000 in
set_option maxHeartbeats 1000000 in
theorem Print_ok {lv y mo d h mi s p dg zn : Int} {z : Bool} (hr : rightB lv y mo d h mi s p dg zn z = true) (w : World) (hM : Months w) (hP : Pow w) :
    Calls Tryd.prog 9 #[.agg #[.int .i64 lv, .int .i64 y, .int .i64 mo, .int .i64 d, .int .i64 h, .int .i64 mi, .int .i64 s, .int .i64 p, .int .i64 dg, .bool z, .int .i64 zn]] w fun e w' => ∃ T, e = .returned (.tuple #[.string T, .nilIface]) ∧ Hid (Txt T (textI lv y mo d h mi s p dg z zn)) ∧ Below w.heap.size w w' := by
  have HR : Hid (rightB lv y mo d h mi s p dg zn z = true) := hr
  obtain ⟨w0, hw0⟩ : ∃ w0, w.alloc (.cells #[.int .i64 lv, .int .i64 y, .int .i64 mo, .int .i64 d, .int .i64 h, .int .i64 mi, .int .i64 s, .int .i64 p, .int .i64 dg, .bool z, .int .i64 zn] 23) = w0 := ⟨_, rfl⟩
  have H0 : Hid (Below w.heap.size w w0 ∧ Pow w0 ∧ Months w0) := by unfold Hid; rw [← hw0]; exact ⟨(Below.refl _ _).alloc (Nat.le_refl _) _, hP.alloc _, months_alloc hM _⟩
  have HC : Hid (∀ w1, Below w0.heap.size w0 w1 → ∀ j x, (#[.int .i64 lv, .int .i64 y, .int .i64 mo, .int .i64 d, .int .i64 h, .int .i64 mi, .int .i64 s, .int .i64 p, .int .i64 dg, .bool z, .int .i64 zn] : Array Value)[j]? = some x → w1.cell? ⟨w.heap.size, j, none⟩ = some x) := fun w1 hb j x hx => stamp_cells lv y mo d h mi s p dg zn z hw0 hb j x hx
  have q0 := HC.out w0 (Below.refl _ _) 0 _ rfl
  have q1 := HC.out w0 (Below.refl _ _) 1 _ rfl
  have q2 := HC.out w0 (Below.refl _ _) 2 _ rfl
  have q3 := HC.out w0 (Below.refl _ _) 3 _ rfl
  have q4 := HC.out w0 (Below.refl _ _) 4 _ rfl
  have q5 := HC.out w0 (Below.refl _ _) 5 _ rfl
  have q6 := HC.out w0 (Below.refl _ _) 6 _ rfl
  have q7 := HC.out w0 (Below.refl _ _) 7 _ rfl
  have q8 := HC.out w0 (Below.refl _ _) 8 _ rfl
  have q9 := HC.out w0 (Below.refl _ _) 9 _ rfl
  have q10 := HC.out w0 (Below.refl _ _) 10 _ rfl
  clear hr hM hP
  go_enter Tryd.func9, Tryd.ntmps9
  go_wp2_with fail
  refine (right_is HR.out _ H0.out.2.2).mono ?_
  rintro e w1 ⟨rfl, hb⟩
  have HB1 : Hid (Below w0.heap.size w0 w1) := hb
  clear hb q0 q1 q2 q3 q4 q5 q6 q7 q8 q9 q10
  have q0 := HC.out w1 HB1.out 0 _ rfl
  have q1 := HC.out w1 HB1.out 1 _ rfl
  have q2 := HC.out w1 HB1.out 2 _ rfl
  have q3 := HC.out w1 HB1.out 3 _ rfl
  have q4 := HC.out w1 HB1.out 4 _ rfl
  have q5 := HC.out w1 HB1.out 5 _ rfl
  have q6 := HC.out w1 HB1.out 6 _ rfl
  have q7 := HC.out w1 HB1.out 7 _ rfl
  have q8 := HC.out w1 HB1.out 8 _ rfl
  have q9 := HC.out w1 HB1.out 9 _ rfl
  have q10 := HC.out w1 HB1.out 10 _ rfl
  go_wp2_with fail
  refine (write_right HR.out _ (H0.out.2.1.below HB1.out)).mono ?_
  rintro e w2 ⟨T, rfl, HT, hb⟩
  have HB2 : Hid (Below w.heap.size w w2) := H0.out.1.trans ((below_then HB1.out hb).mono H0.out.1.size)
  clear hb
  go_wp2_with fail
  refine bodyPost_ret (v := .tuple #[.string T, .nilIface]) (by simp [results, Tryd.results9, go_sem]) rfl ⟨T, rfl, HT, HB2.out⟩
set_option maxRecDepth 100000 in
set_option maxHeartbeats 1000000 in
theorem Print_no {lv y mo d h mi s p dg zn : Int} {z : Bool} (hr : rightB lv y mo d h mi s p dg zn z = false) (w : World) (hM : Months w) :
    Calls Tryd.prog 9 #[.agg #[.int .i64 lv, .int .i64 y, .int .i64 mo, .int .i64 d, .int .i64 h, .int .i64 mi, .int .i64 s, .int .i64 p, .int .i64 dg, .bool z, .int .i64 zn]] w fun e w' => ∃ b, e = .returned (.tuple #[.string ⟨#[]⟩, .iface 52 (.pointer (some ⟨b, 0, none⟩))]) ∧ FaultAt w' b 0 20 ∧ Below w.heap.size w w' := by
  have HR : Hid (rightB lv y mo d h mi s p dg zn z = false) := hr
  obtain ⟨w0, hw0⟩ : ∃ w0, w.alloc (.cells #[.int .i64 lv, .int .i64 y, .int .i64 mo, .int .i64 d, .int .i64 h, .int .i64 mi, .int .i64 s, .int .i64 p, .int .i64 dg, .bool z, .int .i64 zn] 23) = w0 := ⟨_, rfl⟩
  have H0 : Hid (Below w.heap.size w w0 ∧ Months w0) := by unfold Hid; rw [← hw0]; exact ⟨(Below.refl _ _).alloc (Nat.le_refl _) _, months_alloc hM _⟩
  have HC : Hid (∀ w1, Below w0.heap.size w0 w1 → ∀ j x, (#[.int .i64 lv, .int .i64 y, .int .i64 mo, .int .i64 d, .int .i64 h, .int .i64 mi, .int .i64 s, .int .i64 p, .int .i64 dg, .bool z, .int .i64 zn] : Array Value)[j]? = some x → w1.cell? ⟨w.heap.size, j, none⟩ = some x) := fun w1 hb j x hx => stamp_cells lv y mo d h mi s p dg zn z hw0 hb j x hx
  have q0 := HC.out w0 (Below.refl _ _) 0 _ rfl
  have q1 := HC.out w0 (Below.refl _ _) 1 _ rfl
  have q2 := HC.out w0 (Below.refl _ _) 2 _ rfl
  have q3 := HC.out w0 (Below.refl _ _) 3 _ rfl
  have q4 := HC.out w0 (Below.refl _ _) 4 _ rfl
  have q5 := HC.out w0 (Below.refl _ _) 5 _ rfl
  have q6 := HC.out w0 (Below.refl _ _) 6 _ rfl
  have q7 := HC.out w0 (Below.refl _ _) 7 _ rfl
  have q8 := HC.out w0 (Below.refl _ _) 8 _ rfl
  have q9 := HC.out w0 (Below.refl _ _) 9 _ rfl
  have q10 := HC.out w0 (Below.refl _ _) 10 _ rfl
  clear hr hM
  go_enter Tryd.func9, Tryd.ntmps9
  go_wp2_with fail
  refine (right_is HR.out _ H0.out.2).mono ?_
  rintro e w1 ⟨rfl, hb⟩
  have HB1 : Hid (Below w.heap.size w w1) := H0.out.1.trans (hb.mono H0.out.1.size)
  clear hb q0 q1 q2 q3 q4 q5 q6 q7 q8 q9 q10
  go_wp2
  refine bodyPost_ret (v := .tuple #[.string ⟨#[]⟩, .iface 52 (.pointer (some ⟨w1.heap.size, 0, none⟩))]) (by simp [results, Tryd.results9, go_sem]) rfl ⟨_, rfl, fault_new _ _ _, below_new HB1.out _⟩
end Go.Proofs.YtpcdkafjogpdkaaDoor
