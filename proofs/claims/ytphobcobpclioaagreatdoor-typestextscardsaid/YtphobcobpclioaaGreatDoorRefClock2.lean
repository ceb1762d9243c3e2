/-
  The reference's Reader: clock, with a part.
-/
import Derived.Test.YtphobcobpclioaaGreatDoorRefClock
namespace Go.Proofs.YtphobcobpclioaaGreatDoor
open Go.RowKit

theorem num1_yes {s : ByteArray} {a : Nat} (h : isD (ahd s a none) = true) : numS s 1 0 9 a none = ((ahd s a none : Int) - 48, a + 1, none) := by
  have ab := (show 48 ≤ ahd s a none ∧ ahd s a none ≤ 57 by simpa [isD] using h)
  have e : itr s 1 (0, a, none) = ((ahd s a none : Int) - 48, a + 1, none) := by show stp s (0, a, none) = _; rw [stp_yes h]; congr 1; omega
  unfold numS; rw [e]; simp only; rw [if_pos (inB_iff.2 (by omega))]
theorem num1_no {s : ByteArray} {a : Nat} (h : isD (ahd s a none) = false) : numS s 1 0 9 a none = (0, a, some a) := by
  have e : itr s 1 (0, a, none) = (0, a, some a) := by show stp s (0, a, none) = _; rw [stp_no h]; rfl
  unfold numS; rw [e]; rfl

set_option maxHeartbeats 4000000 in
theorem rclock_7n {R : Nat} {s : ByteArray} {a : Nat} {l y mo d zn : Int} {z : Bool} {hh mm ss : Int} {a1 a2 a3 : Nat} (w : World) (hr : RRd w R s a none) (hx : numS s 2 0 23 a none = (hh, a1, none)) (hd : isD (ahd s a1 none) = true) (hy : numS s 2 0 59 a1 none = (mm, a2, none)) (hd2 : isD (ahd s a2 none) = true)
    (hw : numS s 2 0 59 a2 none = (ss, a3, none)) (hp : ahd s a3 none = 46) (hq : isD (ahd s (a3 + 1) none) = false) :
    Calls Tryz.prog 56 #[.pointer (some ⟨R, 0, none⟩), .agg #[.int .i64 l, .int .i64 y, .int .i64 mo, .int .i64 d, .int .i64 0, .int .i64 0, .int .i64 0, .int .i64 0, .int .i64 0, .bool z, .int .i64 zn]] w fun e w' => ∃ (lv' h' mi' sc' p' dg' : Int) (a' : Nat), e = .returned (.agg #[.int .i64 (lv'), .int .i64 y, .int .i64 mo, .int .i64 d, .int .i64 (h'), .int .i64 (mi'), .int .i64 (sc'), .int .i64 (p'), .int .i64 (dg'), .bool z, .int .i64 zn]) ∧ RRd w' R s a' (some (a3 + 1)) ∧ ((some (a3 + 1) : Option Nat) = none → a' = a3 ∧ lv' = 7 ∧ h' = hh ∧ mi' = mm ∧ sc' = ss ∧ p' = 0 ∧ dg' = 0) ∧ Off (· = R) w w' := by
  have hl3 := (point_in hp).2
  have hR : R < w.heap.size := cell_lt hr.text
  have hRK : R ≠ w.heap.size := by omega
  have HC : Hid (RCS ((w.alloc (.cells #[.int .i64 l, .int .i64 y, .int .i64 mo, .int .i64 d, .int .i64 0, .int .i64 0, .int .i64 0, .int .i64 0, .int .i64 0, .bool z, .int .i64 zn] 66)).alloc (.cells #[.int .i64 0, .int .i64 0, .int .i64 0, .int .i64 0, .int .i64 0, .int .i64 0, .int .i64 0, .int .i64 0, .int .i64 0, .bool false, .int .i64 0] 66)) ((w.alloc (.cells #[.int .i64 l, .int .i64 y, .int .i64 mo, .int .i64 d, .int .i64 0, .int .i64 0, .int .i64 0, .int .i64 0, .int .i64 0, .bool z, .int .i64 zn] 66)).alloc (.cells #[.int .i64 0, .int .i64 0, .int .i64 0, .int .i64 0, .int .i64 0, .int .i64 0, .int .i64 0, .int .i64 0, .int .i64 0, .bool false, .int .i64 0] 66)) R w.heap.size s a none l 0 0 0 0 0) := rcs_new hr
  have HX : Hid (numS s 2 0 23 a none = (hh, a1, none)) := hx
  have HD : Hid (isD (ahd s a1 none) = true) := hd
  have HY : Hid (numS s 2 0 59 a1 none = (mm, a2, none)) := hy
  have HZ : Hid (isD (ahd s a2 none) = true) := hd2
  have HW : Hid (numS s 2 0 59 a2 none = (ss, a3, none)) := hw
  clear hr hx hd hy hd2 hw
  have HP : Hid (ahd s a3 none = 46) := hp
  have HQ : Hid (numS s 1 0 9 (a3 + 1) none = (0, a3 + 1, some (a3 + 1))) := num1_no hq
  clear hp hq
  go_enter Tryz.func56, Tryz.ntmps56
  go_wp2_with fail
  refine (rnumber_any 2 0 23 _ HC.out.rdr (by omega) HX.out).mono ?_
  rintro e w1 ⟨n1, p1, rfl, r1, t1, o1⟩
  obtain ⟨rfl, rfl⟩ := t1 rfl
  have HC1 : Hid (RCS ((w.alloc (.cells #[.int .i64 l, .int .i64 y, .int .i64 mo, .int .i64 d, .int .i64 0, .int .i64 0, .int .i64 0, .int .i64 0, .int .i64 0, .bool z, .int .i64 zn] 66)).alloc (.cells #[.int .i64 0, .int .i64 0, .int .i64 0, .int .i64 0, .int .i64 0, .int .i64 0, .int .i64 0, .int .i64 0, .int .i64 0, .bool false, .int .i64 0] 66)) w1 R w.heap.size s p1 none l 0 0 0 0 0) := HC.out.step hRK r1 o1
  have g1_1 : w1.cell? ⟨w.heap.size, 1, none⟩ = some (.int .i64 y) := by rw [HC1.out.kk.cell 1 (by omega)]; simp
  have g1_2 : w1.cell? ⟨w.heap.size, 2, none⟩ = some (.int .i64 mo) := by rw [HC1.out.kk.cell 2 (by omega)]; simp
  have g1_3 : w1.cell? ⟨w.heap.size, 3, none⟩ = some (.int .i64 d) := by rw [HC1.out.kk.cell 3 (by omega)]; simp
  have g1_9 : w1.cell? ⟨w.heap.size, 9, none⟩ = some (.bool z) := by rw [HC1.out.kk.cell 9 (by omega)]; simp
  have g1_10 : w1.cell? ⟨w.heap.size, 10, none⟩ = some (.int .i64 zn) := by rw [HC1.out.kk.cell 10 (by omega)]; simp
  have hG1 : ∀ o, w1.cell? ⟨w.heap.size + 1, o, none⟩ = ((w.alloc (.cells #[.int .i64 l, .int .i64 y, .int .i64 mo, .int .i64 d, .int .i64 0, .int .i64 0, .int .i64 0, .int .i64 0, .int .i64 0, .bool z, .int .i64 zn] 66)).alloc (.cells #[.int .i64 0, .int .i64 0, .int .i64 0, .int .i64 0, .int .i64 0, .int .i64 0, .int .i64 0, .int .i64 0, .int .i64 0, .bool false, .int .i64 0] 66)).cell? ⟨w.heap.size + 1, o, none⟩ := fun o => HC1.out.off.cell (p := ⟨w.heap.size + 1, o, none⟩) (by simp) (by unfold RK; simp only; omega)
  have hF1 : ∀ o, w1.frozen? ⟨w.heap.size + 1, o, none⟩ = ((w.alloc (.cells #[.int .i64 l, .int .i64 y, .int .i64 mo, .int .i64 d, .int .i64 0, .int .i64 0, .int .i64 0, .int .i64 0, .int .i64 0, .bool z, .int .i64 zn] 66)).alloc (.cells #[.int .i64 0, .int .i64 0, .int .i64 0, .int .i64 0, .int .i64 0, .int .i64 0, .int .i64 0, .int .i64 0, .int .i64 0, .bool false, .int .i64 0] 66)).frozen? ⟨w.heap.size + 1, o, none⟩ := fun o => HC1.out.off.frozen (p := ⟨w.heap.size + 1, o, none⟩) (by simp) (by unfold RK; simp only; omega)
  have q1_0 := HC1.out.clk.k0
  have e1_0 := HC1.out.clk.fr 0 (by omega)
  have q1_4 := HC1.out.clk.k4
  have e1_4 := HC1.out.clk.fr 4 (by omega)
  have q1_5 := HC1.out.clk.k5
  have e1_5 := HC1.out.clk.fr 5 (by omega)
  have q1_6 := HC1.out.clk.k6
  have e1_6 := HC1.out.clk.fr 6 (by omega)
  have q1_7 := HC1.out.clk.k7
  have e1_7 := HC1.out.clk.fr 7 (by omega)
  have q1_8 := HC1.out.clk.k8
  have e1_8 := HC1.out.clk.fr 8 (by omega)
  clear r1 o1
  go_wp2_with fail
  have HD1' : Hid (isD (ahd s p1 none) = true) := by
    unfold Hid
    exact HD.out
  refine (more_any _ ((HC1.out.set4 hRK n1).set0 hRK 4).rdr).mono ?_
  rintro e v1 ⟨he, m1, rfl⟩
  rw [HD1'.out] at he
  subst he
  have HE1 : Hid (RCS ((w.alloc (.cells #[.int .i64 l, .int .i64 y, .int .i64 mo, .int .i64 d, .int .i64 0, .int .i64 0, .int .i64 0, .int .i64 0, .int .i64 0, .bool z, .int .i64 zn] 66)).alloc (.cells #[.int .i64 0, .int .i64 0, .int .i64 0, .int .i64 0, .int .i64 0, .int .i64 0, .int .i64 0, .int .i64 0, .int .i64 0, .bool false, .int .i64 0] 66)) _ R w.heap.size s p1 none 4 n1 0 0 0 0) := ((HC1.out.set4 hRK n1).set0 hRK 4).drewN hRK m1
  clear q1_0 e1_0 q1_4 e1_4 q1_5 e1_5 q1_6 e1_6 q1_7 e1_7 q1_8 e1_8 g1_1 g1_2 g1_3 g1_9 g1_10 hG1 hF1
  go_wp2_with fail
  refine (rnumber_any 2 0 59 _ HE1.out.rdr (by omega) HY.out).mono ?_
  rintro e w2 ⟨n2, p2, rfl, r2, t2, o2⟩
  obtain ⟨rfl, rfl⟩ := t2 rfl
  have HC2 : Hid (RCS ((w.alloc (.cells #[.int .i64 l, .int .i64 y, .int .i64 mo, .int .i64 d, .int .i64 0, .int .i64 0, .int .i64 0, .int .i64 0, .int .i64 0, .bool z, .int .i64 zn] 66)).alloc (.cells #[.int .i64 0, .int .i64 0, .int .i64 0, .int .i64 0, .int .i64 0, .int .i64 0, .int .i64 0, .int .i64 0, .int .i64 0, .bool false, .int .i64 0] 66)) w2 R w.heap.size s p2 none 4 n1 0 0 0 0) := HE1.out.step hRK r2 o2
  have g2_1 : w2.cell? ⟨w.heap.size, 1, none⟩ = some (.int .i64 y) := by rw [HC2.out.kk.cell 1 (by omega)]; simp
  have g2_2 : w2.cell? ⟨w.heap.size, 2, none⟩ = some (.int .i64 mo) := by rw [HC2.out.kk.cell 2 (by omega)]; simp
  have g2_3 : w2.cell? ⟨w.heap.size, 3, none⟩ = some (.int .i64 d) := by rw [HC2.out.kk.cell 3 (by omega)]; simp
  have g2_9 : w2.cell? ⟨w.heap.size, 9, none⟩ = some (.bool z) := by rw [HC2.out.kk.cell 9 (by omega)]; simp
  have g2_10 : w2.cell? ⟨w.heap.size, 10, none⟩ = some (.int .i64 zn) := by rw [HC2.out.kk.cell 10 (by omega)]; simp
  have hG2 : ∀ o, w2.cell? ⟨w.heap.size + 1, o, none⟩ = ((w.alloc (.cells #[.int .i64 l, .int .i64 y, .int .i64 mo, .int .i64 d, .int .i64 0, .int .i64 0, .int .i64 0, .int .i64 0, .int .i64 0, .bool z, .int .i64 zn] 66)).alloc (.cells #[.int .i64 0, .int .i64 0, .int .i64 0, .int .i64 0, .int .i64 0, .int .i64 0, .int .i64 0, .int .i64 0, .int .i64 0, .bool false, .int .i64 0] 66)).cell? ⟨w.heap.size + 1, o, none⟩ := fun o => HC2.out.off.cell (p := ⟨w.heap.size + 1, o, none⟩) (by simp) (by unfold RK; simp only; omega)
  have hF2 : ∀ o, w2.frozen? ⟨w.heap.size + 1, o, none⟩ = ((w.alloc (.cells #[.int .i64 l, .int .i64 y, .int .i64 mo, .int .i64 d, .int .i64 0, .int .i64 0, .int .i64 0, .int .i64 0, .int .i64 0, .bool z, .int .i64 zn] 66)).alloc (.cells #[.int .i64 0, .int .i64 0, .int .i64 0, .int .i64 0, .int .i64 0, .int .i64 0, .int .i64 0, .int .i64 0, .int .i64 0, .bool false, .int .i64 0] 66)).frozen? ⟨w.heap.size + 1, o, none⟩ := fun o => HC2.out.off.frozen (p := ⟨w.heap.size + 1, o, none⟩) (by simp) (by unfold RK; simp only; omega)
  have q2_0 := HC2.out.clk.k0
  have e2_0 := HC2.out.clk.fr 0 (by omega)
  have q2_4 := HC2.out.clk.k4
  have e2_4 := HC2.out.clk.fr 4 (by omega)
  have q2_5 := HC2.out.clk.k5
  have e2_5 := HC2.out.clk.fr 5 (by omega)
  have q2_6 := HC2.out.clk.k6
  have e2_6 := HC2.out.clk.fr 6 (by omega)
  have q2_7 := HC2.out.clk.k7
  have e2_7 := HC2.out.clk.fr 7 (by omega)
  have q2_8 := HC2.out.clk.k8
  have e2_8 := HC2.out.clk.fr 8 (by omega)
  clear r2 o2
  go_wp2_with fail
  have HD2' : Hid (isD (ahd s p2 none) = true) := by
    unfold Hid
    exact HZ.out
  refine (more_any _ ((HC2.out.set5 hRK n2).set0 hRK 5).rdr).mono ?_
  rintro e v2 ⟨he, m2, rfl⟩
  rw [HD2'.out] at he
  subst he
  have HE2 : Hid (RCS ((w.alloc (.cells #[.int .i64 l, .int .i64 y, .int .i64 mo, .int .i64 d, .int .i64 0, .int .i64 0, .int .i64 0, .int .i64 0, .int .i64 0, .bool z, .int .i64 zn] 66)).alloc (.cells #[.int .i64 0, .int .i64 0, .int .i64 0, .int .i64 0, .int .i64 0, .int .i64 0, .int .i64 0, .int .i64 0, .int .i64 0, .bool false, .int .i64 0] 66)) _ R w.heap.size s p2 none 5 n1 n2 0 0 0) := ((HC2.out.set5 hRK n2).set0 hRK 5).drewN hRK m2
  clear q2_0 e2_0 q2_4 e2_4 q2_5 e2_5 q2_6 e2_6 q2_7 e2_7 q2_8 e2_8 g2_1 g2_2 g2_3 g2_9 g2_10 hG2 hF2
  go_wp2_with fail
  refine (rnumber_any 2 0 59 _ HE2.out.rdr (by omega) HW.out).mono ?_
  rintro e w3 ⟨n3, p3, rfl, r3, t3, o3⟩
  obtain ⟨rfl, rfl⟩ := t3 rfl
  have HC3 : Hid (RCS ((w.alloc (.cells #[.int .i64 l, .int .i64 y, .int .i64 mo, .int .i64 d, .int .i64 0, .int .i64 0, .int .i64 0, .int .i64 0, .int .i64 0, .bool z, .int .i64 zn] 66)).alloc (.cells #[.int .i64 0, .int .i64 0, .int .i64 0, .int .i64 0, .int .i64 0, .int .i64 0, .int .i64 0, .int .i64 0, .int .i64 0, .bool false, .int .i64 0] 66)) w3 R w.heap.size s p3 none 5 n1 n2 0 0 0) := HE2.out.step hRK r3 o3
  have g3_1 : w3.cell? ⟨w.heap.size, 1, none⟩ = some (.int .i64 y) := by rw [HC3.out.kk.cell 1 (by omega)]; simp
  have g3_2 : w3.cell? ⟨w.heap.size, 2, none⟩ = some (.int .i64 mo) := by rw [HC3.out.kk.cell 2 (by omega)]; simp
  have g3_3 : w3.cell? ⟨w.heap.size, 3, none⟩ = some (.int .i64 d) := by rw [HC3.out.kk.cell 3 (by omega)]; simp
  have g3_9 : w3.cell? ⟨w.heap.size, 9, none⟩ = some (.bool z) := by rw [HC3.out.kk.cell 9 (by omega)]; simp
  have g3_10 : w3.cell? ⟨w.heap.size, 10, none⟩ = some (.int .i64 zn) := by rw [HC3.out.kk.cell 10 (by omega)]; simp
  have hG3 : ∀ o, w3.cell? ⟨w.heap.size + 1, o, none⟩ = ((w.alloc (.cells #[.int .i64 l, .int .i64 y, .int .i64 mo, .int .i64 d, .int .i64 0, .int .i64 0, .int .i64 0, .int .i64 0, .int .i64 0, .bool z, .int .i64 zn] 66)).alloc (.cells #[.int .i64 0, .int .i64 0, .int .i64 0, .int .i64 0, .int .i64 0, .int .i64 0, .int .i64 0, .int .i64 0, .int .i64 0, .bool false, .int .i64 0] 66)).cell? ⟨w.heap.size + 1, o, none⟩ := fun o => HC3.out.off.cell (p := ⟨w.heap.size + 1, o, none⟩) (by simp) (by unfold RK; simp only; omega)
  have hF3 : ∀ o, w3.frozen? ⟨w.heap.size + 1, o, none⟩ = ((w.alloc (.cells #[.int .i64 l, .int .i64 y, .int .i64 mo, .int .i64 d, .int .i64 0, .int .i64 0, .int .i64 0, .int .i64 0, .int .i64 0, .bool z, .int .i64 zn] 66)).alloc (.cells #[.int .i64 0, .int .i64 0, .int .i64 0, .int .i64 0, .int .i64 0, .int .i64 0, .int .i64 0, .int .i64 0, .int .i64 0, .bool false, .int .i64 0] 66)).frozen? ⟨w.heap.size + 1, o, none⟩ := fun o => HC3.out.off.frozen (p := ⟨w.heap.size + 1, o, none⟩) (by simp) (by unfold RK; simp only; omega)
  have q3_0 := HC3.out.clk.k0
  have e3_0 := HC3.out.clk.fr 0 (by omega)
  have q3_4 := HC3.out.clk.k4
  have e3_4 := HC3.out.clk.fr 4 (by omega)
  have q3_5 := HC3.out.clk.k5
  have e3_5 := HC3.out.clk.fr 5 (by omega)
  have q3_6 := HC3.out.clk.k6
  have e3_6 := HC3.out.clk.fr 6 (by omega)
  have q3_7 := HC3.out.clk.k7
  have e3_7 := HC3.out.clk.fr 7 (by omega)
  have q3_8 := HC3.out.clk.k8
  have e3_8 := HC3.out.clk.fr 8 (by omega)
  clear r3 o3
  go_wp2_with fail
  have HD3' : Hid ((ahd s p3 none == 46) = true) := by
    unfold Hid
    simpa using HP.out
  refine (ris_any 46 _ ((HC3.out.set6 hRK n3).set0 hRK 6).rdr (by omega) (by omega)).mono ?_
  rintro e v3 ⟨he, m3, rfl⟩
  rw [HD3'.out] at he
  subst he
  have HE3 : Hid (RCS ((w.alloc (.cells #[.int .i64 l, .int .i64 y, .int .i64 mo, .int .i64 d, .int .i64 0, .int .i64 0, .int .i64 0, .int .i64 0, .int .i64 0, .bool z, .int .i64 zn] 66)).alloc (.cells #[.int .i64 0, .int .i64 0, .int .i64 0, .int .i64 0, .int .i64 0, .int .i64 0, .int .i64 0, .int .i64 0, .int .i64 0, .bool false, .int .i64 0] 66)) _ R w.heap.size s p3 none 6 n1 n2 n3 0 0) := ((HC3.out.set6 hRK n3).set0 hRK 6).drewN hRK m3
  clear q3_0 e3_0 q3_4 e3_4 q3_5 e3_5 q3_6 e3_6 q3_7 e3_7 q3_8 e3_8 g3_1 g3_2 g3_3 g3_9 g3_10 hG3 hF3
  have m1 := HE3.out.rdr.at_
  have m2 := HE3.out.rdr.fr1
  have hs : s.size ≤ maxLen := HE3.out.rdr.fit
  unfold maxLen at hs
  have HM : Hid (RCS ((w.alloc (.cells #[.int .i64 l, .int .i64 y, .int .i64 mo, .int .i64 d, .int .i64 0, .int .i64 0, .int .i64 0, .int .i64 0, .int .i64 0, .bool z, .int .i64 zn] 66)).alloc (.cells #[.int .i64 0, .int .i64 0, .int .i64 0, .int .i64 0, .int .i64 0, .int .i64 0, .int .i64 0, .int .i64 0, .int .i64 0, .bool false, .int .i64 0] 66)) _ R w.heap.size s (p3 + 1) none 6 n1 n2 n3 0 0) := HE3.out.step hRK (HE3.out.rdr.moved hl3) ((Off.refl (· = R) _).setCell (p := ⟨R, 1, none⟩) rfl _)
  go_wp2_with fail
  refine (rnumber_any 1 0 9 _ HM.out.rdr (by omega) HQ.out).mono ?_
  rintro e w4 ⟨n4, p4, rfl, r4, t4, o4⟩
  have HC4 : Hid (RCS ((w.alloc (.cells #[.int .i64 l, .int .i64 y, .int .i64 mo, .int .i64 d, .int .i64 0, .int .i64 0, .int .i64 0, .int .i64 0, .int .i64 0, .bool z, .int .i64 zn] 66)).alloc (.cells #[.int .i64 0, .int .i64 0, .int .i64 0, .int .i64 0, .int .i64 0, .int .i64 0, .int .i64 0, .int .i64 0, .int .i64 0, .bool false, .int .i64 0] 66)) w4 R w.heap.size s p4 (some (p3 + 1)) 6 n1 n2 n3 0 0) := HM.out.step hRK r4 o4
  have g4_1 : w4.cell? ⟨w.heap.size, 1, none⟩ = some (.int .i64 y) := by rw [HC4.out.kk.cell 1 (by omega)]; simp
  have g4_2 : w4.cell? ⟨w.heap.size, 2, none⟩ = some (.int .i64 mo) := by rw [HC4.out.kk.cell 2 (by omega)]; simp
  have g4_3 : w4.cell? ⟨w.heap.size, 3, none⟩ = some (.int .i64 d) := by rw [HC4.out.kk.cell 3 (by omega)]; simp
  have g4_9 : w4.cell? ⟨w.heap.size, 9, none⟩ = some (.bool z) := by rw [HC4.out.kk.cell 9 (by omega)]; simp
  have g4_10 : w4.cell? ⟨w.heap.size, 10, none⟩ = some (.int .i64 zn) := by rw [HC4.out.kk.cell 10 (by omega)]; simp
  have hG4 : ∀ o, w4.cell? ⟨w.heap.size + 1, o, none⟩ = ((w.alloc (.cells #[.int .i64 l, .int .i64 y, .int .i64 mo, .int .i64 d, .int .i64 0, .int .i64 0, .int .i64 0, .int .i64 0, .int .i64 0, .bool z, .int .i64 zn] 66)).alloc (.cells #[.int .i64 0, .int .i64 0, .int .i64 0, .int .i64 0, .int .i64 0, .int .i64 0, .int .i64 0, .int .i64 0, .int .i64 0, .bool false, .int .i64 0] 66)).cell? ⟨w.heap.size + 1, o, none⟩ := fun o => HC4.out.off.cell (p := ⟨w.heap.size + 1, o, none⟩) (by simp) (by unfold RK; simp only; omega)
  have hF4 : ∀ o, w4.frozen? ⟨w.heap.size + 1, o, none⟩ = ((w.alloc (.cells #[.int .i64 l, .int .i64 y, .int .i64 mo, .int .i64 d, .int .i64 0, .int .i64 0, .int .i64 0, .int .i64 0, .int .i64 0, .bool z, .int .i64 zn] 66)).alloc (.cells #[.int .i64 0, .int .i64 0, .int .i64 0, .int .i64 0, .int .i64 0, .int .i64 0, .int .i64 0, .int .i64 0, .int .i64 0, .bool false, .int .i64 0] 66)).frozen? ⟨w.heap.size + 1, o, none⟩ := fun o => HC4.out.off.frozen (p := ⟨w.heap.size + 1, o, none⟩) (by simp) (by unfold RK; simp only; omega)
  have q4_0 := HC4.out.clk.k0
  have e4_0 := HC4.out.clk.fr 0 (by omega)
  have q4_4 := HC4.out.clk.k4
  have e4_4 := HC4.out.clk.fr 4 (by omega)
  have q4_5 := HC4.out.clk.k5
  have e4_5 := HC4.out.clk.fr 5 (by omega)
  have q4_6 := HC4.out.clk.k6
  have e4_6 := HC4.out.clk.fr 6 (by omega)
  have q4_7 := HC4.out.clk.k7
  have e4_7 := HC4.out.clk.fr 7 (by omega)
  have q4_8 := HC4.out.clk.k8
  have e4_8 := HC4.out.clk.fr 8 (by omega)
  have HC5 : Hid (RCS ((w.alloc (.cells #[.int .i64 l, .int .i64 y, .int .i64 mo, .int .i64 d, .int .i64 0, .int .i64 0, .int .i64 0, .int .i64 0, .int .i64 0, .bool z, .int .i64 zn] 66)).alloc (.cells #[.int .i64 0, .int .i64 0, .int .i64 0, .int .i64 0, .int .i64 0, .int .i64 0, .int .i64 0, .int .i64 0, .int .i64 0, .bool false, .int .i64 0] 66)) _ R w.heap.size s p4 (some (p3 + 1)) 7 n1 n2 n3 n4 1) := ((HC4.out.set7 hRK n4).set8 hRK 1).set0 hRK 7
  have HDd : Hid (isD (ahd s p4 (some (p3 + 1))) = false) := rfl
  clear r4 t4 o4 m1 m2 hs
  go_wp2_with fail
  refine wp_loop_rounds 1 ?_
  rw [rounds_succ]
  go_wp2_with fail
  refine (more_any _ HC5.out.rdr).mono ?_
  rintro e v5 ⟨he, m5, rfl⟩
  rw [HDd.out] at he
  subst he
  have HE5 : Hid (RCS ((w.alloc (.cells #[.int .i64 l, .int .i64 y, .int .i64 mo, .int .i64 d, .int .i64 0, .int .i64 0, .int .i64 0, .int .i64 0, .int .i64 0, .bool z, .int .i64 zn] 66)).alloc (.cells #[.int .i64 0, .int .i64 0, .int .i64 0, .int .i64 0, .int .i64 0, .int .i64 0, .int .i64 0, .int .i64 0, .int .i64 0, .bool false, .int .i64 0] 66)) _ R w.heap.size s p4 (some (p3 + 1)) 7 n1 n2 n3 n4 1) := HC5.out.drewN hRK m5
  have hG5 := hG4
  go_wp2_with fail
  refine bodyPost_ret (v := .agg #[.int .i64 7, .int .i64 y, .int .i64 mo, .int .i64 d, .int .i64 n1, .int .i64 n2, .int .i64 n3, .int .i64 n4, .int .i64 1, .bool z, .int .i64 zn]) (by simp [results, Tryz.results56, go_sem, hG5, World.cell?_setCell_other]) rfl ⟨7, n1, n2, n3, n4, 1, p4, rfl, ?_, (fun e => by cases e), ?_⟩
  · exact HE5.out.rdr.off (off_set11 (P := (· = w.heap.size + 1)) (Off.refl _ _) rfl _ _ _ _ _ _ _ _ _ _ _) (by show ¬ R = w.heap.size + 1; omega)
  · exact off_new11 (off_up HE5.out.off) (Nat.le_succ _) _ _ _ _ _ _ _ _ _ _ _

set_option maxHeartbeats 4000000 in
theorem rclock_7y {R : Nat} {s : ByteArray} {a : Nat} {l y mo d zn : Int} {z : Bool} {hh mm ss : Int} {a1 a2 a3 : Nat} (w : World) (hr : RRd w R s a none) (hx : numS s 2 0 23 a none = (hh, a1, none)) (hd : isD (ahd s a1 none) = true) (hy : numS s 2 0 59 a1 none = (mm, a2, none)) (hd2 : isD (ahd s a2 none) = true)
    (hw : numS s 2 0 59 a2 none = (ss, a3, none)) (hp : ahd s a3 none = 46) (hq : isD (ahd s (a3 + 1) none) = true) {P D : Int} {A : Nat} {B : Option Nat} (hf : prt s 3 ((ahd s (a3 + 1) none : Int) - 48, 1, a3 + 2, none) = (P, D, A, B)) :
    Calls Tryz.prog 56 #[.pointer (some ⟨R, 0, none⟩), .agg #[.int .i64 l, .int .i64 y, .int .i64 mo, .int .i64 d, .int .i64 0, .int .i64 0, .int .i64 0, .int .i64 0, .int .i64 0, .bool z, .int .i64 zn]] w fun e w' => ∃ (lv' h' mi' sc' p' dg' : Int) (a' : Nat), e = .returned (.agg #[.int .i64 (lv'), .int .i64 y, .int .i64 mo, .int .i64 d, .int .i64 (h'), .int .i64 (mi'), .int .i64 (sc'), .int .i64 (p'), .int .i64 (dg'), .bool z, .int .i64 zn]) ∧ RRd w' R s a' B ∧ (B = none → a' = A ∧ lv' = 7 ∧ h' = hh ∧ mi' = mm ∧ sc' = ss ∧ p' = P ∧ dg' = D) ∧ Off (· = R) w w' := by
  have hl3 := (point_in hp).2
  have hR : R < w.heap.size := cell_lt hr.text
  have hRK : R ≠ w.heap.size := by omega
  have HC : Hid (RCS ((w.alloc (.cells #[.int .i64 l, .int .i64 y, .int .i64 mo, .int .i64 d, .int .i64 0, .int .i64 0, .int .i64 0, .int .i64 0, .int .i64 0, .bool z, .int .i64 zn] 66)).alloc (.cells #[.int .i64 0, .int .i64 0, .int .i64 0, .int .i64 0, .int .i64 0, .int .i64 0, .int .i64 0, .int .i64 0, .int .i64 0, .bool false, .int .i64 0] 66)) ((w.alloc (.cells #[.int .i64 l, .int .i64 y, .int .i64 mo, .int .i64 d, .int .i64 0, .int .i64 0, .int .i64 0, .int .i64 0, .int .i64 0, .bool z, .int .i64 zn] 66)).alloc (.cells #[.int .i64 0, .int .i64 0, .int .i64 0, .int .i64 0, .int .i64 0, .int .i64 0, .int .i64 0, .int .i64 0, .int .i64 0, .bool false, .int .i64 0] 66)) R w.heap.size s a none l 0 0 0 0 0) := rcs_new hr
  have HX : Hid (numS s 2 0 23 a none = (hh, a1, none)) := hx
  have HD : Hid (isD (ahd s a1 none) = true) := hd
  have HY : Hid (numS s 2 0 59 a1 none = (mm, a2, none)) := hy
  have HZ : Hid (isD (ahd s a2 none) = true) := hd2
  have HW : Hid (numS s 2 0 59 a2 none = (ss, a3, none)) := hw
  clear hr hx hd hy hd2 hw
  have HP : Hid (ahd s a3 none = 46) := hp
  have ab := (show 48 ≤ ahd s (a3 + 1) none ∧ ahd s (a3 + 1) none ≤ 57 by simpa [isD] using hq)
  have hn1 := num1_yes hq
  obtain ⟨d1, hd1⟩ : ∃ d1 : Int, (ahd s (a3 + 1) none : Int) - 48 = d1 := ⟨_, rfl⟩
  rw [hd1] at hf hn1
  have HQ : Hid (numS s 1 0 9 (a3 + 1) none = (d1, a3 + 1 + 1, none)) := hn1
  have HF : Hid (prt s 3 (d1, 1, a3 + 2, none) = (P, D, A, B)) := hf
  have db1 : 0 ≤ d1 := by omega
  have db2 : d1 ≤ 9 := by omega
  clear hp hq hf ab hd1 hn1
  go_enter Tryz.func56, Tryz.ntmps56
  go_wp2_with fail
  refine (rnumber_any 2 0 23 _ HC.out.rdr (by omega) HX.out).mono ?_
  rintro e w1 ⟨n1, p1, rfl, r1, t1, o1⟩
  obtain ⟨rfl, rfl⟩ := t1 rfl
  have HC1 : Hid (RCS ((w.alloc (.cells #[.int .i64 l, .int .i64 y, .int .i64 mo, .int .i64 d, .int .i64 0, .int .i64 0, .int .i64 0, .int .i64 0, .int .i64 0, .bool z, .int .i64 zn] 66)).alloc (.cells #[.int .i64 0, .int .i64 0, .int .i64 0, .int .i64 0, .int .i64 0, .int .i64 0, .int .i64 0, .int .i64 0, .int .i64 0, .bool false, .int .i64 0] 66)) w1 R w.heap.size s p1 none l 0 0 0 0 0) := HC.out.step hRK r1 o1
  have g1_1 : w1.cell? ⟨w.heap.size, 1, none⟩ = some (.int .i64 y) := by rw [HC1.out.kk.cell 1 (by omega)]; simp
  have g1_2 : w1.cell? ⟨w.heap.size, 2, none⟩ = some (.int .i64 mo) := by rw [HC1.out.kk.cell 2 (by omega)]; simp
  have g1_3 : w1.cell? ⟨w.heap.size, 3, none⟩ = some (.int .i64 d) := by rw [HC1.out.kk.cell 3 (by omega)]; simp
  have g1_9 : w1.cell? ⟨w.heap.size, 9, none⟩ = some (.bool z) := by rw [HC1.out.kk.cell 9 (by omega)]; simp
  have g1_10 : w1.cell? ⟨w.heap.size, 10, none⟩ = some (.int .i64 zn) := by rw [HC1.out.kk.cell 10 (by omega)]; simp
  have hG1 : ∀ o, w1.cell? ⟨w.heap.size + 1, o, none⟩ = ((w.alloc (.cells #[.int .i64 l, .int .i64 y, .int .i64 mo, .int .i64 d, .int .i64 0, .int .i64 0, .int .i64 0, .int .i64 0, .int .i64 0, .bool z, .int .i64 zn] 66)).alloc (.cells #[.int .i64 0, .int .i64 0, .int .i64 0, .int .i64 0, .int .i64 0, .int .i64 0, .int .i64 0, .int .i64 0, .int .i64 0, .bool false, .int .i64 0] 66)).cell? ⟨w.heap.size + 1, o, none⟩ := fun o => HC1.out.off.cell (p := ⟨w.heap.size + 1, o, none⟩) (by simp) (by unfold RK; simp only; omega)
  have hF1 : ∀ o, w1.frozen? ⟨w.heap.size + 1, o, none⟩ = ((w.alloc (.cells #[.int .i64 l, .int .i64 y, .int .i64 mo, .int .i64 d, .int .i64 0, .int .i64 0, .int .i64 0, .int .i64 0, .int .i64 0, .bool z, .int .i64 zn] 66)).alloc (.cells #[.int .i64 0, .int .i64 0, .int .i64 0, .int .i64 0, .int .i64 0, .int .i64 0, .int .i64 0, .int .i64 0, .int .i64 0, .bool false, .int .i64 0] 66)).frozen? ⟨w.heap.size + 1, o, none⟩ := fun o => HC1.out.off.frozen (p := ⟨w.heap.size + 1, o, none⟩) (by simp) (by unfold RK; simp only; omega)
  have q1_0 := HC1.out.clk.k0
  have e1_0 := HC1.out.clk.fr 0 (by omega)
  have q1_4 := HC1.out.clk.k4
  have e1_4 := HC1.out.clk.fr 4 (by omega)
  have q1_5 := HC1.out.clk.k5
  have e1_5 := HC1.out.clk.fr 5 (by omega)
  have q1_6 := HC1.out.clk.k6
  have e1_6 := HC1.out.clk.fr 6 (by omega)
  have q1_7 := HC1.out.clk.k7
  have e1_7 := HC1.out.clk.fr 7 (by omega)
  have q1_8 := HC1.out.clk.k8
  have e1_8 := HC1.out.clk.fr 8 (by omega)
  clear r1 o1
  go_wp2_with fail
  have HD1' : Hid (isD (ahd s p1 none) = true) := by
    unfold Hid
    exact HD.out
  refine (more_any _ ((HC1.out.set4 hRK n1).set0 hRK 4).rdr).mono ?_
  rintro e v1 ⟨he, m1, rfl⟩
  rw [HD1'.out] at he
  subst he
  have HE1 : Hid (RCS ((w.alloc (.cells #[.int .i64 l, .int .i64 y, .int .i64 mo, .int .i64 d, .int .i64 0, .int .i64 0, .int .i64 0, .int .i64 0, .int .i64 0, .bool z, .int .i64 zn] 66)).alloc (.cells #[.int .i64 0, .int .i64 0, .int .i64 0, .int .i64 0, .int .i64 0, .int .i64 0, .int .i64 0, .int .i64 0, .int .i64 0, .bool false, .int .i64 0] 66)) _ R w.heap.size s p1 none 4 n1 0 0 0 0) := ((HC1.out.set4 hRK n1).set0 hRK 4).drewN hRK m1
  clear q1_0 e1_0 q1_4 e1_4 q1_5 e1_5 q1_6 e1_6 q1_7 e1_7 q1_8 e1_8 g1_1 g1_2 g1_3 g1_9 g1_10 hG1 hF1
  go_wp2_with fail
  refine (rnumber_any 2 0 59 _ HE1.out.rdr (by omega) HY.out).mono ?_
  rintro e w2 ⟨n2, p2, rfl, r2, t2, o2⟩
  obtain ⟨rfl, rfl⟩ := t2 rfl
  have HC2 : Hid (RCS ((w.alloc (.cells #[.int .i64 l, .int .i64 y, .int .i64 mo, .int .i64 d, .int .i64 0, .int .i64 0, .int .i64 0, .int .i64 0, .int .i64 0, .bool z, .int .i64 zn] 66)).alloc (.cells #[.int .i64 0, .int .i64 0, .int .i64 0, .int .i64 0, .int .i64 0, .int .i64 0, .int .i64 0, .int .i64 0, .int .i64 0, .bool false, .int .i64 0] 66)) w2 R w.heap.size s p2 none 4 n1 0 0 0 0) := HE1.out.step hRK r2 o2
  have g2_1 : w2.cell? ⟨w.heap.size, 1, none⟩ = some (.int .i64 y) := by rw [HC2.out.kk.cell 1 (by omega)]; simp
  have g2_2 : w2.cell? ⟨w.heap.size, 2, none⟩ = some (.int .i64 mo) := by rw [HC2.out.kk.cell 2 (by omega)]; simp
  have g2_3 : w2.cell? ⟨w.heap.size, 3, none⟩ = some (.int .i64 d) := by rw [HC2.out.kk.cell 3 (by omega)]; simp
  have g2_9 : w2.cell? ⟨w.heap.size, 9, none⟩ = some (.bool z) := by rw [HC2.out.kk.cell 9 (by omega)]; simp
  have g2_10 : w2.cell? ⟨w.heap.size, 10, none⟩ = some (.int .i64 zn) := by rw [HC2.out.kk.cell 10 (by omega)]; simp
  have hG2 : ∀ o, w2.cell? ⟨w.heap.size + 1, o, none⟩ = ((w.alloc (.cells #[.int .i64 l, .int .i64 y, .int .i64 mo, .int .i64 d, .int .i64 0, .int .i64 0, .int .i64 0, .int .i64 0, .int .i64 0, .bool z, .int .i64 zn] 66)).alloc (.cells #[.int .i64 0, .int .i64 0, .int .i64 0, .int .i64 0, .int .i64 0, .int .i64 0, .int .i64 0, .int .i64 0, .int .i64 0, .bool false, .int .i64 0] 66)).cell? ⟨w.heap.size + 1, o, none⟩ := fun o => HC2.out.off.cell (p := ⟨w.heap.size + 1, o, none⟩) (by simp) (by unfold RK; simp only; omega)
  have hF2 : ∀ o, w2.frozen? ⟨w.heap.size + 1, o, none⟩ = ((w.alloc (.cells #[.int .i64 l, .int .i64 y, .int .i64 mo, .int .i64 d, .int .i64 0, .int .i64 0, .int .i64 0, .int .i64 0, .int .i64 0, .bool z, .int .i64 zn] 66)).alloc (.cells #[.int .i64 0, .int .i64 0, .int .i64 0, .int .i64 0, .int .i64 0, .int .i64 0, .int .i64 0, .int .i64 0, .int .i64 0, .bool false, .int .i64 0] 66)).frozen? ⟨w.heap.size + 1, o, none⟩ := fun o => HC2.out.off.frozen (p := ⟨w.heap.size + 1, o, none⟩) (by simp) (by unfold RK; simp only; omega)
  have q2_0 := HC2.out.clk.k0
  have e2_0 := HC2.out.clk.fr 0 (by omega)
  have q2_4 := HC2.out.clk.k4
  have e2_4 := HC2.out.clk.fr 4 (by omega)
  have q2_5 := HC2.out.clk.k5
  have e2_5 := HC2.out.clk.fr 5 (by omega)
  have q2_6 := HC2.out.clk.k6
  have e2_6 := HC2.out.clk.fr 6 (by omega)
  have q2_7 := HC2.out.clk.k7
  have e2_7 := HC2.out.clk.fr 7 (by omega)
  have q2_8 := HC2.out.clk.k8
  have e2_8 := HC2.out.clk.fr 8 (by omega)
  clear r2 o2
  go_wp2_with fail
  have HD2' : Hid (isD (ahd s p2 none) = true) := by
    unfold Hid
    exact HZ.out
  refine (more_any _ ((HC2.out.set5 hRK n2).set0 hRK 5).rdr).mono ?_
  rintro e v2 ⟨he, m2, rfl⟩
  rw [HD2'.out] at he
  subst he
  have HE2 : Hid (RCS ((w.alloc (.cells #[.int .i64 l, .int .i64 y, .int .i64 mo, .int .i64 d, .int .i64 0, .int .i64 0, .int .i64 0, .int .i64 0, .int .i64 0, .bool z, .int .i64 zn] 66)).alloc (.cells #[.int .i64 0, .int .i64 0, .int .i64 0, .int .i64 0, .int .i64 0, .int .i64 0, .int .i64 0, .int .i64 0, .int .i64 0, .bool false, .int .i64 0] 66)) _ R w.heap.size s p2 none 5 n1 n2 0 0 0) := ((HC2.out.set5 hRK n2).set0 hRK 5).drewN hRK m2
  clear q2_0 e2_0 q2_4 e2_4 q2_5 e2_5 q2_6 e2_6 q2_7 e2_7 q2_8 e2_8 g2_1 g2_2 g2_3 g2_9 g2_10 hG2 hF2
  go_wp2_with fail
  refine (rnumber_any 2 0 59 _ HE2.out.rdr (by omega) HW.out).mono ?_
  rintro e w3 ⟨n3, p3, rfl, r3, t3, o3⟩
  obtain ⟨rfl, rfl⟩ := t3 rfl
  have HC3 : Hid (RCS ((w.alloc (.cells #[.int .i64 l, .int .i64 y, .int .i64 mo, .int .i64 d, .int .i64 0, .int .i64 0, .int .i64 0, .int .i64 0, .int .i64 0, .bool z, .int .i64 zn] 66)).alloc (.cells #[.int .i64 0, .int .i64 0, .int .i64 0, .int .i64 0, .int .i64 0, .int .i64 0, .int .i64 0, .int .i64 0, .int .i64 0, .bool false, .int .i64 0] 66)) w3 R w.heap.size s p3 none 5 n1 n2 0 0 0) := HE2.out.step hRK r3 o3
  have g3_1 : w3.cell? ⟨w.heap.size, 1, none⟩ = some (.int .i64 y) := by rw [HC3.out.kk.cell 1 (by omega)]; simp
  have g3_2 : w3.cell? ⟨w.heap.size, 2, none⟩ = some (.int .i64 mo) := by rw [HC3.out.kk.cell 2 (by omega)]; simp
  have g3_3 : w3.cell? ⟨w.heap.size, 3, none⟩ = some (.int .i64 d) := by rw [HC3.out.kk.cell 3 (by omega)]; simp
  have g3_9 : w3.cell? ⟨w.heap.size, 9, none⟩ = some (.bool z) := by rw [HC3.out.kk.cell 9 (by omega)]; simp
  have g3_10 : w3.cell? ⟨w.heap.size, 10, none⟩ = some (.int .i64 zn) := by rw [HC3.out.kk.cell 10 (by omega)]; simp
  have hG3 : ∀ o, w3.cell? ⟨w.heap.size + 1, o, none⟩ = ((w.alloc (.cells #[.int .i64 l, .int .i64 y, .int .i64 mo, .int .i64 d, .int .i64 0, .int .i64 0, .int .i64 0, .int .i64 0, .int .i64 0, .bool z, .int .i64 zn] 66)).alloc (.cells #[.int .i64 0, .int .i64 0, .int .i64 0, .int .i64 0, .int .i64 0, .int .i64 0, .int .i64 0, .int .i64 0, .int .i64 0, .bool false, .int .i64 0] 66)).cell? ⟨w.heap.size + 1, o, none⟩ := fun o => HC3.out.off.cell (p := ⟨w.heap.size + 1, o, none⟩) (by simp) (by unfold RK; simp only; omega)
  have hF3 : ∀ o, w3.frozen? ⟨w.heap.size + 1, o, none⟩ = ((w.alloc (.cells #[.int .i64 l, .int .i64 y, .int .i64 mo, .int .i64 d, .int .i64 0, .int .i64 0, .int .i64 0, .int .i64 0, .int .i64 0, .bool z, .int .i64 zn] 66)).alloc (.cells #[.int .i64 0, .int .i64 0, .int .i64 0, .int .i64 0, .int .i64 0, .int .i64 0, .int .i64 0, .int .i64 0, .int .i64 0, .bool false, .int .i64 0] 66)).frozen? ⟨w.heap.size + 1, o, none⟩ := fun o => HC3.out.off.frozen (p := ⟨w.heap.size + 1, o, none⟩) (by simp) (by unfold RK; simp only; omega)
  have q3_0 := HC3.out.clk.k0
  have e3_0 := HC3.out.clk.fr 0 (by omega)
  have q3_4 := HC3.out.clk.k4
  have e3_4 := HC3.out.clk.fr 4 (by omega)
  have q3_5 := HC3.out.clk.k5
  have e3_5 := HC3.out.clk.fr 5 (by omega)
  have q3_6 := HC3.out.clk.k6
  have e3_6 := HC3.out.clk.fr 6 (by omega)
  have q3_7 := HC3.out.clk.k7
  have e3_7 := HC3.out.clk.fr 7 (by omega)
  have q3_8 := HC3.out.clk.k8
  have e3_8 := HC3.out.clk.fr 8 (by omega)
  clear r3 o3
  go_wp2_with fail
  have HD3' : Hid ((ahd s p3 none == 46) = true) := by
    unfold Hid
    simpa using HP.out
  refine (ris_any 46 _ ((HC3.out.set6 hRK n3).set0 hRK 6).rdr (by omega) (by omega)).mono ?_
  rintro e v3 ⟨he, m3, rfl⟩
  rw [HD3'.out] at he
  subst he
  have HE3 : Hid (RCS ((w.alloc (.cells #[.int .i64 l, .int .i64 y, .int .i64 mo, .int .i64 d, .int .i64 0, .int .i64 0, .int .i64 0, .int .i64 0, .int .i64 0, .bool z, .int .i64 zn] 66)).alloc (.cells #[.int .i64 0, .int .i64 0, .int .i64 0, .int .i64 0, .int .i64 0, .int .i64 0, .int .i64 0, .int .i64 0, .int .i64 0, .bool false, .int .i64 0] 66)) _ R w.heap.size s p3 none 6 n1 n2 n3 0 0) := ((HC3.out.set6 hRK n3).set0 hRK 6).drewN hRK m3
  clear q3_0 e3_0 q3_4 e3_4 q3_5 e3_5 q3_6 e3_6 q3_7 e3_7 q3_8 e3_8 g3_1 g3_2 g3_3 g3_9 g3_10 hG3 hF3
  have m1 := HE3.out.rdr.at_
  have m2 := HE3.out.rdr.fr1
  have hs : s.size ≤ maxLen := HE3.out.rdr.fit
  unfold maxLen at hs
  have HM : Hid (RCS ((w.alloc (.cells #[.int .i64 l, .int .i64 y, .int .i64 mo, .int .i64 d, .int .i64 0, .int .i64 0, .int .i64 0, .int .i64 0, .int .i64 0, .bool z, .int .i64 zn] 66)).alloc (.cells #[.int .i64 0, .int .i64 0, .int .i64 0, .int .i64 0, .int .i64 0, .int .i64 0, .int .i64 0, .int .i64 0, .int .i64 0, .bool false, .int .i64 0] 66)) _ R w.heap.size s (p3 + 1) none 6 n1 n2 n3 0 0) := HE3.out.step hRK (HE3.out.rdr.moved hl3) ((Off.refl (· = R) _).setCell (p := ⟨R, 1, none⟩) rfl _)
  go_wp2_with fail
  refine (rnumber_any 1 0 9 _ HM.out.rdr (by omega) HQ.out).mono ?_
  rintro e w4 ⟨n4, p4, rfl, r4, t4, o4⟩
  obtain ⟨rfl, rfl⟩ := t4 rfl
  have HC4 : Hid (RCS ((w.alloc (.cells #[.int .i64 l, .int .i64 y, .int .i64 mo, .int .i64 d, .int .i64 0, .int .i64 0, .int .i64 0, .int .i64 0, .int .i64 0, .bool z, .int .i64 zn] 66)).alloc (.cells #[.int .i64 0, .int .i64 0, .int .i64 0, .int .i64 0, .int .i64 0, .int .i64 0, .int .i64 0, .int .i64 0, .int .i64 0, .bool false, .int .i64 0] 66)) w4 R w.heap.size s (p3 + 1 + 1) none 6 n1 n2 n3 0 0) := HM.out.step hRK r4 o4
  have g4_1 : w4.cell? ⟨w.heap.size, 1, none⟩ = some (.int .i64 y) := by rw [HC4.out.kk.cell 1 (by omega)]; simp
  have g4_2 : w4.cell? ⟨w.heap.size, 2, none⟩ = some (.int .i64 mo) := by rw [HC4.out.kk.cell 2 (by omega)]; simp
  have g4_3 : w4.cell? ⟨w.heap.size, 3, none⟩ = some (.int .i64 d) := by rw [HC4.out.kk.cell 3 (by omega)]; simp
  have g4_9 : w4.cell? ⟨w.heap.size, 9, none⟩ = some (.bool z) := by rw [HC4.out.kk.cell 9 (by omega)]; simp
  have g4_10 : w4.cell? ⟨w.heap.size, 10, none⟩ = some (.int .i64 zn) := by rw [HC4.out.kk.cell 10 (by omega)]; simp
  have hG4 : ∀ o, w4.cell? ⟨w.heap.size + 1, o, none⟩ = ((w.alloc (.cells #[.int .i64 l, .int .i64 y, .int .i64 mo, .int .i64 d, .int .i64 0, .int .i64 0, .int .i64 0, .int .i64 0, .int .i64 0, .bool z, .int .i64 zn] 66)).alloc (.cells #[.int .i64 0, .int .i64 0, .int .i64 0, .int .i64 0, .int .i64 0, .int .i64 0, .int .i64 0, .int .i64 0, .int .i64 0, .bool false, .int .i64 0] 66)).cell? ⟨w.heap.size + 1, o, none⟩ := fun o => HC4.out.off.cell (p := ⟨w.heap.size + 1, o, none⟩) (by simp) (by unfold RK; simp only; omega)
  have hF4 : ∀ o, w4.frozen? ⟨w.heap.size + 1, o, none⟩ = ((w.alloc (.cells #[.int .i64 l, .int .i64 y, .int .i64 mo, .int .i64 d, .int .i64 0, .int .i64 0, .int .i64 0, .int .i64 0, .int .i64 0, .bool z, .int .i64 zn] 66)).alloc (.cells #[.int .i64 0, .int .i64 0, .int .i64 0, .int .i64 0, .int .i64 0, .int .i64 0, .int .i64 0, .int .i64 0, .int .i64 0, .bool false, .int .i64 0] 66)).frozen? ⟨w.heap.size + 1, o, none⟩ := fun o => HC4.out.off.frozen (p := ⟨w.heap.size + 1, o, none⟩) (by simp) (by unfold RK; simp only; omega)
  have q4_0 := HC4.out.clk.k0
  have e4_0 := HC4.out.clk.fr 0 (by omega)
  have q4_4 := HC4.out.clk.k4
  have e4_4 := HC4.out.clk.fr 4 (by omega)
  have q4_5 := HC4.out.clk.k5
  have e4_5 := HC4.out.clk.fr 5 (by omega)
  have q4_6 := HC4.out.clk.k6
  have e4_6 := HC4.out.clk.fr 6 (by omega)
  have q4_7 := HC4.out.clk.k7
  have e4_7 := HC4.out.clk.fr 7 (by omega)
  have q4_8 := HC4.out.clk.k8
  have e4_8 := HC4.out.clk.fr 8 (by omega)
  clear r4 o4 m1 m2 hs
  go_wp2_with fail
  go_loopw [] (fun wx => ∃ (k : Nat) (p : Int) (a' : Nat) (b' : Option Nat), 1 ≤ k ∧ k ≤ 4 ∧ 0 ≤ p ∧ p ≤ 10 ^ k - 1 ∧ Hid (prt s (4 - k) (p, (k : Int), a', b') = (P, D, A, B) ∧ RCS ((w.alloc (.cells #[.int .i64 l, .int .i64 y, .int .i64 mo, .int .i64 d, .int .i64 0, .int .i64 0, .int .i64 0, .int .i64 0, .int .i64 0, .bool z, .int .i64 zn] 66)).alloc (.cells #[.int .i64 0, .int .i64 0, .int .i64 0, .int .i64 0, .int .i64 0, .int .i64 0, .int .i64 0, .int .i64 0, .int .i64 0, .bool false, .int .i64 0] 66)) wx R w.heap.size s a' b' 7 n1 n2 n3 p k)) (fun wx => dgLeft w.heap.size wx)
  case atStart => exact ⟨1, _, p3 + 2, none, by omega, by omega, by omega, by omega, HF.out, ((HC4.out.set7 hRK _).set8 hRK 1).set0 hRK 7⟩
  case round =>
    clear q4_0 e4_0 q4_4 e4_4 q4_5 e4_5 q4_6 e4_6 q4_7 e4_7 q4_8 e4_8 g4_1 g4_2 g4_3 g4_9 g4_10 hG4 hF4
    obtain ⟨k, p, a', b', k1, k4, pp0, pp1, HZZ⟩ := hrel
    have tp := tens_pos k (by omega)
    have pp2 : p ≤ 9999 := by omega
    have v7 := HZZ.out.2.clk.k7
    have v8 := HZZ.out.2.clk.k8
    have x7 := HZZ.out.2.clk.fr 7 (by omega)
    have x8 := HZZ.out.2.clk.fr 8 (by omega)
    by_cases hk : k = 4
    · have hk4 : ¬ (k : Int) < 4 := by omega
      have e1 : (p, (k : Int), a', b') = (P, D, A, B) := by
        have e := HZZ.out.1
        rw [show 4 - k = 0 by omega] at e
        exact e
      simp only [Prod.mk.injEq] at e1
      obtain ⟨rfl, rfl, rfl, rfl⟩ := e1
      have HE5 := HZZ.out.2
      have HE5' : Hid (RCS ((w.alloc (.cells #[.int .i64 l, .int .i64 y, .int .i64 mo, .int .i64 d, .int .i64 0, .int .i64 0, .int .i64 0, .int .i64 0, .int .i64 0, .bool z, .int .i64 zn] 66)).alloc (.cells #[.int .i64 0, .int .i64 0, .int .i64 0, .int .i64 0, .int .i64 0, .int .i64 0, .int .i64 0, .int .i64 0, .int .i64 0, .bool false, .int .i64 0] 66)) _ R w.heap.size s a' b' 7 n1 n2 n3 p k) := HE5
      clear HE5 tp pp1 hk
      have c0 := HZZ.out.2.clk.k0
      have c4 := HZZ.out.2.clk.k4
      have c5 := HZZ.out.2.clk.k5
      have c6 := HZZ.out.2.clk.k6
      have u1 := HZZ.out.2.kk.cell 1 (by omega)
      have u2 := HZZ.out.2.kk.cell 2 (by omega)
      have u3 := HZZ.out.2.kk.cell 3 (by omega)
      have u9 := HZZ.out.2.kk.cell 9 (by omega)
      have u10 := HZZ.out.2.kk.cell 10 (by omega)
      have hG5 := fun o => HZZ.out.2.off.cell (p := ⟨w.heap.size + 1, o, none⟩) (by simp) (by unfold RK; simp only; omega)
      have hF5 := fun o => HZZ.out.2.off.frozen (p := ⟨w.heap.size + 1, o, none⟩) (by simp) (by unfold RK; simp only; omega)
      go_wp2_with fail
      first | refine bodyPost_ret (v := .agg #[.int .i64 7, .int .i64 y, .int .i64 mo, .int .i64 d, .int .i64 n1, .int .i64 n2, .int .i64 n3, .int .i64 p, .int .i64 k, .bool z, .int .i64 zn]) (by simp [results, Tryz.results56, go_sem, hG5, World.cell?_setCell_other]) rfl ⟨7, n1, n2, n3, p, k, a', rfl, ?_, fun _ => ⟨rfl, rfl, rfl, rfl, rfl, rfl, rfl⟩, ?_⟩ | refine bodyPost_ret (v := .agg #[.int .i64 7, .int .i64 y, .int .i64 mo, .int .i64 d, .int .i64 n1, .int .i64 n2, .int .i64 n3, .int .i64 p, .int .i64 k, .bool z, .int .i64 zn]) (by simp [results, Tryz.results56, go_sem, hG5, World.cell?_setCell_other]) rfl ⟨7, n1, n2, n3, p, k, rfl, a', ?_, fun _ => ⟨rfl, rfl, rfl, rfl, rfl, rfl, rfl⟩, ?_⟩
      · exact HE5'.out.rdr.off (off_set11 (P := (· = w.heap.size + 1)) (Off.refl _ _) rfl _ _ _ _ _ _ _ _ _ _ _) (by show ¬ R = w.heap.size + 1; omega)
      · exact off_new11 (off_up HE5'.out.off) (Nat.le_succ _) _ _ _ _ _ _ _ _ _ _ _
    · have hk4 : (k : Int) < 4 := by omega
      obtain ⟨j, hj⟩ : ∃ j, 4 - k = j + 1 := ⟨3 - k, by omega⟩
      cases hd : isD (ahd s a' b') with
      | false =>
        have HDd : Hid (isD (ahd s a' b') = false) := hd
        have e1 : (p, (k : Int), a', b') = (P, D, A, B) := by
          have e := HZZ.out.1
          rw [hj] at e
          unfold prt at e
          simp only [hd, Bool.false_eq_true, if_false] at e
          exact e
        simp only [Prod.mk.injEq] at e1
        obtain ⟨rfl, rfl, rfl, rfl⟩ := e1
        clear hd hj tp pp1 hk
        have c0 := HZZ.out.2.clk.k0
        have c4 := HZZ.out.2.clk.k4
        have c5 := HZZ.out.2.clk.k5
        have c6 := HZZ.out.2.clk.k6
        have u1 := HZZ.out.2.kk.cell 1 (by omega)
        have u2 := HZZ.out.2.kk.cell 2 (by omega)
        have u3 := HZZ.out.2.kk.cell 3 (by omega)
        have u9 := HZZ.out.2.kk.cell 9 (by omega)
        have u10 := HZZ.out.2.kk.cell 10 (by omega)
        have hG5 := fun o => HZZ.out.2.off.cell (p := ⟨w.heap.size + 1, o, none⟩) (by simp) (by unfold RK; simp only; omega)
        have hF5 := fun o => HZZ.out.2.off.frozen (p := ⟨w.heap.size + 1, o, none⟩) (by simp) (by unfold RK; simp only; omega)
        go_wp2_with fail
        refine (more_any _ HZZ.out.2.rdr).mono ?_
        rintro e v5 ⟨he, m5, rfl⟩
        rw [HDd.out] at he
        subst he
        have HE5' : Hid (RCS ((w.alloc (.cells #[.int .i64 l, .int .i64 y, .int .i64 mo, .int .i64 d, .int .i64 0, .int .i64 0, .int .i64 0, .int .i64 0, .int .i64 0, .bool z, .int .i64 zn] 66)).alloc (.cells #[.int .i64 0, .int .i64 0, .int .i64 0, .int .i64 0, .int .i64 0, .int .i64 0, .int .i64 0, .int .i64 0, .int .i64 0, .bool false, .int .i64 0] 66)) _ R w.heap.size s a' b' 7 n1 n2 n3 p k) := HZZ.out.2.drewN hRK m5
        go_wp2_with fail
        first | refine bodyPost_ret (v := .agg #[.int .i64 7, .int .i64 y, .int .i64 mo, .int .i64 d, .int .i64 n1, .int .i64 n2, .int .i64 n3, .int .i64 p, .int .i64 k, .bool z, .int .i64 zn]) (by simp [results, Tryz.results56, go_sem, hG5, World.cell?_setCell_other]) rfl ⟨7, n1, n2, n3, p, k, a', rfl, ?_, fun _ => ⟨rfl, rfl, rfl, rfl, rfl, rfl, rfl⟩, ?_⟩ | refine bodyPost_ret (v := .agg #[.int .i64 7, .int .i64 y, .int .i64 mo, .int .i64 d, .int .i64 n1, .int .i64 n2, .int .i64 n3, .int .i64 p, .int .i64 k, .bool z, .int .i64 zn]) (by simp [results, Tryz.results56, go_sem, hG5, World.cell?_setCell_other]) rfl ⟨7, n1, n2, n3, p, k, rfl, a', ?_, fun _ => ⟨rfl, rfl, rfl, rfl, rfl, rfl, rfl⟩, ?_⟩
        · exact HE5'.out.rdr.off (off_set11 (P := (· = w.heap.size + 1)) (Off.refl _ _) rfl _ _ _ _ _ _ _ _ _ _ _) (by show ¬ R = w.heap.size + 1; omega)
        · exact off_new11 (off_up HE5'.out.off) (Nat.le_succ _) _ _ _ _ _ _ _ _ _ _ _
      | true =>
        obtain rfl : b' = none := (isD_in hd).1
        have HDd : Hid (isD (ahd s a' none) = true) := hd
        have ab := (show 48 ≤ ahd s a' none ∧ ahd s a' none ≤ 57 by simpa [isD] using hd)
        have hn1 := num1_yes hd
        obtain ⟨dv, hdv⟩ : ∃ dv : Int, (ahd s a' none : Int) - 48 = dv := ⟨_, rfl⟩
        have dv1 : 0 ≤ dv := by omega
        have dv2 : dv ≤ 9 := by omega
        have HN : Hid (prt s (4 - (k + 1)) (p * 10 + dv, ((k + 1 : Nat) : Int), a' + 1, none) = (P, D, A, B)) := by
          have e := HZZ.out.1
          rw [hj] at e
          unfold prt at e
          simp only [hd, if_true, hdv] at e
          unfold Hid
          rw [show 4 - (k + 1) = j by omega]; exact e
        rw [hdv] at hn1
        have HN1 : Hid (numS s 1 0 9 a' none = (dv, a' + 1, none)) := hn1
        have HP2 : Hid (p * 10 + dv ≤ 10 ^ (k + 1) - 1) := by
          have : (10 : Int) ^ (k + 1) = 10 ^ k * 10 := rfl
          unfold Hid; omega
        have HKL : Hid (k < 4) := by unfold Hid; omega
        clear hd ab hdv hj tp pp1 hk hn1
        go_wp2_with fail
        refine (more_any _ HZZ.out.2.rdr).mono ?_
        rintro e v5 ⟨he, m5, rfl⟩
        rw [HDd.out] at he
        subst he
        go_wp2_with fail
        go_region_with (go_at_call 70; refine (rnumber_any 1 0 9 _ (HZZ.out.2.rdr.drewN _) (by omega) HN1.out).mono ?_; rintro e w6 ⟨n6, p6, rfl, r6, t6, o6⟩; obtain ⟨e6, e6'⟩ := t6 rfl; subst n6; subst p6; have HC6 : Hid (RCS ((w.alloc (.cells #[.int .i64 l, .int .i64 y, .int .i64 mo, .int .i64 d, .int .i64 0, .int .i64 0, .int .i64 0, .int .i64 0, .int .i64 0, .bool z, .int .i64 zn] 66)).alloc (.cells #[.int .i64 0, .int .i64 0, .int .i64 0, .int .i64 0, .int .i64 0, .int .i64 0, .int .i64 0, .int .i64 0, .int .i64 0, .bool false, .int .i64 0] 66)) w6 R w.heap.size s (a' + 1) none 7 n1 n2 n3 p k) := (HZZ.out.2.drewN hRK _).step hRK r6 o6; have q6_7 := HC6.out.clk.k7; have q6_8 := HC6.out.clk.k8; have e6_7 := HC6.out.clk.fr 7 (by omega); have e6_8 := HC6.out.clk.fr 8 (by omega); clear r6 o6)
        all_goals
          go_wp2_with fail
          go_roundw
          case rel => exact ⟨k + 1, 10 * p + dv, a' + 1, none, by omega, HKL.out, by omega, by rw [Int.mul_comm 10 p]; exact HP2.out, by rw [Int.mul_comm 10 p]; exact HN.out, (HC6.out.set7 hRK _).set8 hRK _⟩
          case measure =>
            rw [dgLeft_of ((HC6.out.set7 hRK _).set8 hRK _).clk.k8, dgLeft_of HZZ.out.2.clk.k8]
            have := HKL.out
            omega
end Go.Proofs.YtphobcobpclioaaGreatDoor
