/-
  The program's reader: clock, from the second on.
-/
import Derived.Test.YtphobcobpclioaaGreatDoorRdClock
namespace Go.Proofs.YtphobcobpclioaaGreatDoor
open Go.RowKit

set_option maxHeartbeats 2000000 in
theorem clock_6 {R K : Nat} {s : ByteArray} {a : Nat} {bad : Option Nat} {l : Int} {hh mm ss : Int} {a1 a2 a3 : Nat} {b1 b2 b3 : Option Nat} (w : World) (hRK : R ≠ K) (hC : CS w w R K s a bad l 0 0 0 0 0) (hx : numS s 2 0 23 a bad = (hh, a1, b1)) (hd : isD (ahd s a1 b1) = true)
    (hy : numS s 2 0 59 a1 b1 = (mm, a2, b2)) (hd2 : isD (ahd s a2 b2) = true) (hw : numS s 2 0 59 a2 b2 = (ss, a3, b3)) (hp : ahd s a3 b3 ≠ 46) :
    Calls Tryz.prog 66 #[.pointer (some ⟨R, 0, none⟩), .pointer (some ⟨K, 0, none⟩)] w fun e w' => e = .returned (.tuple #[]) ∧ CS w w' R K s a3 b3 6 hh mm ss 0 0 := by
  have HX : Hid (numS s 2 0 23 a bad = (hh, a1, b1)) := hx
  have HD : Hid (isD (ahd s a1 b1) = true) := hd
  have HY : Hid (numS s 2 0 59 a1 b1 = (mm, a2, b2)) := hy
  have HE : Hid (isD (ahd s a2 b2) = true) := hd2
  have HW : Hid (numS s 2 0 59 a2 b2 = (ss, a3, b3)) := hw
  clear hx hd hy hd2 hw
  obtain ⟨c, hc⟩ : ∃ c, ahd s a3 b3 = c := ⟨_, rfl⟩
  have HP : Hid (ahd s a3 b3 = c) := hc
  rw [hc] at hp
  have g1 : ((c : Int) != 46) = true := by simpa using (by omega : ¬ (c : Int) = 46)
  have g2 : ((c : Int) == 46) = false := by simpa using (by omega : ¬ (c : Int) = 46)
  clear hc hp
  have HC : Hid (CS w w R K s a bad l 0 0 0 0 0) := hC
  clear hC
  go_enter Tryz.func66, Tryz.ntmps66
  go_wp2_with fail
  obtain ⟨u1, ru1⟩ := HC.out.rdr
  refine (number_any 2 0 23 _ ru1 (by omega)).mono ?_
  rintro e w1 ⟨he, r1, o1⟩
  rw [HX.out] at he r1
  subst he
  have HC1 : Hid (CS w w1 R K s a1 b1 l 0 0 0 0 0) := HC.out.step hRK r1 o1
  have q1_0 := HC1.out.clk.k0
  have e1_0 := HC1.out.clk.fr 0 (by omega)
  have q1_4 := HC1.out.clk.k4
  have e1_4 := HC1.out.clk.fr 4 (by omega)
  have q1_5 := HC1.out.clk.k5
  have e1_5 := HC1.out.clk.fr 5 (by omega)
  have q1_6 := HC1.out.clk.k6
  have e1_6 := HC1.out.clk.fr 6 (by omega)
  have q1_7 := HC1.out.clk.k7
  have e1_7 := HC1.out.clk.fr 7 (by omega)
  have q1_8 := HC1.out.clk.k8
  have e1_8 := HC1.out.clk.fr 8 (by omega)
  clear ru1 r1 o1
  go_wp2_with fail
  obtain ⟨x1, rx1⟩ := ((HC1.out.set0 hRK 4).set4 hRK hh).rdr
  refine (digitAhead_any _ rx1).mono ?_
  rintro e v1 ⟨he, n1, rfl⟩
  rw [HD.out] at he
  subst he
  have HD1 : Hid (CS w _ R K s a1 b1 4 hh 0 0 0 0) := ((HC1.out.set0 hRK 4).set4 hRK hh).drewN hRK n1
  clear rx1
  clear q1_0 e1_0 q1_4 e1_4 q1_5 e1_5 q1_6 e1_6 q1_7 e1_7 q1_8 e1_8
  go_wp2_with fail
  obtain ⟨u2, ru2⟩ := HD1.out.rdr
  refine (number_any 2 0 59 _ ru2 (by omega)).mono ?_
  rintro e w2 ⟨he, r2, o2⟩
  rw [HY.out] at he r2
  subst he
  have HC2 : Hid (CS w w2 R K s a2 b2 4 hh 0 0 0 0) := HD1.out.step hRK r2 o2
  have q2_0 := HC2.out.clk.k0
  have e2_0 := HC2.out.clk.fr 0 (by omega)
  have q2_4 := HC2.out.clk.k4
  have e2_4 := HC2.out.clk.fr 4 (by omega)
  have q2_5 := HC2.out.clk.k5
  have e2_5 := HC2.out.clk.fr 5 (by omega)
  have q2_6 := HC2.out.clk.k6
  have e2_6 := HC2.out.clk.fr 6 (by omega)
  have q2_7 := HC2.out.clk.k7
  have e2_7 := HC2.out.clk.fr 7 (by omega)
  have q2_8 := HC2.out.clk.k8
  have e2_8 := HC2.out.clk.fr 8 (by omega)
  clear ru2 r2 o2
  go_wp2_with fail
  obtain ⟨x2, rx2⟩ := ((HC2.out.set0 hRK 5).set5 hRK mm).rdr
  refine (digitAhead_any _ rx2).mono ?_
  rintro e v2 ⟨he, n2, rfl⟩
  rw [HE.out] at he
  subst he
  have HD2 : Hid (CS w _ R K s a2 b2 5 hh mm 0 0 0) := ((HC2.out.set0 hRK 5).set5 hRK mm).drewN hRK n2
  clear rx2
  clear q2_0 e2_0 q2_4 e2_4 q2_5 e2_5 q2_6 e2_6 q2_7 e2_7 q2_8 e2_8
  go_wp2_with fail
  obtain ⟨u3, ru3⟩ := HD2.out.rdr
  refine (number_any 2 0 59 _ ru3 (by omega)).mono ?_
  rintro e w3 ⟨he, r3, o3⟩
  rw [HW.out] at he r3
  subst he
  have HC3 : Hid (CS w w3 R K s a3 b3 5 hh mm 0 0 0) := HD2.out.step hRK r3 o3
  have q3_0 := HC3.out.clk.k0
  have e3_0 := HC3.out.clk.fr 0 (by omega)
  have q3_4 := HC3.out.clk.k4
  have e3_4 := HC3.out.clk.fr 4 (by omega)
  have q3_5 := HC3.out.clk.k5
  have e3_5 := HC3.out.clk.fr 5 (by omega)
  have q3_6 := HC3.out.clk.k6
  have e3_6 := HC3.out.clk.fr 6 (by omega)
  have q3_7 := HC3.out.clk.k7
  have e3_7 := HC3.out.clk.fr 7 (by omega)
  have q3_8 := HC3.out.clk.k8
  have e3_8 := HC3.out.clk.fr 8 (by omega)
  clear ru3 r3 o3
  go_wp2_with fail
  obtain ⟨x3, rx3⟩ := ((HC3.out.set0 hRK 6).set6 hRK ss).rdr
  refine (ahead_any _ rx3).mono ?_
  rintro e v3 ⟨he, n3, rfl⟩
  rw [HP.out] at he
  subst he
  have HD3 : Hid (CS w _ R K s a3 b3 6 hh mm ss 0 0) := ((HC3.out.set0 hRK 6).set6 hRK ss).drewN hRK n3
  clear rx3
  go_wp2_with fail
  exact bodyPost_ret (v := .tuple #[]) (by simp [results, Tryz.results66, go_sem]) rfl ⟨rfl, HD3.out⟩

/-- The digits behind the point: so many steps at most. -/
def prt (s : ByteArray) : Nat → Int × Int × Nat × Option Nat → Int × Int × Nat × Option Nat
  | 0, x => x
  | k + 1, x => if isD (ahd s x.2.2.1 x.2.2.2) then prt s k (x.1 * 10 + ((ahd s x.2.2.1 x.2.2.2 : Int) - 48), x.2.1 + 1, x.2.2.1 + 1, x.2.2.2) else x
def dgLeft (K : Nat) (w : World) : Nat := match w.cell? ⟨K, 8, none⟩ with
  | some (.int _ d) => (4 - d).toNat
  | _ => 0
theorem dgLeft_of {K : Nat} {w : World} {d : Int} (h : w.cell? ⟨K, 8, none⟩ = some (.int .i64 d)) : dgLeft K w = (4 - d).toNat := by unfold dgLeft; rw [h]
theorem point_in {s : ByteArray} {a : Nat} {bad : Option Nat} (h : ahd s a bad = 46) : bad = none ∧ a < s.size := by
  cases bad with
  | some q => exact absurd (show 0 = 46 from h) (by decide)
  | none =>
    refine ⟨rfl, ?_⟩
    rcases Nat.lt_or_ge a s.size with g | g
    · exact g
    · rw [ahd_end g] at h; exact absurd h (by decide)
set_option maxHeartbeats 4000000 in
theorem clock_7y {R K : Nat} {s : ByteArray} {a : Nat} {bad : Option Nat} {l : Int} {hh mm ss : Int} {a1 a2 a3 : Nat} {b1 b2 b3 : Option Nat} (w : World) (hRK : R ≠ K) (hC : CS w w R K s a bad l 0 0 0 0 0) (hx : numS s 2 0 23 a bad = (hh, a1, b1)) (hd : isD (ahd s a1 b1) = true)
    (hy : numS s 2 0 59 a1 b1 = (mm, a2, b2)) (hd2 : isD (ahd s a2 b2) = true) (hw : numS s 2 0 59 a2 b2 = (ss, a3, b3)) (hp : ahd s a3 b3 = 46) (hq : isD (ahd s (a3 + 1) none) = true) {P D : Int} {A : Nat} {B : Option Nat} (hf : prt s 3 ((ahd s (a3 + 1) none : Int) - 48, 1, a3 + 2, none) = (P, D, A, B)) :
    Calls Tryz.prog 66 #[.pointer (some ⟨R, 0, none⟩), .pointer (some ⟨K, 0, none⟩)] w fun e w' => e = .returned (.tuple #[]) ∧ CS w w' R K s A B 7 hh mm ss P D := by
  obtain ⟨rfl, hl3⟩ := point_in hp
  have HX : Hid (numS s 2 0 23 a bad = (hh, a1, b1)) := hx
  have HD : Hid (isD (ahd s a1 b1) = true) := hd
  have HY : Hid (numS s 2 0 59 a1 b1 = (mm, a2, b2)) := hy
  have HE : Hid (isD (ahd s a2 b2) = true) := hd2
  have HW : Hid (numS s 2 0 59 a2 b2 = (ss, a3, none)) := hw
  clear hx hd hy hd2 hw
  have HP : Hid (ahd s a3 none = 46) := hp
  have HQ : Hid (isD (ahd s (a3 + 1) none) = true) := hq
  have HF : Hid (prt s 3 ((ahd s (a3 + 1) none : Int) - 48, 1, a3 + 2, none) = (P, D, A, B)) := hf
  have ab := (show 48 ≤ ahd s (a3 + 1) none ∧ ahd s (a3 + 1) none ≤ 57 by simpa [isD] using hq)
  obtain ⟨d1, hd1⟩ : ∃ d1 : Int, (ahd s (a3 + 1) none : Int) - 48 = d1 := ⟨_, rfl⟩
  have HD0 : Hid ((ahd s (a3 + 1) none : Int) - 48 = d1) := hd1
  have db1 : 0 ≤ d1 := by omega
  have db2 : d1 ≤ 9 := by omega
  rw [hd1] at HF
  clear hp hq hf ab hd1
  have HC : Hid (CS w w R K s a bad l 0 0 0 0 0) := hC
  clear hC
  go_enter Tryz.func66, Tryz.ntmps66
  go_wp2_with fail
  obtain ⟨u1, ru1⟩ := HC.out.rdr
  refine (number_any 2 0 23 _ ru1 (by omega)).mono ?_
  rintro e w1 ⟨he, r1, o1⟩
  rw [HX.out] at he r1
  subst he
  have HC1 : Hid (CS w w1 R K s a1 b1 l 0 0 0 0 0) := HC.out.step hRK r1 o1
  have q1_0 := HC1.out.clk.k0
  have e1_0 := HC1.out.clk.fr 0 (by omega)
  have q1_4 := HC1.out.clk.k4
  have e1_4 := HC1.out.clk.fr 4 (by omega)
  have q1_5 := HC1.out.clk.k5
  have e1_5 := HC1.out.clk.fr 5 (by omega)
  have q1_6 := HC1.out.clk.k6
  have e1_6 := HC1.out.clk.fr 6 (by omega)
  have q1_7 := HC1.out.clk.k7
  have e1_7 := HC1.out.clk.fr 7 (by omega)
  have q1_8 := HC1.out.clk.k8
  have e1_8 := HC1.out.clk.fr 8 (by omega)
  clear ru1 r1 o1
  go_wp2_with fail
  obtain ⟨x1, rx1⟩ := ((HC1.out.set0 hRK 4).set4 hRK hh).rdr
  refine (digitAhead_any _ rx1).mono ?_
  rintro e v1 ⟨he, n1, rfl⟩
  rw [HD.out] at he
  subst he
  have HD1 : Hid (CS w _ R K s a1 b1 4 hh 0 0 0 0) := ((HC1.out.set0 hRK 4).set4 hRK hh).drewN hRK n1
  clear rx1
  clear q1_0 e1_0 q1_4 e1_4 q1_5 e1_5 q1_6 e1_6 q1_7 e1_7 q1_8 e1_8
  go_wp2_with fail
  obtain ⟨u2, ru2⟩ := HD1.out.rdr
  refine (number_any 2 0 59 _ ru2 (by omega)).mono ?_
  rintro e w2 ⟨he, r2, o2⟩
  rw [HY.out] at he r2
  subst he
  have HC2 : Hid (CS w w2 R K s a2 b2 4 hh 0 0 0 0) := HD1.out.step hRK r2 o2
  have q2_0 := HC2.out.clk.k0
  have e2_0 := HC2.out.clk.fr 0 (by omega)
  have q2_4 := HC2.out.clk.k4
  have e2_4 := HC2.out.clk.fr 4 (by omega)
  have q2_5 := HC2.out.clk.k5
  have e2_5 := HC2.out.clk.fr 5 (by omega)
  have q2_6 := HC2.out.clk.k6
  have e2_6 := HC2.out.clk.fr 6 (by omega)
  have q2_7 := HC2.out.clk.k7
  have e2_7 := HC2.out.clk.fr 7 (by omega)
  have q2_8 := HC2.out.clk.k8
  have e2_8 := HC2.out.clk.fr 8 (by omega)
  clear ru2 r2 o2
  go_wp2_with fail
  obtain ⟨x2, rx2⟩ := ((HC2.out.set0 hRK 5).set5 hRK mm).rdr
  refine (digitAhead_any _ rx2).mono ?_
  rintro e v2 ⟨he, n2, rfl⟩
  rw [HE.out] at he
  subst he
  have HD2 : Hid (CS w _ R K s a2 b2 5 hh mm 0 0 0) := ((HC2.out.set0 hRK 5).set5 hRK mm).drewN hRK n2
  clear rx2
  clear q2_0 e2_0 q2_4 e2_4 q2_5 e2_5 q2_6 e2_6 q2_7 e2_7 q2_8 e2_8
  go_wp2_with fail
  obtain ⟨u3, ru3⟩ := HD2.out.rdr
  refine (number_any 2 0 59 _ ru3 (by omega)).mono ?_
  rintro e w3 ⟨he, r3, o3⟩
  rw [HW.out] at he r3
  subst he
  have HC3 : Hid (CS w w3 R K s a3 none 5 hh mm 0 0 0) := HD2.out.step hRK r3 o3
  have q3_0 := HC3.out.clk.k0
  have e3_0 := HC3.out.clk.fr 0 (by omega)
  have q3_4 := HC3.out.clk.k4
  have e3_4 := HC3.out.clk.fr 4 (by omega)
  have q3_5 := HC3.out.clk.k5
  have e3_5 := HC3.out.clk.fr 5 (by omega)
  have q3_6 := HC3.out.clk.k6
  have e3_6 := HC3.out.clk.fr 6 (by omega)
  have q3_7 := HC3.out.clk.k7
  have e3_7 := HC3.out.clk.fr 7 (by omega)
  have q3_8 := HC3.out.clk.k8
  have e3_8 := HC3.out.clk.fr 8 (by omega)
  clear ru3 r3 o3
  go_wp2_with fail
  obtain ⟨x3, rx3⟩ := ((HC3.out.set0 hRK 6).set6 hRK ss).rdr
  refine (ahead_any _ rx3).mono ?_
  rintro e v3 ⟨he, n3, rfl⟩
  rw [HP.out] at he
  subst he
  have HD3 : Hid (CS w _ R K s a3 none 6 hh mm ss 0 0) := ((HC3.out.set0 hRK 6).set6 hRK ss).drewN hRK n3
  clear rx3
  clear q3_0 e3_0 q3_4 e3_4 q3_5 e3_5 q3_6 e3_6 q3_7 e3_7 q3_8 e3_8
  obtain ⟨y3, ry3⟩ := HD3.out.rdr
  have m1 := ry3.at_
  have m2 := ry3.fr1
  have hs : s.size ≤ maxLen := ry3.fit
  unfold maxLen at hs
  have HM : Hid (CS w _ R K s (a3 + 1) none 6 hh mm ss 0 0) := HD3.out.step hRK ⟨y3, rdr_moved ry3 hl3⟩ ((Off.refl (· = R) _).setCell (p := ⟨R, 1, none⟩) rfl _)
  clear ry3
  go_wp2_with fail
  obtain ⟨z3, rz3⟩ := HM.out.rdr
  refine (digit_yes _ rz3 HQ.out).mono ?_
  rintro e w4 ⟨he, r4, o4⟩
  rw [HD0.out] at he
  subst he
  have HC4 : Hid (CS w w4 R K s (a3 + 2) none 6 hh mm ss 0 0) := HM.out.step hRK ⟨_, r4⟩ o4
  have q4_0 := HC4.out.clk.k0
  have e4_0 := HC4.out.clk.fr 0 (by omega)
  have q4_4 := HC4.out.clk.k4
  have e4_4 := HC4.out.clk.fr 4 (by omega)
  have q4_5 := HC4.out.clk.k5
  have e4_5 := HC4.out.clk.fr 5 (by omega)
  have q4_6 := HC4.out.clk.k6
  have e4_6 := HC4.out.clk.fr 6 (by omega)
  have q4_7 := HC4.out.clk.k7
  have e4_7 := HC4.out.clk.fr 7 (by omega)
  have q4_8 := HC4.out.clk.k8
  have e4_8 := HC4.out.clk.fr 8 (by omega)
  clear rz3 r4 o4 m1 m2 hs
  go_wp2_with fail
  go_loopw [] (fun wx => ∃ (k : Nat) (p : Int) (a' : Nat) (b' : Option Nat), 1 ≤ k ∧ k ≤ 4 ∧ 0 ≤ p ∧ p ≤ 10 ^ k - 1 ∧ Hid (prt s (4 - k) (p, (k : Int), a', b') = (P, D, A, B) ∧ CS w wx R K s a' b' 7 hh mm ss p k)) (fun wx => dgLeft K wx)
  case atStart => exact ⟨1, d1, a3 + 2, none, by omega, by omega, by omega, by omega, HF.out, ((HC4.out.set0 hRK 7).set7 hRK d1).set8 hRK 1⟩
  case round =>
    clear q4_0 e4_0 q4_4 e4_4 q4_5 e4_5 q4_6 e4_6 q4_7 e4_7 q4_8 e4_8
    obtain ⟨k, p, a', b', k1, k4, p0, p1, HZ⟩ := hrel
    have tp := tens_pos k (by omega)
    have p2 : p ≤ 9999 := by omega
    have q7 := HZ.out.2.clk.k7
    have q8 := HZ.out.2.clk.k8
    have e7 := HZ.out.2.clk.fr 7 (by omega)
    have e8 := HZ.out.2.clk.fr 8 (by omega)
    by_cases hk : k = 4
    · subst hk
      have HG := HZ.out
      have e1 : (p, ((4 : Nat) : Int), a', b') = (P, D, A, B) := HG.1
      simp only [Prod.mk.injEq] at e1
      obtain ⟨rfl, rfl, rfl, rfl⟩ := e1
      have HG2 := HG.2
      have HG3 : Hid (CS w _ R K s a' b' 7 hh mm ss p ((4 : Nat) : Int)) := HG2
      clear HZ HG HG2 tp p1
      go_wp2_with fail
      go_end0
      exact ⟨rfl, HG3.out⟩
    · have hk4 : (k : Int) < 4 := by omega
      obtain ⟨x5, rx5⟩ := HZ.out.2.rdr
      have HX5 : Hid (Rdr _ R s a' b' x5) := rx5
      clear rx5
      obtain ⟨j, hj⟩ : ∃ j, 4 - k = j + 1 := ⟨3 - k, by omega⟩
      cases hd : isD (ahd s a' b') with
      | false =>
        have HDd : Hid (isD (ahd s a' b') = false) := hd
        have e1 : (p, (k : Int), a', b') = (P, D, A, B) := by
          have := HZ.out.1
          rw [hj] at this
          unfold prt at this
          simp only [hd, Bool.false_eq_true, if_false] at this
          exact this
        simp only [Prod.mk.injEq] at e1
        obtain ⟨rfl, rfl, rfl, rfl⟩ := e1
        clear hd hj tp p1
        go_wp2_with fail
        refine (digitAhead_any _ HX5.out).mono ?_
        rintro e v5 ⟨he, n5, rfl⟩
        rw [HDd.out] at he
        subst he
        go_wp2_with fail
        go_end0
        exact ⟨rfl, HZ.out.2.drewN hRK n5⟩
      | true =>
        have HDd : Hid (isD (ahd s a' b') = true) := hd
        have ab := (show 48 ≤ ahd s a' b' ∧ ahd s a' b' ≤ 57 by simpa [isD] using hd)
        obtain ⟨dv, hdv⟩ : ∃ dv : Int, (ahd s a' b' : Int) - 48 = dv := ⟨_, rfl⟩
        have HV : Hid ((ahd s a' b' : Int) - 48 = dv) := hdv
        have dv1 : 0 ≤ dv := by omega
        have dv2 : dv ≤ 9 := by omega
        have HN : Hid (prt s (4 - (k + 1)) (p * 10 + dv, ((k + 1 : Nat) : Int), a' + 1, b') = (P, D, A, B)) := by
          have := HZ.out.1
          rw [hj] at this
          unfold prt at this
          simp only [hd, if_true, hdv] at this
          unfold Hid
          rw [show 4 - (k + 1) = j by omega]; exact this
        have HP2 : Hid (p * 10 + dv ≤ 10 ^ (k + 1) - 1) := by
          have : (10 : Int) ^ (k + 1) = 10 ^ k * 10 := rfl
          unfold Hid; omega
        have HKL : Hid (k < 4) := by unfold Hid; omega
        clear hd ab hdv hj tp p1 hk
        go_wp2_with fail
        refine (digitAhead_any _ HX5.out).mono ?_
        rintro e v5 ⟨he, n5, rfl⟩
        rw [HDd.out] at he
        subst he
        go_wp2_with fail
        go_region_with (go_at_call 79; refine (digit_yes _ (HX5.out.drewN _) HDd.out).mono ?_; rintro e w6 ⟨he, r6, o6⟩; rw [HV.out] at he; subst he; have HC6 : Hid (CS w w6 R K s (a' + 1) b' 7 hh mm ss p k) := (HZ.out.2.drewN hRK _).step hRK ⟨_, r6⟩ o6; have q6_7 := HC6.out.clk.k7; have q6_8 := HC6.out.clk.k8; have e6_7 := HC6.out.clk.fr 7 (by omega); have e6_8 := HC6.out.clk.fr 8 (by omega); clear r6 o6)
        all_goals
          go_wp2_with fail
          go_roundw
          case rel => exact ⟨k + 1, p * 10 + dv, a' + 1, b', by omega, HKL.out, by omega, HP2.out, HN.out, (HC6.out.set7 hRK _).set8 hRK _⟩
          case measure =>
            rw [dgLeft_of ((HC6.out.set7 hRK _).set8 hRK _).clk.k8, dgLeft_of HZ.out.2.clk.k8]
            have := HKL.out
            omega

set_option maxHeartbeats 4000000 in
theorem clock_7n {R K : Nat} {s : ByteArray} {a : Nat} {bad : Option Nat} {l : Int} {hh mm ss : Int} {a1 a2 a3 : Nat} {b1 b2 b3 : Option Nat} (w : World) (hRK : R ≠ K) (hC : CS w w R K s a bad l 0 0 0 0 0) (hx : numS s 2 0 23 a bad = (hh, a1, b1)) (hd : isD (ahd s a1 b1) = true)
    (hy : numS s 2 0 59 a1 b1 = (mm, a2, b2)) (hd2 : isD (ahd s a2 b2) = true) (hw : numS s 2 0 59 a2 b2 = (ss, a3, b3)) (hp : ahd s a3 b3 = 46) (hq : isD (ahd s (a3 + 1) none) = false) :
    Calls Tryz.prog 66 #[.pointer (some ⟨R, 0, none⟩), .pointer (some ⟨K, 0, none⟩)] w fun e w' => e = .returned (.tuple #[]) ∧ CS w w' R K s (a3 + 1) (some (a3 + 1)) 7 hh mm ss 0 1 := by
  obtain ⟨rfl, hl3⟩ := point_in hp
  have HX : Hid (numS s 2 0 23 a bad = (hh, a1, b1)) := hx
  have HD : Hid (isD (ahd s a1 b1) = true) := hd
  have HY : Hid (numS s 2 0 59 a1 b1 = (mm, a2, b2)) := hy
  have HE : Hid (isD (ahd s a2 b2) = true) := hd2
  have HW : Hid (numS s 2 0 59 a2 b2 = (ss, a3, none)) := hw
  clear hx hd hy hd2 hw
  have HP : Hid (ahd s a3 none = 46) := hp
  have HQ : Hid (isD (ahd s (a3 + 1) none) = false) := hq
  clear hp hq
  have HC : Hid (CS w w R K s a bad l 0 0 0 0 0) := hC
  clear hC
  go_enter Tryz.func66, Tryz.ntmps66
  go_wp2_with fail
  obtain ⟨u1, ru1⟩ := HC.out.rdr
  refine (number_any 2 0 23 _ ru1 (by omega)).mono ?_
  rintro e w1 ⟨he, r1, o1⟩
  rw [HX.out] at he r1
  subst he
  have HC1 : Hid (CS w w1 R K s a1 b1 l 0 0 0 0 0) := HC.out.step hRK r1 o1
  have q1_0 := HC1.out.clk.k0
  have e1_0 := HC1.out.clk.fr 0 (by omega)
  have q1_4 := HC1.out.clk.k4
  have e1_4 := HC1.out.clk.fr 4 (by omega)
  have q1_5 := HC1.out.clk.k5
  have e1_5 := HC1.out.clk.fr 5 (by omega)
  have q1_6 := HC1.out.clk.k6
  have e1_6 := HC1.out.clk.fr 6 (by omega)
  have q1_7 := HC1.out.clk.k7
  have e1_7 := HC1.out.clk.fr 7 (by omega)
  have q1_8 := HC1.out.clk.k8
  have e1_8 := HC1.out.clk.fr 8 (by omega)
  clear ru1 r1 o1
  go_wp2_with fail
  obtain ⟨x1, rx1⟩ := ((HC1.out.set0 hRK 4).set4 hRK hh).rdr
  refine (digitAhead_any _ rx1).mono ?_
  rintro e v1 ⟨he, n1, rfl⟩
  rw [HD.out] at he
  subst he
  have HD1 : Hid (CS w _ R K s a1 b1 4 hh 0 0 0 0) := ((HC1.out.set0 hRK 4).set4 hRK hh).drewN hRK n1
  clear rx1
  clear q1_0 e1_0 q1_4 e1_4 q1_5 e1_5 q1_6 e1_6 q1_7 e1_7 q1_8 e1_8
  go_wp2_with fail
  obtain ⟨u2, ru2⟩ := HD1.out.rdr
  refine (number_any 2 0 59 _ ru2 (by omega)).mono ?_
  rintro e w2 ⟨he, r2, o2⟩
  rw [HY.out] at he r2
  subst he
  have HC2 : Hid (CS w w2 R K s a2 b2 4 hh 0 0 0 0) := HD1.out.step hRK r2 o2
  have q2_0 := HC2.out.clk.k0
  have e2_0 := HC2.out.clk.fr 0 (by omega)
  have q2_4 := HC2.out.clk.k4
  have e2_4 := HC2.out.clk.fr 4 (by omega)
  have q2_5 := HC2.out.clk.k5
  have e2_5 := HC2.out.clk.fr 5 (by omega)
  have q2_6 := HC2.out.clk.k6
  have e2_6 := HC2.out.clk.fr 6 (by omega)
  have q2_7 := HC2.out.clk.k7
  have e2_7 := HC2.out.clk.fr 7 (by omega)
  have q2_8 := HC2.out.clk.k8
  have e2_8 := HC2.out.clk.fr 8 (by omega)
  clear ru2 r2 o2
  go_wp2_with fail
  obtain ⟨x2, rx2⟩ := ((HC2.out.set0 hRK 5).set5 hRK mm).rdr
  refine (digitAhead_any _ rx2).mono ?_
  rintro e v2 ⟨he, n2, rfl⟩
  rw [HE.out] at he
  subst he
  have HD2 : Hid (CS w _ R K s a2 b2 5 hh mm 0 0 0) := ((HC2.out.set0 hRK 5).set5 hRK mm).drewN hRK n2
  clear rx2
  clear q2_0 e2_0 q2_4 e2_4 q2_5 e2_5 q2_6 e2_6 q2_7 e2_7 q2_8 e2_8
  go_wp2_with fail
  obtain ⟨u3, ru3⟩ := HD2.out.rdr
  refine (number_any 2 0 59 _ ru3 (by omega)).mono ?_
  rintro e w3 ⟨he, r3, o3⟩
  rw [HW.out] at he r3
  subst he
  have HC3 : Hid (CS w w3 R K s a3 none 5 hh mm 0 0 0) := HD2.out.step hRK r3 o3
  have q3_0 := HC3.out.clk.k0
  have e3_0 := HC3.out.clk.fr 0 (by omega)
  have q3_4 := HC3.out.clk.k4
  have e3_4 := HC3.out.clk.fr 4 (by omega)
  have q3_5 := HC3.out.clk.k5
  have e3_5 := HC3.out.clk.fr 5 (by omega)
  have q3_6 := HC3.out.clk.k6
  have e3_6 := HC3.out.clk.fr 6 (by omega)
  have q3_7 := HC3.out.clk.k7
  have e3_7 := HC3.out.clk.fr 7 (by omega)
  have q3_8 := HC3.out.clk.k8
  have e3_8 := HC3.out.clk.fr 8 (by omega)
  clear ru3 r3 o3
  go_wp2_with fail
  obtain ⟨x3, rx3⟩ := ((HC3.out.set0 hRK 6).set6 hRK ss).rdr
  refine (ahead_any _ rx3).mono ?_
  rintro e v3 ⟨he, n3, rfl⟩
  rw [HP.out] at he
  subst he
  have HD3 : Hid (CS w _ R K s a3 none 6 hh mm ss 0 0) := ((HC3.out.set0 hRK 6).set6 hRK ss).drewN hRK n3
  clear rx3
  clear q3_0 e3_0 q3_4 e3_4 q3_5 e3_5 q3_6 e3_6 q3_7 e3_7 q3_8 e3_8
  obtain ⟨y3, ry3⟩ := HD3.out.rdr
  have m1 := ry3.at_
  have m2 := ry3.fr1
  have hs : s.size ≤ maxLen := ry3.fit
  unfold maxLen at hs
  have HM : Hid (CS w _ R K s (a3 + 1) none 6 hh mm ss 0 0) := HD3.out.step hRK ⟨y3, rdr_moved ry3 hl3⟩ ((Off.refl (· = R) _).setCell (p := ⟨R, 1, none⟩) rfl _)
  clear ry3
  go_wp2_with fail
  obtain ⟨z3, rz3⟩ := HM.out.rdr
  refine (digit_no _ rz3 HQ.out).mono ?_
  rintro e w4 ⟨rfl, r4, o4⟩
  have HC4 : Hid (CS w w4 R K s (a3 + 1) (some (a3 + 1)) 6 hh mm ss 0 0) := HM.out.step hRK r4 o4
  have q4_0 := HC4.out.clk.k0
  have e4_0 := HC4.out.clk.fr 0 (by omega)
  have q4_4 := HC4.out.clk.k4
  have e4_4 := HC4.out.clk.fr 4 (by omega)
  have q4_5 := HC4.out.clk.k5
  have e4_5 := HC4.out.clk.fr 5 (by omega)
  have q4_6 := HC4.out.clk.k6
  have e4_6 := HC4.out.clk.fr 6 (by omega)
  have q4_7 := HC4.out.clk.k7
  have e4_7 := HC4.out.clk.fr 7 (by omega)
  have q4_8 := HC4.out.clk.k8
  have e4_8 := HC4.out.clk.fr 8 (by omega)
  have HC5 : Hid (CS w _ R K s (a3 + 1) (some (a3 + 1)) 7 hh mm ss 0 1) := ((HC4.out.set0 hRK 7).set7 hRK 0).set8 hRK 1
  have q5 := HC5.out.clk.k8
  obtain ⟨x5, rx5⟩ := HC5.out.rdr
  have HX5 : Hid (Rdr _ R s (a3 + 1) (some (a3 + 1)) x5) := rx5
  have HDd : Hid (isD (ahd s (a3 + 1) (some (a3 + 1))) = false) := rfl
  clear rz3 r4 o4 m1 m2 hs rx5
  go_wp2_with fail
  refine wp_loop_rounds 1 ?_
  rw [rounds_succ]
  go_wp2_with fail
  refine (digitAhead_any _ HX5.out).mono ?_
  rintro e v5 ⟨he, n5, rfl⟩
  rw [HDd.out] at he
  subst he
  go_wp2_with fail
  go_end0
  exact ⟨rfl, HC5.out.drewN hRK n5⟩
end Go.Proofs.YtphobcobpclioaaGreatDoor
