/-
  The program's reader: digits and number.
-/
import Derived.Test.YtpcdkafjogpdkaaDoorRd
namespace Go.Proofs.YtpcdkafjogpdkaaDoor
open Go.RowKit

/-- One digit more. -/
def stp (s : ByteArray) (x : Int × Nat × Option Nat) : Int × Nat × Option Nat :=
  if isD (ahd s x.2.1 x.2.2) then (x.1 * 10 + ((ahd s x.2.1 x.2.2 : Int) - 48), x.2.1 + 1, x.2.2) else (x.1 * 10, x.2.1, orB x.2.2 x.2.1)
def itr (s : ByteArray) : Nat → Int × Nat × Option Nat → Int × Nat × Option Nat
  | 0, x => x
  | k + 1, x => stp s (itr s k x)
theorem stp_yes {s : ByteArray} {n : Int} {a : Nat} {bad : Option Nat} (h : isD (ahd s a bad) = true) : stp s (n, a, bad) = (n * 10 + ((ahd s a bad : Int) - 48), a + 1, bad) := by unfold stp; rw [if_pos h]
theorem stp_no {s : ByteArray} {n : Int} {a : Nat} {bad : Option Nat} (h : isD (ahd s a bad) = false) : stp s (n, a, bad) = (n * 10, a, orB bad a) := by unfold stp; rw [if_neg (by rw [h]; decide)]
theorem itr_bd (s : ByteArray) (k : Nat) (x : Int × Nat × Option Nat) (h0 : x.1 = 0) : 0 ≤ (itr s k x).1 ∧ (itr s k x).1 ≤ 10 ^ k - 1 := by
  induction k with
  | zero => exact ⟨by show 0 ≤ x.1; omega, by show x.1 ≤ 1 - 1; omega⟩
  | succ k ih =>
    have e : (10 : Int) ^ (k + 1) = 10 ^ k * 10 := rfl
    obtain ⟨⟨n, a, bad⟩, hx⟩ : ∃ y, itr s k x = y := ⟨_, rfl⟩
    rw [hx] at ih
    show 0 ≤ (stp s (itr s k x)).1 ∧ (stp s (itr s k x)).1 ≤ _
    rw [hx]
    cases hd : isD (ahd s a bad) with
    | true =>
      rw [stp_yes hd]
      have := (show 48 ≤ ahd s a bad ∧ ahd s a bad ≤ 57 by simpa [isD] using hd)
      simp only at ih ⊢; omega
    | false => rw [stp_no hd]; simp only at ih ⊢; omega

set_option maxHeartbeats 1000000 in
theorem digits_any {R : Nat} {s : ByteArray} {a : Nat} {bad : Option Nat} {v : Value} (width : Nat) (w : World) (h : Rdr w R s a bad v) (hw : width ≤ 4) :
    Calls Tryd.prog 58 #[.pointer (some ⟨R, 0, none⟩), .int .i64 width] w fun e w' => e = .returned (.int .i64 (itr s width (0, a, bad)).1) ∧ (∃ v', Rdr w' R s (itr s width (0, a, bad)).2.1 (itr s width (0, a, bad)).2.2 v') ∧ Off (· = R) w w' := by
  have HR : Hid (Rdr w R s a bad v) := h
  clear h
  go_enter Tryd.func58, Tryd.ntmps58
  go_wp2
  go_loopw [5, 7] (fun tn ti wx => ∃ k : Nat, k ≤ width ∧ ti = .int .i64 k ∧ tn = .int .i64 (itr s k (0, a, bad)).1 ∧ Hid ((∃ v', Rdr wx R s (itr s k (0, a, bad)).2.1 (itr s k (0, a, bad)).2.2 v') ∧ Off (· = R) w wx)) (fun _ ti _ => width - (intOf ti).toNat)
  case atStart => exact ⟨0, Nat.zero_le _, rfl, rfl, ⟨v, HR.out⟩, Off.refl _ _⟩
  case round =>
    obtain ⟨k, hk, rfl, rfl, HX⟩ := hrel
    have ib := itr_bd s k (0, a, bad) rfl
    have tp := tens_pos k (by omega)
    have HS : Hid (itr s (k + 1) (0, a, bad) = stp s (itr s k (0, a, bad))) := rfl
    obtain ⟨⟨n, a1, b1⟩, hx⟩ : ∃ x, itr s k (0, a, bad) = x := ⟨_, rfl⟩
    rw [hx] at HS HX ib
    have HI : Hid (itr s k (0, a, bad) = (n, a1, b1)) := hx
    rw [hx]
    clear hx
    simp only at ib
    have ib1 := ib.1
    have ib2 : n ≤ 9999 := by omega
    clear ib tp
    by_cases hlt : k < width
    · have hlt1 : (k : Int) < width := by omega
      obtain ⟨⟨v1, r1⟩, o1⟩ := HX.out
      have HR1 : Hid (Rdr _ R s a1 b1 v1) := r1
      have HO1 : Hid (Off (· = R) w _) := o1
      clear r1 o1 HX
      cases hd : isD (ahd s a1 b1) with
      | true =>
        have ab := (show 48 ≤ ahd s a1 b1 ∧ ahd s a1 b1 ≤ 57 by simpa [isD] using hd)
        have ab1 := ab.1
        have ab2 := ab.2
        have HD : Hid (isD (ahd s a1 b1) = true) := hd
        clear hd ab
        go_wp2_with fail
        refine (digit_yes _ HR1.out HD.out).mono ?_
        rintro e w2 ⟨rfl, r2, o2⟩
        have HR2 : Hid (Rdr w2 R s (a1 + 1) b1 v1) := r2
        have HO2 : Hid (Off (· = R) w w2) := HO1.out.trans o2
        clear r2 o2
        go_wp2_with fail
        go_roundw
        case rel => exact ⟨k + 1, hlt, by go_num, by rw [HS.out, stp_yes HD.out], ⟨v1, by rw [HS.out, stp_yes HD.out]; exact HR2.out⟩, HO2.out⟩
        case measure => simp [intOf]; omega
      | false =>
        have HD : Hid (isD (ahd s a1 b1) = false) := hd
        clear hd
        go_wp2_with fail
        refine (digit_no _ HR1.out HD.out).mono ?_
        rintro e w2 ⟨rfl, r2, o2⟩
        have HR2 : Hid (∃ v', Rdr w2 R s a1 (orB b1 a1) v') := r2
        have HO2 : Hid (Off (· = R) w w2) := HO1.out.trans o2
        clear r2 o2
        go_wp2_with fail
        go_roundw
        case rel => exact ⟨k + 1, hlt, by go_num, by rw [HS.out, stp_no HD.out], by rw [HS.out, stp_no HD.out]; exact HR2.out, HO2.out⟩
        case measure => simp [intOf]; omega
    · have hlt1 : ¬ (k : Int) < width := by omega
      have hk2 : k = width := by omega
      have HK : Hid (k = width) := hk2
      clear hk2
      go_wp2_with fail
      go_ret
      have e1 : itr s width (0, a, bad) = (n, a1, b1) := by rw [← HK.out]; exact HI.out
      exact ⟨ret_int (by rw [e1]), by rw [e1]; exact HX.out.1, HX.out.2⟩

/-- A number: its digits, its place behind them, and the first fault. -/
def numS (s : ByteArray) (width : Nat) (lo hi : Int) (a : Nat) (bad : Option Nat) : Int × Nat × Option Nat :=
  ((itr s width (0, a, bad)).1, (itr s width (0, a, bad)).2.1, if inB (itr s width (0, a, bad)).1 lo hi then (itr s width (0, a, bad)).2.2 else orB (itr s width (0, a, bad)).2.2 a)
theorem refuse_any {R : Nat} {s : ByteArray} {a : Nat} {bad : Option Nat} {v : Value} (p : Nat) (w : World) (h : Rdr w R s a bad v) :
    Calls Tryd.prog 59 #[.pointer (some ⟨R, 0, none⟩), .int .i64 p] w fun e w' => e = .returned (.tuple #[]) ∧ (∃ v', Rdr w' R s a (orB bad p) v') ∧ Off (· = R) w w' := by
  cases bad with
  | none => exact refuse_set p w h
  | some q => exact (refuse_kept (p : Int) w h).mono fun e w' ⟨he, hw⟩ => ⟨he, ⟨v, by rw [hw]; exact h⟩, by rw [hw]; exact Off.refl _ _⟩

set_option maxHeartbeats 1000000 in
theorem number_any {R : Nat} {s : ByteArray} {a : Nat} {bad : Option Nat} {v : Value} (width : Nat) (lo hi : Int) (w : World) (h : Rdr w R s a bad v) (hw : width ≤ 4) :
    Calls Tryd.prog 54 #[.pointer (some ⟨R, 0, none⟩), .int .i64 width, .int .i64 lo, .int .i64 hi] w fun e w' => e = .returned (.int .i64 (numS s width lo hi a bad).1) ∧ (∃ v', Rdr w' R s (numS s width lo hi a bad).2.1 (numS s width lo hi a bad).2.2 v') ∧ Off (· = R) w w' := by
  have c1 := h.at_
  have HR : Hid (Rdr w R s a bad v) := h
  have HW : Hid (width ≤ 4) := hw
  obtain ⟨⟨n, a1, b1⟩, hx⟩ : ∃ x, itr s width (0, a, bad) = x := ⟨_, rfl⟩
  have HI : Hid (itr s width (0, a, bad) = (n, a1, b1)) := hx
  have hN : numS s width lo hi a bad = (n, a1, if inB n lo hi then b1 else orB b1 a) := by unfold numS; rw [hx]
  clear hx h hw
  by_cases g1 : n < lo
  · have hB : inB n lo hi = false := by unfold inB; simp; omega
    rw [hB] at hN
    simp only [Bool.false_eq_true, if_false] at hN
    rw [hN]
    clear hN hB
    go_enter Tryd.func54, Tryd.ntmps54
    go_wp2_with fail
    refine (digits_any width _ HR.out HW.out).mono ?_
    rintro e w1 ⟨he, r1, o1⟩
    rw [HI.out] at he r1
    subst he
    obtain ⟨v1, r1⟩ := r1
    have HR1 : Hid (Rdr w1 R s a1 b1 v1) := r1
    have HO1 : Hid (Off (· = R) w w1) := o1
    clear r1 o1
    go_wp2_with fail
    refine (refuse_any a _ HR1.out).mono ?_
    rintro e w2 ⟨rfl, r2, o2⟩
    have HR2 : Hid (∃ v', Rdr w2 R s a1 (orB b1 a) v') := r2
    have HO2 : Hid (Off (· = R) w w2) := HO1.out.trans o2
    clear r2 o2
    go_wp2_with fail
    go_ret
    exact ⟨rfl, HR2.out, HO2.out⟩
  · by_cases g2 : hi < n
    · have hB : inB n lo hi = false := by unfold inB; simp; omega
      rw [hB] at hN
      simp only [Bool.false_eq_true, if_false] at hN
      rw [hN]
      clear hN hB
      go_enter Tryd.func54, Tryd.ntmps54
      go_wp2_with fail
      refine (digits_any width _ HR.out HW.out).mono ?_
      rintro e w1 ⟨he, r1, o1⟩
      rw [HI.out] at he r1
      subst he
      obtain ⟨v1, r1⟩ := r1
      have HR1 : Hid (Rdr w1 R s a1 b1 v1) := r1
      have HO1 : Hid (Off (· = R) w w1) := o1
      clear r1 o1
      go_wp2_with fail
      refine (refuse_any a _ HR1.out).mono ?_
      rintro e w2 ⟨rfl, r2, o2⟩
      have HR2 : Hid (∃ v', Rdr w2 R s a1 (orB b1 a) v') := r2
      have HO2 : Hid (Off (· = R) w w2) := HO1.out.trans o2
      clear r2 o2
      go_wp2_with fail
      go_ret
      exact ⟨rfl, HR2.out, HO2.out⟩
    · have hB : inB n lo hi = true := inB_iff.2 (by omega)
      rw [hB] at hN
      simp only [if_true] at hN
      rw [hN]
      clear hN hB
      go_enter Tryd.func54, Tryd.ntmps54
      go_wp2_with fail
      refine (digits_any width _ HR.out HW.out).mono ?_
      rintro e w1 ⟨he, r1, o1⟩
      rw [HI.out] at he r1
      subst he
      have HR1 : Hid (∃ v', Rdr w1 R s a1 b1 v') := r1
      have HO1 : Hid (Off (· = R) w w1) := o1
      clear r1 o1
      go_wp2_with fail
      go_ret
      exact ⟨rfl, HR1.out, HO1.out⟩
end Go.Proofs.YtpcdkafjogpdkaaDoor
