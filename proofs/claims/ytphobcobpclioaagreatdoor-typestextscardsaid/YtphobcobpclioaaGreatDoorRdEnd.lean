/-
  The program's reader: end; stamp.Date.
-/
import Derived.Test.YtphobcobpclioaaGreatDoorRdDate
namespace Go.Proofs.YtphobcobpclioaaGreatDoor
open Go.RowKit

theorem date_any {R : Nat} {s : ByteArray} {a : Nat} {bad : Option Nat} {v : Value} (w : World) (h : Rdr w R s a bad v) (hM : Months w) (hRM : R ≠ 5) :
    Calls Tryz.prog 64 #[.pointer (some ⟨R, 0, none⟩)] w fun e w' => e = .returned (.agg #[.int .i64 ((dateS s a bad).1), .int .i64 ((dateS s a bad).2.1), .int .i64 ((dateS s a bad).2.2.1), .int .i64 ((dateS s a bad).2.2.2.1), .int .i64 0, .int .i64 0, .int .i64 0, .int .i64 0, .int .i64 0, .bool false, .int .i64 0]) ∧ (∃ v', Rdr w' R s (dateS s a bad).2.2.2.2.1 (dateS s a bad).2.2.2.2.2 v') ∧ Off (· = R) w w' := by
  obtain ⟨⟨y, a1, b1⟩, hx⟩ : ∃ x, numS s 4 1 9999 a bad = x := ⟨_, rfl⟩
  cases hd : isD (ahd s a1 b1) with
  | false =>
    have e : dateS s a bad = (1, y, 0, 0, a1, b1) := by unfold dateS; simp only [hx, hd, Bool.false_eq_true, if_false]
    rw [e]; exact date_1 w h hx hd
  | true =>
    obtain ⟨⟨mo, a2, b2⟩, hy⟩ : ∃ x, numS s 2 1 12 a1 b1 = x := ⟨_, rfl⟩
    cases hd2 : isD (ahd s a2 b2) with
    | false =>
      have e : dateS s a bad = (2, y, mo, 0, a2, b2) := by unfold dateS; simp only [hx, hd, hy, hd2, Bool.false_eq_true, if_false, if_true]
      rw [e]; exact date_2 w h hx hd hy hd2
    | true =>
      obtain ⟨⟨dd, a3, b3⟩, hw⟩ : ∃ x, numS s 2 1 (dinB y mo) a2 b2 = x := ⟨_, rfl⟩
      have e : dateS s a bad = (3, y, mo, dd, a3, b3) := by unfold dateS; simp only [hx, hd, hy, hd2, hw, if_true]
      have hb1 : b1 = none := (isD_in hd).1
      have yb := num_none (s := s) (width := 4) (a := a) (lo := 1) (hi := 9999) (bad := bad) (by rw [hx]; exact hb1)
      rw [hx] at yb
      rw [e]; exact date_3 w h hM hRM hx hd hy hd2 yb.1 yb.2 hw

def endB (s : ByteArray) (a : Nat) (bad : Option Nat) : Option Nat := if a < s.size then orB bad a else bad
set_option maxHeartbeats 1000000 in
theorem end_any {R : Nat} {s : ByteArray} {a : Nat} {bad : Option Nat} {v : Value} (w : World) (h : Rdr w R s a bad v) :
    Calls Tryz.prog 65 #[.pointer (some ⟨R, 0, none⟩)] w fun e w' => ∃ v', e = .returned v' ∧ Rdr w' R s a (endB s a bad) v' ∧ Off (· = R) w w' := by
  have c0 := h.text
  have c1 := h.at_
  have c2 := h.err
  have hs : s.size ≤ maxLen := h.fit
  unfold maxLen at hs
  have HR : Hid (Rdr w R s a bad v) := h
  clear h
  by_cases g : a < s.size
  · have e : endB s a bad = orB bad a := by unfold endB; rw [if_pos g]
    rw [e]
    have g2 : (a : Int) < s.size := by omega
    clear e
    go_enter Tryz.func65, Tryz.ntmps65
    go_wp2_with fail
    go_quiet (fail)
    go_wp2_with fail
    refine (refuse_any a _ (HR.out.drewN _)).mono ?_
    rintro e w1 ⟨rfl, ⟨v1, r1⟩, o1⟩
    have k2 := r1.err
    have HR1 : Hid (Rdr w1 R s a (orB bad a) v1) := r1
    have HO1 : Hid (Off (· = R) w w1) := ((Off.refl _ w).drewN _).trans o1
    clear r1 o1
    go_wp2_with fail
    go_ret
    exact ⟨v1, rfl, HR1.out, HO1.out⟩
  · have e : endB s a bad = bad := by unfold endB; rw [if_neg g]
    rw [e]
    have g2 : (s.size : Int) ≤ a := by omega
    clear e
    go_enter Tryz.func65, Tryz.ntmps65
    go_wp2_with fail
    go_quiet (fail)
    go_wp2_with fail
    go_ret
    exact ⟨v, rfl, HR.out.drewN _, (Off.refl _ w).drewN _⟩
end Go.Proofs.YtphobcobpclioaaGreatDoor
