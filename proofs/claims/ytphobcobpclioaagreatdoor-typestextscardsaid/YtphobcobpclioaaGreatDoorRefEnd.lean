/-
  The reference's Reader: date whole, end.
-/
import Derived.Test.YtphobcobpclioaaGreatDoorRefDate
namespace Go.Proofs.YtphobcobpclioaaGreatDoor
open Go.RowKit

theorem rdate_any {R : Nat} {s : ByteArray} {a : Nat} (w : World) (h : RRd w R s a none) :
    Calls Tryz.prog 54 #[.pointer (some ⟨R, 0, none⟩)] w fun e w' => ∃ (l y' m' d' : Int) (a' : Nat), e = .returned (.agg #[.int .i64 l, .int .i64 (y'), .int .i64 (m'), .int .i64 (d'), .int .i64 0, .int .i64 0, .int .i64 0, .int .i64 0, .int .i64 0, .bool false, .int .i64 0]) ∧ RRd w' R s a' (dateS s a none).2.2.2.2.2 ∧
      ((dateS s a none).2.2.2.2.2 = none → a' = (dateS s a none).2.2.2.2.1 ∧ l = (dateS s a none).1 ∧ y' = (dateS s a none).2.1 ∧ m' = (dateS s a none).2.2.1 ∧ d' = (dateS s a none).2.2.2.1) ∧ Off (· = R) w w' := by
  obtain ⟨⟨y, a1, b1⟩, hx⟩ : ∃ x, numS s 4 1 9999 a none = x := ⟨_, rfl⟩
  cases hd : isD (ahd s a1 b1) with
  | false =>
    have e : dateS s a none = (1, y, 0, 0, a1, b1) := by unfold dateS; simp only [hx, hd, Bool.false_eq_true, if_false]
    rw [e]; exact rdate_1 w h hx hd
  | true =>
    obtain ⟨⟨mo, a2, b2⟩, hy⟩ : ∃ x, numS s 2 1 12 a1 b1 = x := ⟨_, rfl⟩
    cases hd2 : isD (ahd s a2 b2) with
    | false =>
      have e : dateS s a none = (2, y, mo, 0, a2, b2) := by unfold dateS; simp only [hx, hd, hy, hd2, Bool.false_eq_true, if_false, if_true]
      rw [e]; exact rdate_2 w h hx hd hy hd2
    | true =>
      obtain ⟨⟨dd, a3, b3⟩, hw⟩ : ∃ x, numS s 2 1 (dinB y mo) a2 b2 = x := ⟨_, rfl⟩
      have e : dateS s a none = (3, y, mo, dd, a3, b3) := by unfold dateS; simp only [hx, hd, hy, hd2, hw, if_true]
      obtain rfl : b1 = none := (isD_in hd).1
      obtain rfl : b2 = none := (isD_in hd2).1
      have yb := num_none (s := s) (width := 4) (a := a) (lo := 1) (hi := 9999) (bad := none) (by rw [hx])
      have mb := num_none (s := s) (width := 2) (a := a1) (lo := 1) (hi := 12) (bad := none) (by rw [hy])
      rw [hx] at yb
      rw [hy] at mb
      rw [← din_t (inB_iff.2 mb)] at hw
      rw [e]; exact rdate_3 w h hx hd hy hd2 yb.1 yb.2 hw

set_option maxHeartbeats 1000000 in
theorem rend_any {R : Nat} {s : ByteArray} {a : Nat} {bad : Option Nat} (w : World) (h : RRd w R s a bad) :
    Calls Tryz.prog 55 #[.pointer (some ⟨R, 0, none⟩)] w fun e w' => e = .returned (.tuple #[]) ∧ RRd w' R s a (endB s a bad) ∧ Off (· = R) w w' := by
  have c0 := h.text
  have c1 := h.at_
  have c2 := h.bad
  have hs : s.size ≤ maxLen := h.fit
  unfold maxLen at hs
  have HR : Hid (RRd w R s a bad) := h
  clear h
  cases bad with
  | some q =>
    have c2' : w.cell? ⟨R, 2, none⟩ = some (.int .i64 (q : Int)) := c2
    have hq : decide ((q : Int) < 0) = false := by simp
    have e : endB s a (some q) = some q := by unfold endB; split <;> rfl
    rw [e]
    clear c2 e
    go_enter Tryz.func55, Tryz.ntmps55
    go_wp2
    go_quiet (fail)
    go_wp2
    go_end0
    exact ⟨rfl, HR.out.drewN _, (Off.refl _ w).drewN _⟩
  | none =>
    have c2' : w.cell? ⟨R, 2, none⟩ = some (.int .i64 (-1)) := c2
    clear c2
    by_cases g : a < s.size
    · have e : endB s a none = some a := by unfold endB; rw [if_pos g]; rfl
      rw [e]
      have g2 : (a : Int) < s.size := by omega
      clear e
      go_enter Tryz.func55, Tryz.ntmps55
      go_wp2
      go_quiet (fail)
      go_wp2_with fail
      refine (rfault_any a _ (HR.out.drewN _)).mono ?_
      rintro e w1 ⟨rfl, r1, o1⟩
      have HR1 : Hid (RRd w1 R s a (some a)) := r1
      have HO1 : Hid (Off (· = R) w w1) := ((Off.refl _ w).drewN _).trans o1
      clear r1 o1
      go_wp2_with fail
      go_end0
      exact ⟨rfl, HR1.out, HO1.out⟩
    · have e : endB s a none = none := by unfold endB; rw [if_neg g]
      rw [e]
      have g2 : decide (a < s.size) = false := by simpa using (by omega : s.size ≤ a)
      clear e g
      go_enter Tryz.func55, Tryz.ntmps55
      go_wp2
      go_quiet (fail)
      go_wp2
      go_end0
      exact ⟨rfl, HR.out.drewN _, (Off.refl _ w).drewN _⟩

theorem rrd_new {w : World} {s : ByteArray} (hs : s.size ≤ maxLen) : RRd (w.alloc (.cells #[.string s, .int .i64 0, .int .i64 (-1)] 107)) w.heap.size s 0 none :=
  ⟨by simp, by simp, by simp [bdI], by simp, by simp, Nat.zero_le _, hs⟩
theorem end_same {s : ByteArray} {a a' : Nat} {b : Option Nat} (h : b = none → a' = a) : endB s a' b = endB s a b := by
  cases b with
  | none => rw [h rfl]
  | some q => unfold endB; split <;> split <;> rfl
def placeI : Option Nat → Int
  | none => 0
  | some p => p
def codeI : Option Nat → Int
  | none => 0
  | some _ => 10
end Go.Proofs.YtphobcobpclioaaGreatDoor
