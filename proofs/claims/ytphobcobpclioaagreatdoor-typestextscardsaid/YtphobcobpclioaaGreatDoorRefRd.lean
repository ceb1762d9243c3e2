/-
  The reference's Reader: fault, more, number.
-/
import Derived.Test.YtphobcobpclioaaGreatDoorRdEnd
namespace Go.Proofs.YtphobcobpclioaaGreatDoor
open Go.RowKit

def bdI : Option Nat → Int
  | none => -1
  | some p => p
structure RRd (w : World) (R : Nat) (s : ByteArray) (a : Nat) (bad : Option Nat) : Prop where
  text : w.cell? ⟨R, 0, none⟩ = some (.string s)
  at_ : w.cell? ⟨R, 1, none⟩ = some (.int .i64 a)
  bad : w.cell? ⟨R, 2, none⟩ = some (.int .i64 (bdI bad))
  fr1 : w.frozen? ⟨R, 1, none⟩ = false
  fr2 : w.frozen? ⟨R, 2, none⟩ = false
  in_ : a ≤ s.size
  fit : s.size ≤ maxLen
theorem RRd.bad_none {w : World} {R : Nat} {s : ByteArray} {a : Nat} (h : RRd w R s a none) : w.cell? ⟨R, 2, none⟩ = some (.int .i64 (-1)) := h.bad
theorem RRd.off {P : Nat → Prop} {w w' : World} {R : Nat} {s : ByteArray} {a : Nat} {bad : Option Nat} (h : RRd w R s a bad) (ho : Off P w w') (hn : ¬ P R) : RRd w' R s a bad := by
  have hl : R < w.heap.size := cell_lt h.text
  exact ⟨by rw [ho.cell (p := ⟨R, 0, none⟩) hl hn]; exact h.text, by rw [ho.cell (p := ⟨R, 1, none⟩) hl hn]; exact h.at_, by rw [ho.cell (p := ⟨R, 2, none⟩) hl hn]; exact h.bad, by rw [ho.frozen (p := ⟨R, 1, none⟩) hl hn]; exact h.fr1, by rw [ho.frozen (p := ⟨R, 2, none⟩) hl hn]; exact h.fr2, h.in_, h.fit⟩
theorem RRd.drewN {w : World} {R : Nat} {s : ByteArray} {a : Nat} {bad : Option Nat} (h : RRd w R s a bad) (n : Nat) : RRd (w.drewN n) R s a bad := h.off (P := fun _ => False) ((Off.refl _ _).drewN n) id
theorem RRd.alloc {w : World} {R : Nat} {s : ByteArray} {a : Nat} {bad : Option Nat} (h : RRd w R s a bad) (o : Obj) : RRd (w.alloc o) R s a bad := h.off (P := fun _ => False) ((Off.refl _ _).alloc o) id
theorem RRd.moved {w : World} {R : Nat} {s : ByteArray} {a : Nat} {bad : Option Nat} (h : RRd w R s a bad) (hl : a + 1 ≤ s.size) : RRd (w.setCell ⟨R, 1, none⟩ (.int .i64 ((a + 1 : Nat) : Int))) R s (a + 1) bad := by
  have c0 := h.text
  have c2 := h.bad
  exact ⟨by simp [World.cell?_setCell_other, c0], World.cell?_setCell_same _ _ _ h.at_, by simp [World.cell?_setCell_other, c2], by simpa using h.fr1, by simpa using h.fr2, hl, h.fit⟩
theorem RRd.faulted {w : World} {R : Nat} {s : ByteArray} {a : Nat} (h : RRd w R s a none) (p : Nat) : RRd (w.setCell ⟨R, 2, none⟩ (.int .i64 (p : Int))) R s a (some p) := by
  have c0 := h.text
  have c1 := h.at_
  exact ⟨by simp [World.cell?_setCell_other, c0], by simp [World.cell?_setCell_other, c1], World.cell?_setCell_same _ _ _ h.bad, by simpa using h.fr1, by simpa using h.fr2, h.in_, h.fit⟩

set_option maxHeartbeats 400000 in
theorem rfault_any {R : Nat} {s : ByteArray} {a : Nat} {bad : Option Nat} (p : Nat) (w : World) (h : RRd w R s a bad) :
    Calls Tryz.prog 72 #[.pointer (some ⟨R, 0, none⟩), .int .i64 p] w fun e w' => e = .returned (.tuple #[]) ∧ RRd w' R s a (orB bad p) ∧ Off (· = R) w w' := by
  have c2 := h.bad
  have f2 := h.fr2
  have HR : Hid (RRd w R s a bad) := h
  clear h
  cases bad with
  | none =>
    have c2' : w.cell? ⟨R, 2, none⟩ = some (.int .i64 (-1)) := c2
    clear c2
    go_enter Tryz.func72, Tryz.ntmps72
    go_wp2
    go_end0
    exact ⟨rfl, HR.out.faulted p, (Off.refl (· = R) w).setCell (p := ⟨R, 2, none⟩) rfl _⟩
  | some q =>
    have c2' : w.cell? ⟨R, 2, none⟩ = some (.int .i64 (q : Int)) := c2
    have hq : ¬ (q : Int) < 0 := by omega
    clear c2
    go_enter Tryz.func72, Tryz.ntmps72
    go_wp2
    go_end0
    exact ⟨rfl, HR.out, Off.refl _ _⟩

theorem isD_of {s : ByteArray} {a : Nat} (hl : a < s.size) : isD (ahd s a none) = (decide (48 ≤ (s[a].toNat : Int)) && decide ((s[a].toNat : Int) ≤ 57)) := by
  rw [ahd_in hl]; unfold isD; rw [Bool.eq_iff_iff]; simp; omega
set_option maxHeartbeats 1000000 in
theorem more_any {R : Nat} {s : ByteArray} {a : Nat} {bad : Option Nat} (w : World) (h : RRd w R s a bad) :
    Calls Tryz.prog 58 #[.pointer (some ⟨R, 0, none⟩)] w fun e w' => e = .returned (.bool (isD (ahd s a bad))) ∧ ∃ n, w' = w.drewN n := by
  have c0 := h.text
  have c1 := h.at_
  have c2 := h.bad
  have hs : s.size ≤ maxLen := h.fit
  unfold maxLen at hs
  clear h
  cases bad with
  | some q =>
    have c2' : w.cell? ⟨R, 2, none⟩ = some (.int .i64 (q : Int)) := c2
    have hq : decide ((q : Int) < 0) = false := by simp
    clear c2
    go_enter Tryz.func58, Tryz.ntmps58
    go_wp2
    go_quiet (fail)
    go_wp2
    go_ret
    exact ⟨rfl, _, rfl⟩
  | none =>
    have c2' : w.cell? ⟨R, 2, none⟩ = some (.int .i64 (-1)) := c2
    clear c2
    by_cases hl : a < s.size
    · have hl2 : (a : Int) < s.size := by omega
      have HI : Hid (isD (ahd s a none) = (decide (48 ≤ (s[a].toNat : Int)) && decide ((s[a].toNat : Int) ≤ 57))) := isD_of hl
      by_cases g : 48 ≤ (s[a].toNat : Int)
      · have g1 : decide (48 ≤ (s[a].toNat : Int)) = true := by simpa using g
        go_enter Tryz.func58, Tryz.ntmps58
        go_wp2
        go_quiet (fail)
        go_wp2
        go_ret
        exact ⟨ret_bool (by rw [HI.out, g1, Bool.true_and]), _, rfl⟩
      · have g1 : decide (48 ≤ (s[a].toNat : Int)) = false := by simpa using g
        clear g
        go_enter Tryz.func58, Tryz.ntmps58
        go_wp2
        go_quiet (fail)
        go_wp2
        go_ret
        exact ⟨ret_bool (by rw [HI.out, g1, Bool.false_and]), _, rfl⟩
    · have hl2 : decide (a < s.size) = false := by simpa using (by omega : s.size ≤ a)
      have HI : Hid (isD (ahd s a none) = false) := by unfold Hid; rw [ahd_end (by omega)]; rfl
      clear hl
      go_enter Tryz.func58, Tryz.ntmps58
      go_wp2
      go_quiet (fail)
      go_wp2
      go_ret
      exact ⟨ret_bool (by rw [HI.out]), _, rfl⟩

theorem itr_stuck {s : ByteArray} {x : Int × Nat × Option Nat} {k : Nat} {n : Int} {a1 : Nat} (hk : itr s k x = (n, a1, none)) (hd : isD (ahd s a1 none) = false) : ∀ j, k < j → ∃ m : Int, itr s j x = (m, a1, some a1) := by
  intro j
  induction j with
  | zero => intro h; omega
  | succ j ih =>
    intro h
    show ∃ m : Int, stp s (itr s j x) = (m, a1, some a1)
    rcases Nat.lt_or_ge k j with g | g
    · obtain ⟨m, e⟩ := ih g
      rw [e, stp_no (by rfl)]
      exact ⟨_, rfl⟩
    · have e : j = k := by omega
      rw [e, hk, stp_no hd]
      exact ⟨_, rfl⟩
theorem num_stuck {s : ByteArray} {width a k : Nat} {lo hi : Int} {n : Int} {a1 : Nat} (hk : itr s k (0, a, none) = (n, a1, none)) (hd : isD (ahd s a1 none) = false) (hlt : k < width) : (numS s width lo hi a none).2.2 = some a1 := by
  obtain ⟨m, e⟩ := itr_stuck hk hd width hlt
  unfold numS; simp only [e, orB]; split <;> rfl

set_option maxHeartbeats 2000000 in
theorem rnumber_any {R : Nat} {s : ByteArray} {a : Nat} {N : Int} {A1 : Nat} {B : Option Nat} (width : Nat) (lo hi : Int) (w : World) (h : RRd w R s a none) (hw : width ≤ 4) (hx : numS s width lo hi a none = (N, A1, B)) :
    Calls Tryz.prog 70 #[.pointer (some ⟨R, 0, none⟩), .int .i64 width, .int .i64 lo, .int .i64 hi] w fun e w' => ∃ (n' : Int) (a' : Nat), e = .returned (.int .i64 n') ∧ RRd w' R s a' B ∧ (B = none → n' = N ∧ a' = A1) ∧ Off (· = R) w w' := by
  have c1 := h.at_
  have HR : Hid (RRd w R s a none) := h
  have HX : Hid (numS s width lo hi a none = (N, A1, B)) := hx
  clear h hx
  go_enter Tryz.func70, Tryz.ntmps70
  go_wp2_with fail
  go_loopw [10, 11] (fun tn ti wx => ∃ (k : Nat) (n : Int) (a1 : Nat), k ≤ width ∧ ti = .int .i64 k ∧ tn = .int .i64 n ∧ Hid (itr s k (0, a, none) = (n, a1, none) ∧ RRd wx R s a1 none ∧ Off (· = R) w wx)) (fun _ ti _ => width - (intOf ti).toNat)
  case atStart => exact ⟨0, 0, a, Nat.zero_le _, rfl, rfl, rfl, HR.out, Off.refl _ _⟩
  case round =>
    obtain ⟨k, n, a1, hk, rfl, rfl, HK⟩ := hrel
    have ib := itr_bd s k (0, a, none) rfl
    rw [HK.out.1] at ib
    have tp := tens_pos k (by omega)
    simp only at ib
    have ib1 := ib.1
    have ib2 : n ≤ 9999 := by omega
    clear ib tp
    have r := HK.out.2.1
    have k0 := r.text
    have k1 := r.at_
    have k2 := r.bad_none
    have f1 := r.fr1
    have hs : s.size ≤ maxLen := r.fit
    unfold maxLen at hs
    have ha1 := r.in_
    clear r
    by_cases hlt : k < width
    · have hlt1 : (k : Int) < width := by omega
      cases hd : isD (ahd s a1 none) with
      | true =>
        obtain ⟨_, hl, he, h48, h57⟩ := isD_in hd
        have hl2 : (a1 : Int) < s.size := by omega
        have HD : Hid (isD (ahd s a1 none) = true) := hd
        have HS : Hid (itr s (k + 1) (0, a, none) = (n * 10 + ((s[a1].toNat : Int) - 48), a1 + 1, none)) := by
          show stp s (itr s k (0, a, none)) = _
          rw [HK.out.1, stp_yes hd, he]
        clear hd he
        go_wp2_with fail
        refine (more_any _ HK.out.2.1).mono ?_
        rintro e w2 ⟨he, q, rfl⟩
        rw [HD.out] at he
        subst he
        go_wp2_with fail
        go_quiet (fail)
        go_wp2_with fail
        go_roundw
        case rel => exact ⟨k + 1, _, a1 + 1, hlt, by go_num, rfl, by rw [HS.out]; congr 1; omega, (HK.out.2.1.drewN _).moved hl, (HK.out.2.2.drewN _).setCell (p := ⟨R, 1, none⟩) rfl _⟩
        case measure => simp [intOf]; omega
      | false =>
        have HD : Hid (isD (ahd s a1 none) = false) := hd
        have HB : Hid (B = some a1) := by
          have := num_stuck (lo := lo) (hi := hi) HK.out.1 hd hlt
          rw [HX.out] at this; exact this
        clear hd
        go_wp2_with fail
        refine (more_any _ HK.out.2.1).mono ?_
        rintro e w2 ⟨he, q, rfl⟩
        rw [HD.out] at he
        subst he
        go_wp2_with fail
        refine (rfault_any a1 _ (HK.out.2.1.drewN q)).mono ?_
        rintro e w3 ⟨rfl, r3, o3⟩
        have HR3 : Hid (RRd w3 R s a1 (some a1)) := r3
        have HO3 : Hid (Off (· = R) w w3) := (HK.out.2.2.drewN q).trans o3
        clear r3 o3
        go_wp2_with fail
        go_ret
        exact ⟨0, a1, rfl, by rw [HB.out]; exact HR3.out, fun e => (by rw [HB.out] at e; cases e), HO3.out⟩
    · have hk2 : k = width := by omega
      have HN : Hid (N = n ∧ A1 = a1 ∧ B = if inB n lo hi then none else some a) := by
        have e := HX.out
        unfold numS at e
        rw [← hk2, HK.out.1] at e
        simp only [Prod.mk.injEq, orB] at e
        exact ⟨e.1.symm, e.2.1.symm, e.2.2.symm⟩
      have hlt1 : ¬ (k : Int) < width := by omega
      clear hk2 hlt
      by_cases g1 : n < lo
      · have HB : Hid (B = some a) := by have := HN.out.2.2; rw [if_neg (by unfold inB; simp; omega)] at this; exact this
        go_wp2_with fail
        refine (rfault_any a _ HK.out.2.1).mono ?_
        rintro e w3 ⟨rfl, r3, o3⟩
        have HR3 : Hid (RRd w3 R s a1 (some a)) := r3
        have HO3 : Hid (Off (· = R) w w3) := HK.out.2.2.trans o3
        clear r3 o3
        go_wp2_with fail
        go_ret
        exact ⟨n, a1, rfl, by rw [HB.out]; exact HR3.out, fun e => (by rw [HB.out] at e; cases e), HO3.out⟩
      · by_cases g2 : hi < n
        · have HB : Hid (B = some a) := by have := HN.out.2.2; rw [if_neg (by unfold inB; simp; omega)] at this; exact this
          go_wp2_with fail
          refine (rfault_any a _ HK.out.2.1).mono ?_
          rintro e w3 ⟨rfl, r3, o3⟩
          have HR3 : Hid (RRd w3 R s a1 (some a)) := r3
          have HO3 : Hid (Off (· = R) w w3) := HK.out.2.2.trans o3
          clear r3 o3
          go_wp2_with fail
          go_ret
          exact ⟨n, a1, rfl, by rw [HB.out]; exact HR3.out, fun e => (by rw [HB.out] at e; cases e), HO3.out⟩
        · have HB : Hid (B = none) := by have := HN.out.2.2; rw [if_pos (inB_iff.2 (by omega))] at this; exact this
          go_wp2_with fail
          go_ret
          exact ⟨n, rfl, a1, by rw [HB.out]; exact HK.out.2.1, fun _ => ⟨HN.out.1.symm, HN.out.2.1.symm⟩, HK.out.2.2⟩
end Go.Proofs.YtphobcobpclioaaGreatDoor
