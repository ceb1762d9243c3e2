/-
  The document's reader of places: fault, is, must, digit, number, right.
-/
import Derived.Test.YtachkeipknakgaaDoorPRight
namespace Go.Proofs.YtachkeipknakgaaDoor
open Go.RowKit

def bdI : Option Nat → Int
  | none => -1
  | some p => p
/-- The first fault stays. -/
def orB : Option Nat → Nat → Option Nat
  | none, p => some p
  | some q, _ => some q
structure RRd (w : World) (R : Nat) (s : ByteArray) (a : Nat) (bad : Option Nat) : Prop where
  text : w.cell? ⟨R, 0, none⟩ = some (.string s)
  at_ : w.cell? ⟨R, 1, none⟩ = some (.int .i64 a)
  bad : w.cell? ⟨R, 2, none⟩ = some (.int .i64 (bdI bad))
  fr1 : w.frozen? ⟨R, 1, none⟩ = false
  fr2 : w.frozen? ⟨R, 2, none⟩ = false
  in_ : a ≤ s.size
  fit : s.size ≤ maxLen
theorem RRd.bad_none {w : World} {R : Nat} {s : ByteArray} {a : Nat} (h : RRd w R s a none) : w.cell? ⟨R, 2, none⟩ = some (.int .i64 (-1)) := h.bad
theorem RRd.off {P : Nat → Prop} {w w' : World} {R : Nat} {s : ByteArray} {a : Nat} {bad : Option Nat} (h : RRd w R s a bad) (ho : Off P w w') (hn : ¬ P R) : RRd w' R s a bad := by
  have hl : R < w.heap.size := cell_lt h.text
  exact ⟨by rw [ho.cell (p := ⟨R, 0, none⟩) hl hn]; exact h.text, by rw [ho.cell (p := ⟨R, 1, none⟩) hl hn]; exact h.at_, by rw [ho.cell (p := ⟨R, 2, none⟩) hl hn]; exact h.bad, by rw [ho.frozen (p := ⟨R, 1, none⟩) hl hn]; exact h.fr1, by rw [ho.frozen (p := ⟨R, 2, none⟩) hl hn]; exact h.fr2, h.in_, h.fit⟩
theorem RRd.drewN {w : World} {R : Nat} {s : ByteArray} {a : Nat} {bad : Option Nat} (h : RRd w R s a bad) (n : Nat) : RRd (w.drewN n) R s a bad := h.off (P := fun _ => False) ((Off.refl _ _).drewN n) id
theorem RRd.moved {w : World} {R : Nat} {s : ByteArray} {a : Nat} {bad : Option Nat} (h : RRd w R s a bad) {c : Nat} (hl : c ≤ s.size) : RRd (w.setCell ⟨R, 1, none⟩ (.int .i64 (c : Int))) R s c bad := by
  have c0 := h.text
  have c2 := h.bad
  exact ⟨by simp [World.cell?_setCell_other, c0], World.cell?_setCell_same _ _ _ h.at_, by simp [World.cell?_setCell_other, c2], by simpa using h.fr1, by simpa using h.fr2, hl, h.fit⟩
theorem RRd.faulted {w : World} {R : Nat} {s : ByteArray} {a : Nat} (h : RRd w R s a none) (p : Nat) : RRd (w.setCell ⟨R, 2, none⟩ (.int .i64 (p : Int))) R s a (some p) := by
  have c0 := h.text
  have c1 := h.at_
  exact ⟨by simp [World.cell?_setCell_other, c0], by simp [World.cell?_setCell_other, c1], World.cell?_setCell_same _ _ _ h.bad, by simpa using h.fr1, by simpa using h.fr2, h.in_, h.fit⟩

set_option maxHeartbeats 400000 in
theorem rfault_any {R : Nat} {s : ByteArray} {a : Nat} {bad : Option Nat} (p : Nat) (w : World) (h : RRd w R s a bad) :
    Calls Tryd.prog 15 #[.pointer (some ⟨R, 0, none⟩), .int .i64 (p : Int)] w fun e w' => e = .returned (.tuple #[]) ∧ RRd w' R s a (orB bad p) ∧ Off (· = R) w w' := by
  have c2 := h.bad
  have f2 := h.fr2
  have HR : Hid (RRd w R s a bad) := h
  clear h
  cases bad with
  | none =>
    have c2' : w.cell? ⟨R, 2, none⟩ = some (.int .i64 (-1)) := c2
    clear c2
    go_enter Tryd.func15, Tryd.ntmps15
    go_wp2
    go_end0
    exact ⟨rfl, HR.out.faulted p, (Off.refl (· = R) w).setCell (p := ⟨R, 2, none⟩) rfl _⟩
  | some q =>
    have c2' : w.cell? ⟨R, 2, none⟩ = some (.int .i64 (q : Int)) := c2
    have hq : ¬ (q : Int) < 0 := by omega
    clear c2
    go_enter Tryd.func15, Tryd.ntmps15
    go_wp2
    go_end0
    exact ⟨rfl, HR.out, Off.refl _ _⟩
set_option maxHeartbeats 1000000 in
theorem is_yes {R : Nat} {s : ByteArray} {a : Nat} (ch : Nat) (w : World) (h : RRd w R s a none) (h0 : ch ≠ 0) (hb : bt s a = ch) :
    Calls Tryd.prog 17 #[.pointer (some ⟨R, 0, none⟩), .int .u8 (ch : Int)] w fun e w' => e = .returned (.bool true) ∧ RRd w' R s (a + 1) none ∧ Off (· = R) w w' := by
  have hl : a < s.size := bt_lt (by rw [hb]; exact h0)
  have c0 := h.text
  have c1 := h.at_
  have c2 := h.bad_none
  have f1 := h.fr1
  have hs : s.size ≤ maxLen := h.fit
  unfold maxLen at hs
  have hv : s[a].toNat = ch := by rw [← bt_in hl]; exact hb
  have HR : Hid (RRd w R s a none) := h
  have hli : (a : Int) < s.size := by omega
  have hvi : (s[a].toNat : Int) = ch := by omega
  have hvb : ((s[a].toNat : Int) == ch) = true := by simp [hvi]
  clear h hb hv
  go_enter Tryd.func17, Tryd.ntmps17
  go_wp2_with fail
  go_quiet (fail)
  go_wp2_with fail
  go_ret
  exact ⟨rfl, (HR.out.drewN _).moved (c := a + 1) hl, ((Off.refl (· = R) w).drewN _).setCell (p := ⟨R, 1, none⟩) rfl _⟩
set_option maxHeartbeats 1000000 in
theorem is_no {R : Nat} {s : ByteArray} {a : Nat} {bad : Option Nat} (ch : Nat) (w : World) (h : RRd w R s a bad) (hb : bad = none → bt s a ≠ ch) :
    Calls Tryd.prog 17 #[.pointer (some ⟨R, 0, none⟩), .int .u8 (ch : Int)] w fun e w' => e = .returned (.bool false) ∧ ∃ n, w' = w.drewN n := by
  have c0 := h.text
  have c1 := h.at_
  have c2 := h.bad
  have hs : s.size ≤ maxLen := h.fit
  unfold maxLen at hs
  clear h
  cases bad with
  | some q =>
    have c2' : w.cell? ⟨R, 2, none⟩ = some (.int .i64 (q : Int)) := c2
    have hq : decide ((q : Int) < 0) = false := by simp
    clear c2 hb
    go_enter Tryd.func17, Tryd.ntmps17
    go_wp2_with fail
    go_quiet (fail)
    go_wp2_with fail
    go_ret
    exact ⟨rfl, _, rfl⟩
  | none =>
    have c2' : w.cell? ⟨R, 2, none⟩ = some (.int .i64 (-1)) := c2
    clear c2
    by_cases hl : a < s.size
    · have hv : ¬ s[a].toNat = ch := by rw [← bt_in hl]; exact hb rfl
      have hli : (a : Int) < s.size := by omega
      have hvi : ¬ (s[a].toNat : Int) = ch := by omega
      have hvb : ((s[a].toNat : Int) == ch) = false := by simpa using hvi
      clear hb hv
      go_enter Tryd.func17, Tryd.ntmps17
      go_wp2_with fail
      go_quiet (fail)
      go_wp2_with fail
      go_ret
      exact ⟨rfl, _, rfl⟩
    · have hl2 : decide (a < s.size) = false := by simpa using (by omega : s.size ≤ a)
      clear hb hl
      go_enter Tryd.func17, Tryd.ntmps17
      go_wp2_with fail
      go_quiet (fail)
      go_wp2_with fail
      go_ret
      exact ⟨rfl, _, rfl⟩
/-- Behind must. -/
def mstA (s : ByteArray) (ch a : Nat) : Option Nat → Nat
  | none => if bt s a = ch then a + 1 else a
  | some _ => a
def mstB (s : ByteArray) (ch a : Nat) : Option Nat → Option Nat
  | none => if bt s a = ch then none else some a
  | some q => some q
set_option maxHeartbeats 1000000 in
theorem must_any {R : Nat} {s : ByteArray} {a : Nat} {bad : Option Nat} (ch : Nat) (w : World) (h : RRd w R s a bad) (h0 : ch ≠ 0) :
    Calls Tryd.prog 20 #[.pointer (some ⟨R, 0, none⟩), .int .u8 (ch : Int)] w fun e w' => e = .returned (.tuple #[]) ∧ RRd w' R s (mstA s ch a bad) (mstB s ch a bad) ∧ Off (· = R) w w' := by
  have HR : Hid (RRd w R s a bad) := h
  by_cases g : bad = none ∧ bt s a = ch
  · obtain ⟨rfl, g⟩ := g
    have HG : Hid (bt s a = ch) := g
    have H0 : Hid (ch ≠ 0) := h0
    clear h g h0
    go_enter Tryd.func20, Tryd.ntmps20
    go_wp2_with fail
    refine (is_yes ch _ HR.out H0.out HG.out).mono ?_
    rintro e w1 ⟨rfl, r1, o1⟩
    have HR1 : Hid (RRd w1 R s (a + 1) none) := r1
    have HO1 : Hid (Off (· = R) w w1) := o1
    clear r1 o1
    go_wp2_with fail
    go_end0
    exact ⟨rfl, by simp only [mstA, mstB, HG.out, if_true]; exact HR1.out, HO1.out⟩
  · have HN : Hid (bad = none → bt s a ≠ ch) := fun e1 e2 => g ⟨e1, e2⟩
    have HA : Hid (mstA s ch a bad = a ∧ mstB s ch a bad = orB bad a) := by
      cases bad with
      | none => unfold Hid; simp [mstA, mstB, orB, HN.out rfl]
      | some q => exact ⟨rfl, rfl⟩
    have HC : Hid (∀ n, (w.drewN n).cell? ⟨R, 1, none⟩ = some (.int .i64 (a : Int))) := fun n => (h.drewN n).at_
    clear h g h0
    go_enter Tryd.func20, Tryd.ntmps20
    go_wp2_with fail
    refine (is_no ch _ HR.out HN.out).mono ?_
    rintro e w1 ⟨rfl, n1, hw1⟩
    have HR1 : Hid (RRd w1 R s a bad) := by unfold Hid; rw [hw1]; exact HR.out.drewN n1
    have HO1 : Hid (Off (· = R) w w1) := by unfold Hid; rw [hw1]; exact (Off.refl _ _).drewN n1
    have c1 := HR1.out.at_
    clear hw1
    go_wp2_with fail
    refine (rfault_any a _ HR1.out).mono ?_
    rintro e w2 ⟨rfl, r2, o2⟩
    have HR2 : Hid (RRd w2 R s a (orB bad a)) := r2
    have HO2 : Hid (Off (· = R) w w2) := HO1.out.trans o2
    clear r2 o2
    go_wp2_with fail
    go_end0
    exact ⟨rfl, by rw [HA.out.1, HA.out.2]; exact HR2.out, HO2.out⟩
set_option maxHeartbeats 1000000 in
theorem rdigit_any {R : Nat} {s : ByteArray} {a : Nat} (w : World) (h : RRd w R s a none) :
    Calls Tryd.prog 26 #[.pointer (some ⟨R, 0, none⟩)] w fun e w' => e = .returned (.bool (isD (bt s a))) ∧ ∃ n, w' = w.drewN n := by
  have c0 := h.text
  have c1 := h.at_
  have c2 := h.bad_none
  have hs : s.size ≤ maxLen := h.fit
  unfold maxLen at hs
  clear h
  by_cases hl : a < s.size
  · have hl2 : (a : Int) < s.size := by omega
    have HI : Hid (isD (bt s a) = (decide (48 ≤ (s[a].toNat : Int)) && decide ((s[a].toNat : Int) ≤ 57))) := by unfold Hid; rw [bt_in hl]; unfold isD; rw [Bool.eq_iff_iff]; simp; omega
    by_cases g : 48 ≤ (s[a].toNat : Int)
    · have g1 : decide (48 ≤ (s[a].toNat : Int)) = true := by simpa using g
      go_enter Tryd.func26, Tryd.ntmps26
      go_wp2_with fail
      go_quiet (fail)
      go_wp2_with fail
      go_ret
      exact ⟨ret_bool (by rw [HI.out, g1, Bool.true_and]), _, rfl⟩
    · have g1 : decide (48 ≤ (s[a].toNat : Int)) = false := by simpa using g
      clear g
      go_enter Tryd.func26, Tryd.ntmps26
      go_wp2_with fail
      go_quiet (fail)
      go_wp2_with fail
      go_ret
      exact ⟨ret_bool (by rw [HI.out, g1, Bool.false_and]), _, rfl⟩
  · have hl2 : decide (a < s.size) = false := by simpa using (by omega : s.size ≤ a)
    have HI : Hid (isD (bt s a) = false) := by unfold Hid; rw [bt_end (by omega)]; rfl
    clear hl
    go_enter Tryd.func26, Tryd.ntmps26
    go_wp2_with fail
    go_quiet (fail)
    go_wp2_with fail
    go_ret
    exact ⟨ret_bool (by rw [HI.out]), _, rfl⟩
set_option maxHeartbeats 1000000 in
theorem rdigit_bad {R : Nat} {s : ByteArray} {a q : Nat} (w : World) (h : RRd w R s a (some q)) :
    Calls Tryd.prog 26 #[.pointer (some ⟨R, 0, none⟩)] w fun e w' => e = .returned (.bool false) ∧ ∃ n, w' = w.drewN n := by
  have c2' : w.cell? ⟨R, 2, none⟩ = some (.int .i64 (q : Int)) := h.bad
  have hq : decide ((q : Int) < 0) = false := by simp
  clear h
  go_enter Tryd.func26, Tryd.ntmps26
  go_wp2_with fail
  go_quiet (fail)
  go_wp2_with fail
  go_ret
  exact ⟨rfl, _, rfl⟩
end Go.Proofs.YtachkeipknakgaaDoor
