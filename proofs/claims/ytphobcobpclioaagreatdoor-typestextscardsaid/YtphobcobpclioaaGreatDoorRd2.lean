import Derived.Test.YtphobcobpclioaaGreatDoorRight2
import Derived.Deep.RegionWith
/-
  The program's reader: its state as plain data; ahead, digitAhead, refuse, digit, digits, number by their contracts.
-/
namespace Go.Proofs.YtphobcobpclioaaGreatDoor
open Go.RowKit

/-- All blocks but those of P are as they were. -/
structure Off (P : Nat → Prop) (w w' : World) : Prop where
  os : w'.os = w.os
  tape : w'.tape = w.tape
  output : w'.output = w.output
  size : w.heap.size ≤ w'.heap.size
  block : ∀ k, k < w.heap.size → ¬ P k → w'.heap[k]? = w.heap[k]?
theorem Off.refl (P : Nat → Prop) (w : World) : Off P w w := ⟨rfl, rfl, rfl, Nat.le_refl _, fun _ _ _ => rfl⟩
theorem Off.trans {P : Nat → Prop} {a b c : World} (h : Off P a b) (k : Off P b c) : Off P a c :=
  ⟨k.os.trans h.os, k.tape.trans h.tape, k.output.trans h.output, Nat.le_trans h.size k.size, fun i hi hp => (k.block i (Nat.lt_of_lt_of_le hi h.size) hp).trans (h.block i hi hp)⟩
theorem Off.mono {P Q : Nat → Prop} {a b : World} (h : Off P a b) (hq : ∀ k, P k → Q k) : Off Q a b := ⟨h.os, h.tape, h.output, h.size, fun i hi hp => h.block i hi fun g => hp (hq i g)⟩
theorem Off.drewN {P : Nat → Prop} {a b : World} (h : Off P a b) (n : Nat) : Off P a (b.drewN n) := h.trans ⟨rfl, rfl, rfl, Nat.le_refl _, fun _ _ _ => rfl⟩
theorem Off.drew {P : Nat → Prop} {a b : World} (h : Off P a b) : Off P a b.drew := h.trans ⟨rfl, rfl, rfl, Nat.le_refl _, fun _ _ _ => rfl⟩
theorem Off.alloc {P : Nat → Prop} {a b : World} (h : Off P a b) (o : Obj) : Off P a (b.alloc o) :=
  h.trans ⟨rfl, rfl, rfl, by simp, fun k hk _ => Below.heap_alloc b o k hk⟩
theorem Off.setCell {P : Nat → Prop} {a b : World} (h : Off P a b) {p : Addr} (hp : P p.block) (u : Value) : Off P a (b.setCell p u) :=
  h.trans ⟨rfl, rfl, rfl, by simp, fun k _ hk => Below.heap_setCell b p u k fun e => hk (e ▸ hp)⟩
theorem Off.of_below {P : Nat → Prop} {a b : World} (h : Below a.heap.size a b) : Off P a b := ⟨h.os, h.tape, h.output, h.size, fun k hk _ => h.block k hk⟩
theorem Off.below {P : Nat → Prop} {B : Nat} {a b : World} (h : Off P a b) (hB : B ≤ a.heap.size) (hP : ∀ k, P k → B ≤ k) : Below B a b :=
  ⟨h.os, h.tape, h.output, h.size, fun k hk => h.block k (Nat.lt_of_lt_of_le hk hB) fun g => absurd (hP k g) (by omega)⟩
theorem Off.cell {P : Nat → Prop} {a b : World} (h : Off P a b) {p : Addr} (hp : p.block < a.heap.size) (hn : ¬ P p.block) : b.cell? p = a.cell? p := World.cell?_of_block (w := a) (h.block p.block hp hn)
theorem Off.frozen {P : Nat → Prop} {a b : World} (h : Off P a b) {p : Addr} (hp : p.block < a.heap.size) (hn : ¬ P p.block) : b.frozen? p = a.frozen? p := World.frozen?_of_block (w := a) (h.block p.block hp hn)

/-- What the reader's err holds: nil, or a fault of ErrForm at a place. -/
def ErrAt (w : World) (R : Nat) (v : Value) : Option Nat → Prop
  | none => v = .nilIface
  | some p => ∃ b, b ≠ R ∧ v = .iface 45 (.pointer (some ⟨b, 0, none⟩)) ∧ FaultAt w b p 10
/-- The reader at block R. -/
structure Rdr (w : World) (R : Nat) (s : ByteArray) (a : Nat) (bad : Option Nat) (v : Value) : Prop where
  text : w.cell? ⟨R, 0, none⟩ = some (.string s)
  at_ : w.cell? ⟨R, 1, none⟩ = some (.int .i64 a)
  err : w.cell? ⟨R, 2, none⟩ = some v
  held : ErrAt w R v bad
  fr1 : w.frozen? ⟨R, 1, none⟩ = false
  fr2 : w.frozen? ⟨R, 2, none⟩ = false
  in_ : a ≤ s.size
  fit : s.size ≤ maxLen
theorem faultAt_off {P : Nat → Prop} {w w' : World} {b : Nat} {a c : Int} (h : FaultAt w b a c) (ho : Off P w w') (hn : ¬ P b) : FaultAt w' b a c := by
  have hl : b < w.heap.size := cell_lt h.1
  have hc : ∀ q, w'.cell? ⟨b, q, none⟩ = w.cell? ⟨b, q, none⟩ := fun q => ho.cell (p := ⟨b, q, none⟩) hl hn
  unfold FaultAt; simp only [hc]; exact h
theorem errAt_off {w w' : World} {R : Nat} {v : Value} {bad : Option Nat} (h : ErrAt w R v bad) (ho : Off (· = R) w w') : ErrAt w' R v bad := by
  cases bad with
  | none => exact h
  | some p => obtain ⟨b, hb, hv, hf⟩ := h; exact ⟨b, hb, hv, faultAt_off hf ho hb⟩
theorem Rdr.off {P : Nat → Prop} {w w' : World} {R : Nat} {s : ByteArray} {a : Nat} {bad : Option Nat} {v : Value} (h : Rdr w R s a bad v) (ho : Off P w w') (hP : ∀ k, k < w.heap.size → P k → k ≠ R ∧ ∀ q, w.cell? ⟨k, q, none⟩ ≠ some (.string ⟨#[115, 116, 97, 109, 112]⟩)) : Rdr w' R s a bad v := by
  have hl : R < w.heap.size := cell_lt h.text
  have hn : ¬ P R := fun g => (hP R hl g).1 rfl
  refine ⟨by rw [ho.cell (p := ⟨R, 0, none⟩) hl hn]; exact h.text, by rw [ho.cell (p := ⟨R, 1, none⟩) hl hn]; exact h.at_, by rw [ho.cell (p := ⟨R, 2, none⟩) hl hn]; exact h.err, ?_, by rw [ho.frozen (p := ⟨R, 1, none⟩) hl hn]; exact h.fr1, by rw [ho.frozen (p := ⟨R, 2, none⟩) hl hn]; exact h.fr2, h.in_, h.fit⟩
  have he := h.held
  cases bad with
  | none => exact he
  | some p =>
    obtain ⟨b, hb, hv, hf⟩ := he
    exact ⟨b, hb, hv, faultAt_off hf ho fun g => (hP b (cell_lt hf.1) g).2 0 hf.1⟩
theorem Rdr.drewN {w : World} {R : Nat} {s : ByteArray} {a : Nat} {bad : Option Nat} {v : Value} (h : Rdr w R s a bad v) (n : Nat) : Rdr (w.drewN n) R s a bad v :=
  h.off (P := fun _ => False) ((Off.refl _ _).drewN n) (fun _ _ g => g.elim)

theorem drew2 (w : World) (a b : Nat) : (w.drewN a).drewN b = w.drewN (a + b) := by simp
def ahd (s : ByteArray) (a : Nat) : Option Nat → Nat
  | none => (s.data.toList.getD a 0).toNat
  | some _ => 0
/-- The first fault stays. -/
def orB : Option Nat → Nat → Option Nat
  | none, p => some p
  | some q, _ => some q
def isD (c : Nat) : Bool := decide (48 ≤ c) && decide (c ≤ 57)
theorem ahd_end {s : ByteArray} {a : Nat} (h : s.size ≤ a) : ahd s a none = 0 := by
  unfold ahd; rw [List.getD_eq_getElem?_getD, List.getElem?_eq_none (by simpa using h)]; rfl
theorem ahd_in {s : ByteArray} {a : Nat} (h : a < s.size) : ahd s a none = s[a].toNat := by
  unfold ahd; rw [List.getD_eq_getElem?_getD, List.getElem?_eq_getElem (by simpa using h)]; rfl
theorem ahd_bd (s : ByteArray) (a : Nat) (bad : Option Nat) : ahd s a bad ≤ 255 := by
  cases bad with
  | none => have := (s.data.toList.getD a 0).toNat_lt; show (s.data.toList.getD a 0).toNat ≤ 255; omega
  | some _ => exact Nat.zero_le _

set_option maxHeartbeats 1000000 in
theorem ahead_any {R : Nat} {s : ByteArray} {a : Nat} {bad : Option Nat} {v : Value} (w : World) (h : Rdr w R s a bad v) :
    Calls Tryz.prog 78 #[.pointer (some ⟨R, 0, none⟩)] w fun e w' => e = .returned (.int .u8 (ahd s a bad)) ∧ ∃ n, w' = w.drewN n := by
  have c0 := h.text
  have c1 := h.at_
  have c2 := h.err
  have hs : s.size ≤ maxLen := h.fit
  unfold maxLen at hs
  cases bad with
  | some p =>
    obtain ⟨b, hb, rfl, hf⟩ := h.held
    clear hf h
    go_enter Tryz.func78, Tryz.ntmps78
    go_wp2
    go_quiet (fail)
    go_wp2
    go_ret
    exact ⟨rfl, _, rfl⟩
  | none =>
    obtain rfl : v = .nilIface := h.held
    clear h
    by_cases hlt : a < s.size
    · have hi := ahd_in hlt
      have hlt2 : (a : Int) < s.size := by omega
      go_enter Tryz.func78, Tryz.ntmps78
      go_wp2
      go_quiet (fail)
      go_wp2
      go_quiet (fail)
      go_wp2
      go_ret
      exact ⟨ret_int (by rw [hi]), _, drew2 _ _ _⟩
    · have hi : ahd s a none = 0 := ahd_end (by omega)
      have hlt2 : (s.size : Int) ≤ a := by omega
      go_enter Tryz.func78, Tryz.ntmps78
      go_wp2
      go_quiet (fail)
      go_wp2
      go_ret
      exact ⟨ret_int (by rw [hi]; rfl), _, rfl⟩

set_option maxHeartbeats 400000 in
theorem digitAhead_any {R : Nat} {s : ByteArray} {a : Nat} {bad : Option Nat} {v : Value} (w : World) (h : Rdr w R s a bad v) :
    Calls Tryz.prog 68 #[.pointer (some ⟨R, 0, none⟩)] w fun e w' => e = .returned (.bool (isD (ahd s a bad))) ∧ ∃ n, w' = w.drewN n := by
  have hb := ahd_bd s a bad
  obtain ⟨c, hc⟩ : ∃ c, ahd s a bad = c := ⟨_, rfl⟩
  have HC : Hid (ahd s a bad = c) := hc
  have HR : Hid (Rdr w R s a bad v) := h
  rw [hc] at hb
  rw [hc]
  clear hc h
  go_enter Tryz.func68, Tryz.ntmps68
  go_wp2_with fail
  refine (ahead_any _ HR.out).mono ?_
  rintro e w1 ⟨he, n, rfl⟩
  rw [HC.out] at he
  subst he
  go_wp2
  all_goals (go_ret; exact ⟨ret_bool (by unfold isD; rw [Bool.eq_iff_iff]; simp; omega), n, rfl⟩)

theorem off_refused (w : World) (R : Nat) (v : Value) (o : Obj) : Off (· = R) w ((w.setCell ⟨R, 2, none⟩ v).alloc o) := ((Off.refl (· = R) w).setCell (p := ⟨R, 2, none⟩) rfl v).alloc o
theorem rdr_refused {R : Nat} {s : ByteArray} {a : Nat} {v : Value} {w : World} (h : Rdr w R s a none v) (p : Nat) :
    Rdr ((w.setCell ⟨R, 2, none⟩ (.iface 45 (.pointer (some ⟨w.heap.size, 0, none⟩)))).alloc (.cells #[.string ⟨#[115, 116, 97, 109, 112]⟩, .int .i64 p, .int .i64 10, .nilIface] 49)) R s a (some p) (.iface 45 (.pointer (some ⟨w.heap.size, 0, none⟩))) := by
  have hl : R < w.heap.size := cell_lt h.text
  have c0 := h.text
  have c1 := h.at_
  have c2 := h.err
  have f1 := h.fr1
  have f2 := h.fr2
  refine ⟨?_, ?_, ?_, ⟨w.heap.size, by omega, rfl, ?_⟩, ?_, ?_, h.in_, h.fit⟩
  · rw [World.cell?_alloc_lt _ _ ⟨R, 0, none⟩ (by simpa using hl)]; simp [World.cell?_setCell_other, c0]
  · rw [World.cell?_alloc_lt _ _ ⟨R, 1, none⟩ (by simpa using hl)]; simp [World.cell?_setCell_other, c1]
  · rw [World.cell?_alloc_lt _ _ ⟨R, 2, none⟩ (by simpa using hl)]; exact World.cell?_setCell_same _ _ _ c2
  · have g := fault_new (w.setCell ⟨R, 2, none⟩ (.iface 45 (.pointer (some ⟨w.heap.size, 0, none⟩)))) (p : Int) 10
    simpa using g
  · rw [World.frozen?_alloc_old _ _ ⟨R, 1, none⟩ (by simp; omega)]; simpa using f1
  · rw [World.frozen?_alloc_old _ _ ⟨R, 2, none⟩ (by simp; omega)]; simpa using f2

set_option maxHeartbeats 1000000 in
theorem refuse_set {R : Nat} {s : ByteArray} {a : Nat} {v : Value} (p : Nat) (w : World) (h : Rdr w R s a none v) :
    Calls Tryz.prog 77 #[.pointer (some ⟨R, 0, none⟩), .int .i64 p] w fun e w' => e = .returned (.tuple #[]) ∧ (∃ v', Rdr w' R s a (some p) v') ∧ Off (· = R) w w' := by
  have c2 := h.err
  have f2 := h.fr2
  obtain rfl : v = .nilIface := h.held
  have hl : R < w.heap.size := cell_lt h.text
  have HR : Hid (Rdr w R s a none .nilIface) := h
  clear h
  go_enter Tryz.func77, Tryz.ntmps77
  go_wp2_with fail
  refine (fault_any _ _ _).mono ?_
  rintro e w2 ⟨rfl, rfl⟩
  go_wp2_with fail
  go_end0
  exact ⟨rfl, ⟨_, rdr_refused HR.out p⟩, off_refused _ _ _ _⟩
set_option maxHeartbeats 400000 in
theorem refuse_kept {R : Nat} {s : ByteArray} {a : Nat} {q : Nat} {v : Value} (p : Int) (w : World) (h : Rdr w R s a (some q) v) :
    Calls Tryz.prog 77 #[.pointer (some ⟨R, 0, none⟩), .int .i64 p] w fun e w' => e = .returned (.tuple #[]) ∧ w' = w := by
  have c2 := h.err
  obtain ⟨b, hb, rfl, hf⟩ := h.held
  clear hf h
  go_enter Tryz.func77, Tryz.ntmps77
  go_wp2
  go_end0
  exact ⟨rfl, rfl⟩

theorem isD_in {s : ByteArray} {a : Nat} {bad : Option Nat} (h : isD (ahd s a bad) = true) : bad = none ∧ ∃ hl : a < s.size, ahd s a bad = s[a].toNat ∧ 48 ≤ s[a].toNat ∧ s[a].toNat ≤ 57 := by
  cases bad with
  | some p => exact absurd (show isD 0 = true from h) (by decide)
  | none =>
    by_cases hl : a < s.size
    · have e := ahd_in hl
      refine ⟨rfl, hl, e, ?_⟩
      rw [e] at h; simpa [isD] using h
    · rw [ahd_end (by omega)] at h; exact absurd h (by decide)
theorem rdr_moved {R : Nat} {s : ByteArray} {a : Nat} {bad : Option Nat} {v : Value} {w : World} (h : Rdr w R s a bad v) (hl : a + 1 ≤ s.size) : Rdr (w.setCell ⟨R, 1, none⟩ (.int .i64 ((a + 1 : Nat) : Int))) R s (a + 1) bad v := by
  have c0 := h.text
  have c2 := h.err
  refine ⟨by simp [World.cell?_setCell_other, c0], World.cell?_setCell_same _ _ _ h.at_, by simp [World.cell?_setCell_other, c2], errAt_off h.held ((Off.refl (· = R) w).setCell (p := ⟨R, 1, none⟩) rfl _), by simpa using h.fr1, by simpa using h.fr2, hl, h.fit⟩

set_option maxHeartbeats 1000000 in
theorem digit_yes {R : Nat} {s : ByteArray} {a : Nat} {bad : Option Nat} {v : Value} (w : World) (h : Rdr w R s a bad v) (hd : isD (ahd s a bad) = true) :
    Calls Tryz.prog 79 #[.pointer (some ⟨R, 0, none⟩)] w fun e w' => e = .returned (.int .i64 ((ahd s a bad : Int) - 48)) ∧ Rdr w' R s (a + 1) bad v ∧ Off (· = R) w w' := by
  obtain ⟨rfl, hl, he, h48, h57⟩ := isD_in hd
  have c0 := h.text
  have c1 := h.at_
  have f1 := h.fr1
  have hs : s.size ≤ maxLen := h.fit
  unfold maxLen at hs
  have hl2 : (a : Int) < s.size := by omega
  have HR : Hid (Rdr w R s a none v) := h
  have HD : Hid (isD (ahd s a none) = true) := hd
  rw [he]
  have HE : Hid (ahd s a none = s[a].toNat) := he
  clear h hd he
  go_enter Tryz.func79, Tryz.ntmps79
  go_wp2_with fail
  refine (digitAhead_any _ HR.out).mono ?_
  rintro e w1 ⟨he, n, rfl⟩
  rw [HD.out] at he
  subst he
  go_wp2_with fail
  go_quiet (fail)
  go_wp2_with fail
  go_ret
  exact ⟨rfl, rdr_moved (HR.out.drewN _) hl, ((Off.refl (· = R) w).drewN _).setCell (p := ⟨R, 1, none⟩) rfl _⟩
set_option maxHeartbeats 400000 in
theorem digit_no {R : Nat} {s : ByteArray} {a : Nat} {bad : Option Nat} {v : Value} (w : World) (h : Rdr w R s a bad v) (hd : isD (ahd s a bad) = false) :
    Calls Tryz.prog 79 #[.pointer (some ⟨R, 0, none⟩)] w fun e w' => e = .returned (.int .i64 0) ∧ (∃ v', Rdr w' R s a (orB bad a) v') ∧ Off (· = R) w w' := by
  have c1 := h.at_
  have HR : Hid (Rdr w R s a bad v) := h
  have HD : Hid (isD (ahd s a bad) = false) := hd
  clear h hd
  cases bad with
  | none =>
    go_enter Tryz.func79, Tryz.ntmps79
    go_wp2_with fail
    refine (digitAhead_any _ HR.out).mono ?_
    rintro e w1 ⟨he, n, rfl⟩
    rw [HD.out] at he
    subst he
    go_wp2_with fail
    refine (refuse_set a _ (HR.out.drewN n)).mono ?_
    rintro e w2 ⟨rfl, hv, ho⟩
    have HV : Hid (∃ v', Rdr w2 R s a (some a) v') := hv
    have HO : Hid (Off (· = R) w w2) := ((Off.refl _ w).drewN n).trans ho
    clear hv ho
    go_wp2_with fail
    go_ret
    exact ⟨rfl, HV.out, HO.out⟩
  | some q =>
    go_enter Tryz.func79, Tryz.ntmps79
    go_wp2_with fail
    refine (digitAhead_any _ HR.out).mono ?_
    rintro e w1 ⟨he, n, rfl⟩
    rw [HD.out] at he
    subst he
    go_wp2_with fail
    refine (refuse_kept _ _ (HR.out.drewN n)).mono ?_
    rintro e w2 ⟨rfl, rfl⟩
    go_wp2_with fail
    go_ret
    exact ⟨rfl, ⟨v, HR.out.drewN n⟩, (Off.refl _ w).drewN n⟩
end Go.Proofs.YtphobcobpclioaaGreatDoor

/-
  The program's reader: digits and number.
-/
namespace Go.Proofs.YtphobcobpclioaaGreatDoor
open Go.RowKit

/-- One digit more. -/
def stp (s : ByteArray) (x : Int × Nat × Option Nat) : Int × Nat × Option Nat :=
  if isD (ahd s x.2.1 x.2.2) then (x.1 * 10 + ((ahd s x.2.1 x.2.2 : Int) - 48), x.2.1 + 1, x.2.2) else (x.1 * 10, x.2.1, orB x.2.2 x.2.1)
def itr (s : ByteArray) : Nat → Int × Nat × Option Nat → Int × Nat × Option Nat
  | 0, x => x
  | k + 1, x => stp s (itr s k x)
theorem stp_yes {s : ByteArray} {n : Int} {a : Nat} {bad : Option Nat} (h : isD (ahd s a bad) = true) : stp s (n, a, bad) = (n * 10 + ((ahd s a bad : Int) - 48), a + 1, bad) := by unfold stp; rw [if_pos h]
theorem stp_no {s : ByteArray} {n : Int} {a : Nat} {bad : Option Nat} (h : isD (ahd s a bad) = false) : stp s (n, a, bad) = (n * 10, a, orB bad a) := by unfold stp; rw [if_neg (by rw [h]; decide)]
theorem itr_bd (s : ByteArray) (k : Nat) (x : Int × Nat × Option Nat) (h0 : x.1 = 0) : 0 ≤ (itr s k x).1 ∧ (itr s k x).1 ≤ 10 ^ k - 1 := by
  induction k with
  | zero => exact ⟨by show 0 ≤ x.1; omega, by show x.1 ≤ 1 - 1; omega⟩
  | succ k ih =>
    have e : (10 : Int) ^ (k + 1) = 10 ^ k * 10 := rfl
    obtain ⟨⟨n, a, bad⟩, hx⟩ : ∃ y, itr s k x = y := ⟨_, rfl⟩
    rw [hx] at ih
    show 0 ≤ (stp s (itr s k x)).1 ∧ (stp s (itr s k x)).1 ≤ _
    rw [hx]
    cases hd : isD (ahd s a bad) with
    | true =>
      rw [stp_yes hd]
      have := (show 48 ≤ ahd s a bad ∧ ahd s a bad ≤ 57 by simpa [isD] using hd)
      simp only at ih ⊢; omega
    | false => rw [stp_no hd]; simp only at ih ⊢; omega

set_option maxHeartbeats 1000000 in
theorem digits_any {R : Nat} {s : ByteArray} {a : Nat} {bad : Option Nat} {v : Value} (width : Nat) (w : World) (h : Rdr w R s a bad v) (hw : width ≤ 4) :
    Calls Tryz.prog 80 #[.pointer (some ⟨R, 0, none⟩), .int .i64 width] w fun e w' => e = .returned (.int .i64 (itr s width (0, a, bad)).1) ∧ (∃ v', Rdr w' R s (itr s width (0, a, bad)).2.1 (itr s width (0, a, bad)).2.2 v') ∧ Off (· = R) w w' := by
  have HR : Hid (Rdr w R s a bad v) := h
  clear h
  go_enter Tryz.func80, Tryz.ntmps80
  go_wp2
  go_loopw [5, 7] (fun tn ti wx => ∃ k : Nat, k ≤ width ∧ ti = .int .i64 k ∧ tn = .int .i64 (itr s k (0, a, bad)).1 ∧ Hid ((∃ v', Rdr wx R s (itr s k (0, a, bad)).2.1 (itr s k (0, a, bad)).2.2 v') ∧ Off (· = R) w wx)) (fun _ ti _ => width - (intOf ti).toNat)
  case atStart => exact ⟨0, Nat.zero_le _, rfl, rfl, ⟨v, HR.out⟩, Off.refl _ _⟩
  case round =>
    obtain ⟨k, hk, rfl, rfl, HX⟩ := hrel
    have ib := itr_bd s k (0, a, bad) rfl
    have tp := tens_pos k (by omega)
    have HS : Hid (itr s (k + 1) (0, a, bad) = stp s (itr s k (0, a, bad))) := rfl
    obtain ⟨⟨n, a1, b1⟩, hx⟩ : ∃ x, itr s k (0, a, bad) = x := ⟨_, rfl⟩
    rw [hx] at HS HX ib
    have HI : Hid (itr s k (0, a, bad) = (n, a1, b1)) := hx
    rw [hx]
    clear hx
    simp only at ib
    have ib1 := ib.1
    have ib2 : n ≤ 9999 := by omega
    clear ib tp
    by_cases hlt : k < width
    · have hlt1 : (k : Int) < width := by omega
      obtain ⟨⟨v1, r1⟩, o1⟩ := HX.out
      have HR1 : Hid (Rdr _ R s a1 b1 v1) := r1
      have HO1 : Hid (Off (· = R) w _) := o1
      clear r1 o1 HX
      cases hd : isD (ahd s a1 b1) with
      | true =>
        have ab := (show 48 ≤ ahd s a1 b1 ∧ ahd s a1 b1 ≤ 57 by simpa [isD] using hd)
        have ab1 := ab.1
        have ab2 := ab.2
        have HD : Hid (isD (ahd s a1 b1) = true) := hd
        clear hd ab
        go_wp2_with fail
        refine (digit_yes _ HR1.out HD.out).mono ?_
        rintro e w2 ⟨rfl, r2, o2⟩
        have HR2 : Hid (Rdr w2 R s (a1 + 1) b1 v1) := r2
        have HO2 : Hid (Off (· = R) w w2) := HO1.out.trans o2
        clear r2 o2
        go_wp2_with fail
        go_roundw
        case rel => exact ⟨k + 1, hlt, by go_num, by rw [HS.out, stp_yes HD.out], ⟨v1, by rw [HS.out, stp_yes HD.out]; exact HR2.out⟩, HO2.out⟩
        case measure => simp [intOf]; omega
      | false =>
        have HD : Hid (isD (ahd s a1 b1) = false) := hd
        clear hd
        go_wp2_with fail
        refine (digit_no _ HR1.out HD.out).mono ?_
        rintro e w2 ⟨rfl, r2, o2⟩
        have HR2 : Hid (∃ v', Rdr w2 R s a1 (orB b1 a1) v') := r2
        have HO2 : Hid (Off (· = R) w w2) := HO1.out.trans o2
        clear r2 o2
        go_wp2_with fail
        go_roundw
        case rel => exact ⟨k + 1, hlt, by go_num, by rw [HS.out, stp_no HD.out], by rw [HS.out, stp_no HD.out]; exact HR2.out, HO2.out⟩
        case measure => simp [intOf]; omega
    · have hlt1 : ¬ (k : Int) < width := by omega
      have hk2 : k = width := by omega
      have HK : Hid (k = width) := hk2
      clear hk2
      go_wp2_with fail
      go_ret
      have e1 : itr s width (0, a, bad) = (n, a1, b1) := by rw [← HK.out]; exact HI.out
      exact ⟨ret_int (by rw [e1]), by rw [e1]; exact HX.out.1, HX.out.2⟩

/-- A number: its digits, its place behind them, and the first fault. -/
def numS (s : ByteArray) (width : Nat) (lo hi : Int) (a : Nat) (bad : Option Nat) : Int × Nat × Option Nat :=
  ((itr s width (0, a, bad)).1, (itr s width (0, a, bad)).2.1, if inB (itr s width (0, a, bad)).1 lo hi then (itr s width (0, a, bad)).2.2 else orB (itr s width (0, a, bad)).2.2 a)
theorem refuse_any {R : Nat} {s : ByteArray} {a : Nat} {bad : Option Nat} {v : Value} (p : Nat) (w : World) (h : Rdr w R s a bad v) :
    Calls Tryz.prog 77 #[.pointer (some ⟨R, 0, none⟩), .int .i64 p] w fun e w' => e = .returned (.tuple #[]) ∧ (∃ v', Rdr w' R s a (orB bad p) v') ∧ Off (· = R) w w' := by
  cases bad with
  | none => exact refuse_set p w h
  | some q => exact (refuse_kept (p : Int) w h).mono fun e w' ⟨he, hw⟩ => ⟨he, ⟨v, by rw [hw]; exact h⟩, by rw [hw]; exact Off.refl _ _⟩

set_option maxHeartbeats 1000000 in
theorem number_any {R : Nat} {s : ByteArray} {a : Nat} {bad : Option Nat} {v : Value} (width : Nat) (lo hi : Int) (w : World) (h : Rdr w R s a bad v) (hw : width ≤ 4) :
    Calls Tryz.prog 75 #[.pointer (some ⟨R, 0, none⟩), .int .i64 width, .int .i64 lo, .int .i64 hi] w fun e w' => e = .returned (.int .i64 (numS s width lo hi a bad).1) ∧ (∃ v', Rdr w' R s (numS s width lo hi a bad).2.1 (numS s width lo hi a bad).2.2 v') ∧ Off (· = R) w w' := by
  have c1 := h.at_
  have HR : Hid (Rdr w R s a bad v) := h
  have HW : Hid (width ≤ 4) := hw
  obtain ⟨⟨n, a1, b1⟩, hx⟩ : ∃ x, itr s width (0, a, bad) = x := ⟨_, rfl⟩
  have HI : Hid (itr s width (0, a, bad) = (n, a1, b1)) := hx
  have hN : numS s width lo hi a bad = (n, a1, if inB n lo hi then b1 else orB b1 a) := by unfold numS; rw [hx]
  clear hx h hw
  by_cases g1 : n < lo
  · have hB : inB n lo hi = false := by unfold inB; simp; omega
    rw [hB] at hN
    simp only [Bool.false_eq_true, if_false] at hN
    rw [hN]
    clear hN hB
    go_enter Tryz.func75, Tryz.ntmps75
    go_wp2_with fail
    refine (digits_any width _ HR.out HW.out).mono ?_
    rintro e w1 ⟨he, r1, o1⟩
    rw [HI.out] at he r1
    subst he
    obtain ⟨v1, r1⟩ := r1
    have HR1 : Hid (Rdr w1 R s a1 b1 v1) := r1
    have HO1 : Hid (Off (· = R) w w1) := o1
    clear r1 o1
    go_wp2_with fail
    refine (refuse_any a _ HR1.out).mono ?_
    rintro e w2 ⟨rfl, r2, o2⟩
    have HR2 : Hid (∃ v', Rdr w2 R s a1 (orB b1 a) v') := r2
    have HO2 : Hid (Off (· = R) w w2) := HO1.out.trans o2
    clear r2 o2
    go_wp2_with fail
    go_ret
    exact ⟨rfl, HR2.out, HO2.out⟩
  · by_cases g2 : hi < n
    · have hB : inB n lo hi = false := by unfold inB; simp; omega
      rw [hB] at hN
      simp only [Bool.false_eq_true, if_false] at hN
      rw [hN]
      clear hN hB
      go_enter Tryz.func75, Tryz.ntmps75
      go_wp2_with fail
      refine (digits_any width _ HR.out HW.out).mono ?_
      rintro e w1 ⟨he, r1, o1⟩
      rw [HI.out] at he r1
      subst he
      obtain ⟨v1, r1⟩ := r1
      have HR1 : Hid (Rdr w1 R s a1 b1 v1) := r1
      have HO1 : Hid (Off (· = R) w w1) := o1
      clear r1 o1
      go_wp2_with fail
      refine (refuse_any a _ HR1.out).mono ?_
      rintro e w2 ⟨rfl, r2, o2⟩
      have HR2 : Hid (∃ v', Rdr w2 R s a1 (orB b1 a) v') := r2
      have HO2 : Hid (Off (· = R) w w2) := HO1.out.trans o2
      clear r2 o2
      go_wp2_with fail
      go_ret
      exact ⟨rfl, HR2.out, HO2.out⟩
    · have hB : inB n lo hi = true := inB_iff.2 (by omega)
      rw [hB] at hN
      simp only [if_true] at hN
      rw [hN]
      clear hN hB
      go_enter Tryz.func75, Tryz.ntmps75
      go_wp2_with fail
      refine (digits_any width _ HR.out HW.out).mono ?_
      rintro e w1 ⟨he, r1, o1⟩
      rw [HI.out] at he r1
      subst he
      have HR1 : Hid (∃ v', Rdr w1 R s a1 b1 v') := r1
      have HO1 : Hid (Off (· = R) w w1) := o1
      clear r1 o1
      go_wp2_with fail
      go_ret
      exact ⟨rfl, HR1.out, HO1.out⟩
end Go.Proofs.YtphobcobpclioaaGreatDoor
