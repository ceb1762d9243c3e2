/-
  The program's reader of places: its state; end, take, atDigit, fault.
-/
import Derived.Test.YtachkeipknakgaaDoorPRight
namespace Go.Proofs.YtachkeipknakgaaDoor
open Go.RowKit

/-- The reader at block R. -/
structure PRd (w : World) (R : Nat) (s seg : ByteArray) (x : St) : Prop where
  text : w.cell? ⟨R, 0, none⟩ = some (.string s)
  at_ : w.cell? ⟨R, 1, none⟩ = some (.int .i64 x.a)
  seg : w.cell? ⟨R, 2, none⟩ = some (.string seg)
  o : w.cell? ⟨R, 3, none⟩ = some (.int .i64 x.o)
  f : w.cell? ⟨R, 4, none⟩ = some (.int .i64 x.f)
  r : w.cell? ⟨R, 5, none⟩ = some (.int .i64 x.r)
  c : w.cell? ⟨R, 6, none⟩ = some (.int .i64 x.c)
  b : w.cell? ⟨R, 7, none⟩ = some (.int .i64 x.b)
  fr : ∀ j, w.frozen? ⟨R, j, none⟩ = false
  in_ : x.a ≤ s.size
  fit : s.size ≤ maxLen
theorem PRd.off {P : Nat → Prop} {w w' : World} {R : Nat} {s seg : ByteArray} {x : St} (h : PRd w R s seg x) (ho : Off P w w') (hn : ¬ P R) : PRd w' R s seg x := by
  have hl : R < w.heap.size := cell_lt h.text
  have hc : ∀ j, w'.cell? ⟨R, j, none⟩ = w.cell? ⟨R, j, none⟩ := fun j => ho.cell (p := ⟨R, j, none⟩) hl hn
  exact ⟨by rw [hc]; exact h.text, by rw [hc]; exact h.at_, by rw [hc]; exact h.seg, by rw [hc]; exact h.o, by rw [hc]; exact h.f, by rw [hc]; exact h.r, by rw [hc]; exact h.c, by rw [hc]; exact h.b, fun j => by rw [ho.frozen (p := ⟨R, j, none⟩) hl hn]; exact h.fr j, h.in_, h.fit⟩
theorem PRd.drewN {w : World} {R : Nat} {s seg : ByteArray} {x : St} (h : PRd w R s seg x) (n : Nat) : PRd (w.drewN n) R s seg x := h.off (P := fun _ => False) ((Off.refl _ _).drewN n) id
theorem PRd.moved {w : World} {R : Nat} {s seg : ByteArray} {x : St} (h : PRd w R s seg x) {a : Nat} (ha : a ≤ s.size) : PRd (w.setCell ⟨R, 1, none⟩ (.int .i64 (a : Int))) R s seg { x with a := a } := by
  have c0 := h.text
  have c2 := h.seg
  have c3 := h.o
  have c4 := h.f
  have c5 := h.r
  have c6 := h.c
  have c7 := h.b
  exact ⟨by simp [World.cell?_setCell_other, c0], World.cell?_setCell_same _ _ _ h.at_, by simp [World.cell?_setCell_other, c2], by simp [World.cell?_setCell_other, c3], by simp [World.cell?_setCell_other, c4], by simp [World.cell?_setCell_other, c5], by simp [World.cell?_setCell_other, c6], by simp [World.cell?_setCell_other, c7], fun j => by rw [World.frozen?_setCell]; exact h.fr j, ha, h.fit⟩
set_option maxHeartbeats 400000 in
theorem end_any {R : Nat} {s seg : ByteArray} {x : St} (w : World) (h : PRd w R s seg x) :
    Calls Tryd.prog 13 #[.pointer (some ⟨R, 0, none⟩)] w fun e w' => e = .returned (.bool (decide (x.a = s.size))) ∧ ∃ n, w' = w.drewN n := by
  have c0 := h.text
  have c1 := h.at_
  have hs : s.size ≤ maxLen := h.fit
  unfold maxLen at hs
  obtain ⟨a, ha⟩ : ∃ a, x.a = a := ⟨_, rfl⟩
  rw [ha] at c1 ⊢
  clear h ha
  go_enter Tryd.func13, Tryd.ntmps13
  go_wp2_with fail
  go_quiet (fail)
  go_wp2_with fail
  go_ret
  exact ⟨ret_bool (by rw [Bool.eq_iff_iff]; simp; omega), _, rfl⟩
theorem end_q {R : Nat} {s seg : ByteArray} {x : St} {q : Bool} {w : World} (h : PRd w R s seg x) (hq : decide (x.a = s.size) = q) (n : Nat) :
    Calls Tryd.prog 13 #[.pointer (some ⟨R, 0, none⟩)] (w.drewN n) fun e w' => e = .returned (.bool q) ∧ ∃ m, w' = w.drewN m := by
  have := end_any _ (h.drewN n)
  rw [hq] at this
  exact Calls.quiet_of this
set_option maxHeartbeats 1000000 in
theorem take_yes {R : Nat} {s seg : ByteArray} {x : St} (ch : Nat) (w : World) (h : PRd w R s seg x) (h0 : ch ≠ 0) (hb : bt s x.a = ch) :
    Calls Tryd.prog 24 #[.pointer (some ⟨R, 0, none⟩), .int .u8 (ch : Int)] w fun e w' => e = .returned (.bool true) ∧ PRd w' R s seg { x with a := x.a + 1 } ∧ Off (· = R) w w' := by
  have hl : x.a < s.size := bt_lt (by rw [hb]; exact h0)
  have c0 := h.text
  have c1 := h.at_
  have f1 := h.fr 1
  have hs : s.size ≤ maxLen := h.fit
  unfold maxLen at hs
  have HE : Hid (∀ n, Calls Tryd.prog 13 #[.pointer (some ⟨R, 0, none⟩)] (w.drewN n) fun e w' => e = .returned (.bool false) ∧ ∃ m, w' = w.drewN m) := end_q h (decide_eq_false (by omega))
  have hv : s[x.a].toNat = ch := by rw [← bt_in hl]; exact hb
  have HR : Hid (PRd w R s seg x) := h
  obtain ⟨a, ha⟩ : ∃ a, x.a = a := ⟨_, rfl⟩
  have HA : Hid (x.a = a) := ha
  simp only [ha] at c1 hl hv
  have hli : (a : Int) < s.size := by omega
  have hvi : (s[a].toNat : Int) = ch := by omega
  have hvb : ((s[a].toNat : Int) != ch) = false := by simp [hvi]
  clear h ha hb hv
  go_enter Tryd.func24, Tryd.ntmps24
  go_wp2_with fail
  go_quiet ((go_at_call 13; first | exact HE.out _ | (simp only [World.drewN_drewN]; exact HE.out _)))
  go_wp2_with fail
  go_ret
  exact ⟨rfl, by rw [HA.out]; exact (HR.out.drewN _).moved (a := a + 1) hl, ((Off.refl (· = R) w).drewN _).setCell (p := ⟨R, 1, none⟩) rfl _⟩
set_option maxHeartbeats 1000000 in
theorem take_no {R : Nat} {s seg : ByteArray} {x : St} (ch : Nat) (w : World) (h : PRd w R s seg x) (hb : bt s x.a ≠ ch) :
    Calls Tryd.prog 24 #[.pointer (some ⟨R, 0, none⟩), .int .u8 (ch : Int)] w fun e w' => e = .returned (.bool false) ∧ ∃ n, w' = w.drewN n := by
  have c0 := h.text
  have c1 := h.at_
  have hs : s.size ≤ maxLen := h.fit
  unfold maxLen at hs
  by_cases hl : x.a < s.size
  · have HE : Hid (∀ n, Calls Tryd.prog 13 #[.pointer (some ⟨R, 0, none⟩)] (w.drewN n) fun e w' => e = .returned (.bool false) ∧ ∃ m, w' = w.drewN m) := end_q h (decide_eq_false (by omega))
    have hv : ¬ s[x.a].toNat = ch := by rw [← bt_in hl]; exact hb
    obtain ⟨a, ha⟩ : ∃ a, x.a = a := ⟨_, rfl⟩
    simp only [ha] at c1 hl hv
    have hli : (a : Int) < s.size := by omega
    have hvi : ¬ (s[a].toNat : Int) = ch := by omega
    have hvb : ((s[a].toNat : Int) != ch) = true := by simpa using hvi
    clear h ha hb hv
    go_enter Tryd.func24, Tryd.ntmps24
    go_wp2_with fail
    go_quiet ((go_at_call 13; first | exact HE.out _ | (simp only [World.drewN_drewN]; exact HE.out _)))
    go_wp2_with fail
    go_ret
    exact ⟨rfl, _, rfl⟩
  · have HE : Hid (∀ n, Calls Tryd.prog 13 #[.pointer (some ⟨R, 0, none⟩)] (w.drewN n) fun e w' => e = .returned (.bool true) ∧ ∃ m, w' = w.drewN m) := end_q h (decide_eq_true (by have := h.in_; omega))
    clear h hb hl
    go_enter Tryd.func24, Tryd.ntmps24
    go_wp2_with fail
    go_quiet ((go_at_call 13; first | exact HE.out _ | (simp only [World.drewN_drewN]; exact HE.out _)))
    go_wp2_with fail
    go_ret
    exact ⟨rfl, _, rfl⟩
set_option maxHeartbeats 1000000 in
theorem atDigit_any {R : Nat} {s seg : ByteArray} {x : St} (w : World) (h : PRd w R s seg x) :
    Calls Tryd.prog 33 #[.pointer (some ⟨R, 0, none⟩)] w fun e w' => e = .returned (.bool (isD (bt s x.a))) ∧ ∃ n, w' = w.drewN n := by
  have c0 := h.text
  have c1 := h.at_
  have hs : s.size ≤ maxLen := h.fit
  unfold maxLen at hs
  by_cases hl : x.a < s.size
  · have HE : Hid (∀ n, Calls Tryd.prog 13 #[.pointer (some ⟨R, 0, none⟩)] (w.drewN n) fun e w' => e = .returned (.bool false) ∧ ∃ m, w' = w.drewN m) := end_q h (decide_eq_false (by omega))
    obtain ⟨d, hd⟩ : ∃ d, isD (bt s x.a) = d := ⟨_, rfl⟩
    rw [hd]
    rw [bt_in hl] at hd
    obtain ⟨a, ha⟩ : ∃ a, x.a = a := ⟨_, rfl⟩
    simp only [ha] at c1 hl hd
    have hli : (a : Int) < s.size := by omega
    have HD : Hid (∀ n, Calls Tryd.prog 32 #[.int .u8 (s[a].toNat : Int)] (w.drewN n) fun e w' => e = .returned (.bool d) ∧ ∃ m, w' = w.drewN m) := fun n => Calls.quiet_of_same (by rw [← hd]; exact isDigit_any _ _)
    clear h ha hd
    go_enter Tryd.func33, Tryd.ntmps33
    go_wp2_with fail
    go_quiet (first | (go_at_call 13; first | exact HE.out _ | (simp only [World.drewN_drewN]; exact HE.out _)) | (go_at_call 32; first | exact HD.out _ | (simp only [World.drewN_drewN]; exact HD.out _)))
    go_wp2_with fail
    go_ret
    exact ⟨rfl, _, rfl⟩
  · have HE : Hid (∀ n, Calls Tryd.prog 13 #[.pointer (some ⟨R, 0, none⟩)] (w.drewN n) fun e w' => e = .returned (.bool true) ∧ ∃ m, w' = w.drewN m) := end_q h (decide_eq_true (by have := h.in_; omega))
    have HF : Hid (isD (bt s x.a) = false) := by unfold Hid; rw [bt_end (by omega)]; rfl
    clear h hl
    go_enter Tryd.func33, Tryd.ntmps33
    go_wp2_with fail
    go_quiet ((go_at_call 13; first | exact HE.out _ | (simp only [World.drewN_drewN]; exact HE.out _)))
    go_wp2_with fail
    go_ret
    exact ⟨ret_bool (by rw [HF.out]), _, rfl⟩
end Go.Proofs.YtachkeipknakgaaDoor
