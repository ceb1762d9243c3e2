/-
  The kind of a rune; the letter of a mark.
-/
import Derived.Test.YtkpebmhokdckfaaDoorEsHigh
namespace Go.Proofs.YtkpebmhokdckfaaDoor
open Go.RowKit

def plB (b : Nat) (q : Bool) : Bool := decide (32 ≤ b) && b != 127 && !q
set_option maxHeartbeats 1000000 in
theorem plain_low (m : Mk) (b : Nat) (w : World) (h : b < 128) (q : Bool) (hq : inB m.l b = q) :
    Calls Tryd.prog 32 #[.string m.str, .int .i32 b] w fun e w' => e = .returned (.bool (plB b q)) ∧ w' = w := by
  have hh : ∀ w, Calls Tryd.prog 28 #[.string m.str, .int .i32 b] w fun e w' => e = .returned (.bool q) ∧ w' = w := fun w => by have := has_low m.str b w (by omega) (by omega); rw [show inB m.str.data.toList (b : Int) = q from hq] at this; exact this
  clear hq
  by_cases h1 : 32 ≤ b
  · by_cases h2 : b = 127
    · have k1 : decide ((32 : Int) ≤ b) = true := by simp; omega
      subst h2
      go_enter Tryd.func32, Tryd.ntmps32
      go_wp2_with fail
      go_ret
      exact ⟨ret_bool (by simp [plB]), rfl⟩
    · have k1 : decide ((32 : Int) ≤ b) = true := by simp; omega
      have k2 : ((b : Int) != 127) = true := by simp; omega
      have K3 : Hid ((b != 127) = true ∧ decide (32 ≤ b) = true) := ⟨by simpa using h2, by simpa using h1⟩
      clear h1 h2
      go_enter Tryd.func32, Tryd.ntmps32
      go_wp2_with (go_at_call 28; refine (hh _).mono ?_; rintro e w' ⟨rfl, rfl⟩)
      go_wp2_with fail
      go_ret
      exact ⟨ret_bool (by unfold plB; rw [K3.out.1, K3.out.2]; simp), rfl⟩
  · have k1 : decide ((32 : Int) ≤ b) = false := by simp; omega
    have K3 : Hid (decide (32 ≤ b) = false) := by unfold Hid; simp; omega
    clear h1
    go_enter Tryd.func32, Tryd.ntmps32
    go_wp2_with fail
    go_ret
    exact ⟨ret_bool (by unfold plB; rw [K3.out]; simp), rfl⟩
set_option maxHeartbeats 1000000 in
theorem plain_high (m : Mk) (r : Nat) (w : World) (hm : Wrong m.l 5 5) (h : 128 ≤ r) :
    Calls Tryd.prog 32 #[.string m.str, .int .i32 r] w fun e w' => e = .returned (.bool true) ∧ Below w.heap.size w w' := by
  have k1 : decide ((32 : Int) ≤ r) = true := by simp; omega
  have k2 : ((r : Int) != 127) = true := by simp; omega
  have hh : ∀ w, Calls Tryd.prog 28 #[.string m.str, .int .i32 r] w fun e w' => e = .returned (.bool false) ∧ Below w.heap.size w w' := fun w => has_high m.str r w rfl hm.asc (by omega)
  clear h hm
  go_enter Tryd.func32, Tryd.ntmps32
  go_wp2_with (go_at_call 28; refine (hh _).mono ?_; rintro e w' ⟨rfl, hb⟩)
  go_wp2_with fail
  go_ret
  exact ⟨rfl, hb⟩
set_option maxHeartbeats 1000000 in
theorem kind_low (m : Mk) (b : UInt8) (w : World) (h : b.toNat < 128) :
    Calls Tryd.prog 19 #[.string m.str, .int .i32 b.toNat] w fun e w' => e = .returned (.int .i64 (kdB m b)) ∧ w' = w := by
  obtain ⟨q, hq⟩ : ∃ q, inB m.l b.toNat = q := ⟨_, rfl⟩
  have hh : ∀ w, Calls Tryd.prog 28 #[.string m.str, .int .i32 b.toNat] w fun e w' => e = .returned (.bool q) ∧ w' = w := fun w => by have := has_low m.str b.toNat w (by omega) (by omega); rw [show inB m.str.data.toList (b.toNat : Int) = q from hq] at this; exact this
  have hp := fun w => plain_low m b.toNat w h q hq
  cases q with
  | true =>
    have hp2 : ∀ w, Calls Tryd.prog 32 #[.string m.str, .int .i32 b.toNat] w fun e w' => e = .returned (.bool false) ∧ w' = w := fun w => by have := hp w; rw [show plB b.toNat true = false by simp [plB]] at this; exact this
    have K : Hid (kdB m b = 2) := kdB_in hq
    clear hp hq
    go_enter Tryd.func19, Tryd.ntmps19
    go_wp2_with (first | (go_at_call 28; refine (hh _).mono ?_; rintro e w' ⟨rfl, rfl⟩) | (go_at_call 32; refine (hp2 _).mono ?_; rintro e w' ⟨rfl, rfl⟩))
    go_ret
    exact ⟨ret_int (by rw [K.out]; rfl), rfl⟩
  | false =>
    obtain ⟨c, hc⟩ : ∃ c, plB b.toNat false = c := ⟨_, rfl⟩
    have hp2 : ∀ w, Calls Tryd.prog 32 #[.string m.str, .int .i32 b.toNat] w fun e w' => e = .returned (.bool c) ∧ w' = w := fun w => by have := hp w; rw [hc] at this; exact this
    have K : Hid (kdB m b = if c then 1 else 3) := by unfold Hid; rw [kdB_out hq, ← hc]; simp [plB]
    clear hp hq hc
    cases c with
    | true =>
      go_enter Tryd.func19, Tryd.ntmps19
      go_wp2_with (first | (go_at_call 28; refine (hh _).mono ?_; rintro e w' ⟨rfl, rfl⟩) | (go_at_call 32; refine (hp2 _).mono ?_; rintro e w' ⟨rfl, rfl⟩))
      go_ret
      exact ⟨ret_int (by rw [K.out]; rfl), rfl⟩
    | false =>
      go_enter Tryd.func19, Tryd.ntmps19
      go_wp2_with (first | (go_at_call 28; refine (hh _).mono ?_; rintro e w' ⟨rfl, rfl⟩) | (go_at_call 32; refine (hp2 _).mono ?_; rintro e w' ⟨rfl, rfl⟩))
      go_ret
      exact ⟨ret_int (by rw [K.out]; rfl), rfl⟩
set_option maxHeartbeats 1000000 in
theorem kind_high (m : Mk) (r : Nat) (w : World) (hm : Wrong m.l 5 5) (h : 128 ≤ r) :
    Calls Tryd.prog 19 #[.string m.str, .int .i32 r] w fun e w' => e = .returned (.int .i64 1) ∧ Below w.heap.size w w' := by
  have hp := fun w => plain_high m r w hm h
  clear h hm
  go_enter Tryd.func19, Tryd.ntmps19
  go_wp2_with (go_at_call 32; refine (hp _).mono ?_; rintro e w' ⟨rfl, hb⟩)
  go_wp2_with fail
  go_ret
  exact ⟨rfl, hb⟩
/-- The kind of the rune at a place is that of each of its bytes. -/
theorem kind_at (m : Mk) (s : ByteArray) (p : Nat) (hm : Wrong m.l 5 5) (hp : p < s.size) (w : World) :
    Calls Tryd.prog 19 #[.string m.str, .int .i32 (rn s p : Int)] w fun e w' => e = .returned (.int .i64 (kdB m (s.data.toList.getD p 0))) ∧ Below w.heap.size w w' := by
  rcases Nat.lt_or_ge (bt s p) 128 with hb | hb
  · rw [(rn_low hp hb).1]
    refine (kind_low m (s.data.toList.getD p 0) w hb).mono ?_
    rintro e w' ⟨rfl, rfl⟩
    exact ⟨rfl, Below.refl _ _⟩
  · refine (kind_high m (rn s p) w hm (rn_high hp hb).1).mono ?_
    rintro e w' ⟨rfl, h⟩
    rw [kdB_high hm (b := s.data.toList.getD p 0) hb]
    exact ⟨rfl, h⟩
theorem kind_wide (m : Mk) (s : ByteArray) (p j : Nat) (hm : Wrong m.l 5 5) (hp : p < s.size) (h0 : p ≤ j) (h1 : j < p + wd s p) : kdB m (s.data.toList.getD j 0) = kdB m (s.data.toList.getD p 0) := by
  rcases Nat.lt_or_ge (bt s p) 128 with hb | hb
  · have := (rn_low hp hb).2
    obtain rfl : j = p := by omega
    rfl
  · have := wd_high hp hb (k := j - p) (by omega)
    rw [show p + (j - p) = j by omega] at this
    rw [kdB_high hm (b := s.data.toList.getD p 0) hb, kdB_high hm (b := s.data.toList.getD j 0) this]
theorem wd_pos {s : ByteArray} {p : Nat} (hp : p < s.size) : 1 ≤ wd s p := by
  rcases Nat.lt_or_ge (bt s p) 128 with hb | hb
  · have := (rn_low hp hb).2; omega
  · exact (rn_high hp hb).2
theorem wd_one {m : Mk} {s : ByteArray} {p : Nat} (hm : Wrong m.l 5 5) (hp : p < s.size) (h : kdB m (s.data.toList.getD p 0) ≠ 1) : wd s p = 1 := by
  rcases Nat.lt_or_ge (bt s p) 128 with hb | hb
  · exact (rn_low hp hb).2
  · exact absurd (kdB_high hm (b := s.data.toList.getD p 0) hb) h
/-- The letter of a mark. -/
theorem index_mark (m : Mk) (b : UInt8) (h : b ∈ m.l) : ∃ k : Nat, k < 5 ∧ Lib.indexByte m.l b = k ∧ ([70, 83, 82, 69, 84] : List UInt8).getD k 0 = ltB m b := by
  unfold Mk.l ltB at *
  by_cases h0 : b = m.f
  · exact ⟨0, by omega, by simp [Lib.indexByte, h0], by simp [h0]⟩
  · by_cases h1 : b = m.c
    · exact ⟨1, by omega, by subst h1; simp [Lib.indexByte, Ne.symm h0], by subst h1; simp [h0]⟩
    · by_cases h2 : b = m.r
      · exact ⟨2, by omega, by subst h2; simp [Lib.indexByte, Ne.symm h0, Ne.symm h1], by subst h2; simp [h0, h1]⟩
      · by_cases h3 : b = m.x
        · exact ⟨3, by omega, by subst h3; simp [Lib.indexByte, Ne.symm h0, Ne.symm h1, Ne.symm h2], by subst h3; simp [h0, h1, h2]⟩
        · obtain rfl : b = m.s := by simpa [h0, h1, h2, h3] using h
          exact ⟨4, by omega, by simp [Lib.indexByte, Ne.symm h0, Ne.symm h1, Ne.symm h2, Ne.symm h3], by simp [h0, h1, h2, h3]⟩
set_option maxHeartbeats 1000000 in
theorem letter_any (m : Mk) (b : UInt8) (w : World) (h : b ∈ m.l) :
    Calls Tryd.prog 33 #[.string m.str, .int .u8 b.toNat] w fun e w' => e = .returned (.string (ltS (ltB m b))) ∧ w' = w := by
  obtain ⟨k, hk, hi, hl⟩ := index_mark m b h
  have hh : ∀ w, Calls Tryd.prog 39 #[.string m.str, .int .u8 b.toNat] w fun e w' => e = .returned (.int .i64 k) ∧ w' = w := fun w => by have := IndexByte_any m.str b.toNat w; rw [toU8, Mk.str_l, hi] at this; exact this
  have HL : Hid (([70, 83, 82, 69, 84] : List UInt8).getD k 0 = ltB m b) := hl
  clear hi hl h
  rcases (by omega : k = 0 ∨ k = 1 ∨ k = 2 ∨ k = 3 ∨ k = 4) with rfl | rfl | rfl | rfl | rfl
  all_goals
    go_enter Tryd.func33, Tryd.ntmps33
    go_wp2_with (go_at_call 39; refine (hh _).mono ?_; rintro e w' ⟨rfl, rfl⟩)
    go_wp2_with fail
    go_ret
    exact ⟨by rw [← HL.out]; rfl, rfl⟩
end Go.Proofs.YtkpebmhokdckfaaDoor
