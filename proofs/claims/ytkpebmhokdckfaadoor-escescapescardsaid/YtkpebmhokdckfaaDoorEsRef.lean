/-
  The document's leaves: among, Plain, letter, digit.
-/
import Derived.Test.YtkpebmhokdckfaaDoorEsKind
import Derived.Test.YtkpebmhokdckfaaDoorEsValid
namespace Go.Proofs.YtkpebmhokdckfaaDoor
open Go.RowKit

theorem contains_at {l : List UInt8} {b : UInt8} {i : Nat} (hi : i < l.length) (h : l.getD i 0 = b) : l.contains b = true := by
  rw [List.contains_iff_mem, ← h, List.getD_eq_getElem?_getD, List.getElem?_eq_getElem hi]; exact List.getElem_mem hi
theorem contains_no {l : List UInt8} {b : UInt8} (h : ∀ j, j < l.length → l.getD j 0 ≠ b) : l.contains b = false := by
  rw [Bool.eq_false_iff]; intro g
  rw [List.contains_iff_mem] at g
  obtain ⟨j, hj, e⟩ := List.getElem_of_mem g
  refine h j hj ?_
  rw [← e, List.getD_eq_getElem?_getD, List.getElem?_eq_getElem hj]; rfl
set_option maxRecDepth 100000 in
set_option maxHeartbeats 4000000 in
theorem among_any (m : Mk) (b : UInt8) (w : World) : Calls Tryd.prog 24 #[.agg #[.int .u8 (m.f.toNat : Int), .int .u8 (m.c.toNat : Int), .int .u8 (m.r.toNat : Int), .int .u8 (m.x.toNat : Int), .int .u8 (m.s.toNat : Int)], .int .u8 (b.toNat : Int)] w fun e w' => e = .returned (.bool (m.l.contains b)) ∧ Below w.heap.size w w' := by
  have hl : m.l.length = 5 := rfl
  go_enter Tryd.func24, Tryd.ntmps24
  go_wp2_with fail
  refine (Five_any m _).mono ?_
  rintro e w1 ⟨rfl, b1⟩
  have HB1 : Hid (Below w.heap.size w w1) := below_then ((Below.refl _ _).alloc (Nat.le_refl _) _) b1
  clear b1
  go_wp2_with fail
  have HA := arr_new w1 m 60
  have HB2 : Hid (Below w.heap.size w (w1.alloc (.cells #[.int .u8 (m.f.toNat : Int), .int .u8 (m.c.toNat : Int), .int .u8 (m.r.toNat : Int), .int .u8 (m.x.toNat : Int), .int .u8 (m.s.toNat : Int)] 60))) := HB1.out.alloc HB1.out.size _
  obtain ⟨W, hW⟩ : ∃ W, w1.alloc (.cells #[.int .u8 (m.f.toNat : Int), .int .u8 (m.c.toNat : Int), .int .u8 (m.r.toNat : Int), .int .u8 (m.x.toNat : Int), .int .u8 (m.s.toNat : Int)] 60) = W := ⟨_, rfl⟩
  rw [hW] at HA HB2 ⊢
  have HAA : Hid (Arr W w1.heap.size m.l) := HA
  clear hW HB1 HA
  go_loopw [6] (fun t6 wx => ∃ i : Nat, i ≤ 5 ∧ t6 = .int .i64 i ∧ wx = W ∧ Hid (∀ j, j < i → m.l.getD j 0 ≠ b)) (fun t6 _ => 5 - (intOf t6).toNat)
  case atStart => exact ⟨0, Nat.zero_le _, rfl, rfl, fun _ h => absurd h (by omega)⟩
  case round =>
    obtain ⟨i, hi, rfl, hww, HI⟩ := hrel
    obtain rfl : W = wr := hww.symm
    clear hww
    by_cases hlt : i < 5
    · have hlti : (i : Int) < 5 := by omega
      have ci := HAA.out i (by omega)
      obtain ⟨bi, hbi⟩ : ∃ b, m.l.getD i 0 = b := ⟨_, rfl⟩
      rw [hbi] at ci
      have HBI : Hid (m.l.getD i 0 = bi) := hbi
      clear hbi
      by_cases he : bi = b
      · subst he
        have HC : Hid (m.l.contains bi = true) := contains_at (by omega) HBI.out
        go_wp2_with fail
        go_ret
        exact ⟨ret_bool HC.out.symm, HB2.out⟩
      · have hne := u8_ne he
        have HNE : Hid (m.l.getD i 0 ≠ b) := by unfold Hid; rw [HBI.out]; exact he
        clear he
        go_wp2_with fail
        go_roundw
        case rel =>
          refine ⟨i + 1, by omega, by go_num, trivial, fun j hj => ?_⟩
          rcases Nat.lt_or_ge j i with g | g
          · exact HI.out j g
          · obtain rfl : j = i := by omega
            exact HNE.out
        case measure => simp [intOf]; omega
    · obtain rfl : i = 5 := by omega
      have HC : Hid (m.l.contains b = false) := contains_no (fun j hj => HI.out j (by omega))
      go_wp2_with fail
      go_ret
      exact ⟨ret_bool HC.out.symm, HB2.out⟩
def isK (m : Mk) (b : UInt8) (k : Nat) : Bool := decide (kdB m b = k)
set_option maxRecDepth 100000 in
set_option maxHeartbeats 4000000 in
theorem Plain_any (m : Mk) (b : UInt8) (w : World) : Calls Tryd.prog 23 #[.agg #[.int .u8 (m.f.toNat : Int), .int .u8 (m.c.toNat : Int), .int .u8 (m.r.toNat : Int), .int .u8 (m.x.toNat : Int), .int .u8 (m.s.toNat : Int)], .int .u8 (b.toNat : Int)] w fun e w' => e = .returned (.bool (isK m b 1)) ∧ Below w.heap.size w w' := by
  obtain ⟨q, hq⟩ : ∃ q, m.l.contains b = q := ⟨_, rfl⟩
  have hh : ∀ w, Calls Tryd.prog 24 #[.agg #[.int .u8 (m.f.toNat : Int), .int .u8 (m.c.toNat : Int), .int .u8 (m.r.toNat : Int), .int .u8 (m.x.toNat : Int), .int .u8 (m.s.toNat : Int)], .int .u8 (b.toNat : Int)] w fun e w' => e = .returned (.bool q) ∧ Below w.heap.size w w' := fun w => by have := among_any m b w; rw [hq] at this; exact this
  have HQ : Hid (isK m b 1 = (plB b.toNat q)) := by
    unfold Hid isK kdB plB
    rw [hq]
    cases q
    · simp only [Bool.false_eq_true, if_false, Bool.not_false, Bool.and_true]
      by_cases h : (decide (32 ≤ b.toNat) && b.toNat != 127) = true
      · rw [if_pos h, h]; rfl
      · rw [if_neg h]; simp only [Bool.not_eq_true] at h; rw [h]; rfl
    · simp
  have hb := b.toNat_lt
  rw [HQ.out]
  clear hq
  have HB : Hid (Below w.heap.size w (w.alloc (.cells #[.int .u8 (m.f.toNat : Int), .int .u8 (m.c.toNat : Int), .int .u8 (m.r.toNat : Int), .int .u8 (m.x.toNat : Int), .int .u8 (m.s.toNat : Int)] 23))) := (Below.refl _ _).alloc (Nat.le_refl _) _
  by_cases h1 : 32 ≤ b.toNat
  · have k1 : decide ((32 : Int) ≤ b.toNat) = true := by simp; omega
    by_cases h2 : b.toNat ≤ 126
    · have k2 : decide ((b.toNat : Int) ≤ 126) = true := by simp; omega
      have HP : Hid (plB b.toNat q = !q) := by unfold Hid plB; simp; omega
      go_enter Tryd.func23, Tryd.ntmps23
      go_wp2_with (go_at_call 24; refine (hh _).mono ?_; rintro e w2 ⟨rfl, b2⟩)
      go_wp2_with fail
      go_ret
      exact ⟨ret_bool HP.out.symm, below_then HB.out b2⟩
    · have k2 : decide ((b.toNat : Int) ≤ 126) = false := by simp; omega
      by_cases h3 : 128 ≤ b.toNat
      · have k3 : decide ((128 : Int) ≤ b.toNat) = true := by simp; omega
        have HP : Hid (plB b.toNat q = !q) := by unfold Hid plB; simp; omega
        go_enter Tryd.func23, Tryd.ntmps23
        go_wp2_with (go_at_call 24; refine (hh _).mono ?_; rintro e w2 ⟨rfl, b2⟩)
        go_wp2_with fail
        go_ret
        exact ⟨ret_bool HP.out.symm, below_then HB.out b2⟩
      · have k3 : decide ((128 : Int) ≤ b.toNat) = false := by simp; omega
        have HP : Hid (plB b.toNat q = false) := by unfold Hid plB; have : b.toNat = 127 := by omega
                                                    rw [this]; rfl
        go_enter Tryd.func23, Tryd.ntmps23
        go_wp2_with fail
        go_ret
        exact ⟨ret_bool HP.out.symm, HB.out⟩
  · have k1 : decide ((32 : Int) ≤ b.toNat) = false := by simp; omega
    have k3 : decide ((128 : Int) ≤ b.toNat) = false := by simp; omega
    have HP : Hid (plB b.toNat q = false) := by unfold Hid plB; simp; omega
    go_enter Tryd.func23, Tryd.ntmps23
    go_wp2_with fail
    go_ret
    exact ⟨ret_bool HP.out.symm, HB.out⟩
theorem digit_any (k : Nat) (hk : k < 16) (w : World) : Calls Tryd.prog 26 #[.int .u8 (k : Int)] w fun e w' => e = .returned (.int .u8 ((dgB k).toNat : Int)) ∧ w' = w := by
  rcases (by omega : k = 0 ∨ k = 1 ∨ k = 2 ∨ k = 3 ∨ k = 4 ∨ k = 5 ∨ k = 6 ∨ k = 7 ∨ k = 8 ∨ k = 9 ∨ k = 10 ∨ k = 11 ∨ k = 12 ∨ k = 13 ∨ k = 14 ∨ k = 15) with rfl | rfl | rfl | rfl | rfl | rfl | rfl | rfl | rfl | rfl | rfl | rfl | rfl | rfl | rfl | rfl
  all_goals
    go_enter Tryd.func26, Tryd.ntmps26
    go_wp2
    go_ret
    exact ⟨rfl, rfl⟩
theorem Wrong.apart {m : Mk} (h : Wrong m.l 5 5) : m.c ≠ m.f ∧ m.r ≠ m.f ∧ m.r ≠ m.c ∧ m.x ≠ m.f ∧ m.x ≠ m.c ∧ m.x ≠ m.r ∧ m.s ≠ m.f ∧ m.s ≠ m.c ∧ m.s ≠ m.r ∧ m.s ≠ m.x := by
  have h1 := h.ok 1 (by omega)
  have h2 := h.ok 2 (by omega)
  have h3 := h.ok 3 (by omega)
  have h4 := h.ok 4 (by omega)
  simp [badAt, Mk.l] at h1 h2 h3 h4
  exact ⟨h1.2, h2.2.1, h2.2.2, h3.2.1, h3.2.2.1, h3.2.2.2, h4.2.1, h4.2.2.1, h4.2.2.2.1, h4.2.2.2.2⟩
set_option maxRecDepth 100000 in
set_option maxHeartbeats 2000000 in
theorem rletter_any (m : Mk) (b : UInt8) (w : World) (hm : Wrong m.l 5 5) (hb : b ∈ m.l) : Calls Tryd.prog 25 #[.agg #[.int .u8 (m.f.toNat : Int), .int .u8 (m.c.toNat : Int), .int .u8 (m.r.toNat : Int), .int .u8 (m.x.toNat : Int), .int .u8 (m.s.toNat : Int)], .int .u8 (b.toNat : Int)] w fun e w' => e = .returned (.int .u8 ((ltB m b).toNat : Int)) ∧ Below w.heap.size w w' := by
  obtain ⟨a1, a2, a3, a4, a5, a6, a7, a8, a9, a10⟩ := hm.apart
  have HB : Hid (Below w.heap.size w (w.alloc (.cells #[.int .u8 (m.f.toNat : Int), .int .u8 (m.c.toNat : Int), .int .u8 (m.r.toNat : Int), .int .u8 (m.x.toNat : Int), .int .u8 (m.s.toNat : Int)] 23))) := (Below.refl _ _).alloc (Nat.le_refl _) _
  have hc : b = m.f ∨ b = m.c ∨ b = m.r ∨ b = m.x ∨ b = m.s := by simpa [Mk.l] using hb
  clear hb hm
  rcases hc with rfl | rfl | rfl | rfl | rfl
  · have HL : Hid (ltB m m.f = 70) := by unfold Hid ltB; simp
    clear a1 a2 a3 a4 a5 a6 a7 a8 a9 a10
    go_enter Tryd.func25, Tryd.ntmps25
    go_wp2_with fail
    go_ret
    exact ⟨by rw [HL.out]; rfl, HB.out⟩
  · have HL : Hid (ltB m m.c = 83) := by unfold Hid ltB; simp [a1]
    have n1 := u8_ne a1
    clear a1 a2 a3 a4 a5 a6 a7 a8 a9 a10
    go_enter Tryd.func25, Tryd.ntmps25
    go_wp2_with fail
    go_ret
    exact ⟨by rw [HL.out]; rfl, HB.out⟩
  · have HL : Hid (ltB m m.r = 82) := by unfold Hid ltB; simp [a2, a3]
    have n1 := u8_ne a2
    have n2 := u8_ne a3
    have n3 := u8_ne (Ne.symm a9)
    clear a1 a2 a3 a4 a5 a6 a7 a8 a9 a10
    go_enter Tryd.func25, Tryd.ntmps25
    go_wp2_with fail
    go_ret
    exact ⟨by rw [HL.out]; rfl, HB.out⟩
  · have HL : Hid (ltB m m.x = 69) := by unfold Hid ltB; simp [a4, a5, a6]
    have n1 := u8_ne a4
    have n2 := u8_ne a5
    have n3 := u8_ne (Ne.symm a10)
    have n4 := u8_ne a6
    clear a1 a2 a3 a4 a5 a6 a7 a8 a9 a10
    go_enter Tryd.func25, Tryd.ntmps25
    go_wp2_with fail
    go_ret
    exact ⟨by rw [HL.out]; rfl, HB.out⟩
  · have HL : Hid (ltB m m.s = 84) := by unfold Hid ltB; simp [a7, a8, a9, a10]
    have n1 := u8_ne a7
    have n2 := u8_ne a8
    clear a1 a2 a3 a4 a5 a6 a7 a8 a9 a10
    go_enter Tryd.func25, Tryd.ntmps25
    go_wp2_with fail
    go_ret
    exact ⟨by rw [HL.out]; rfl, HB.out⟩
end Go.Proofs.YtkpebmhokdckfaaDoor
