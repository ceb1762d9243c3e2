/-
  What is read is written again: a text without a fault is its stamp's text.
-/
import Derived.Test.YtpcdkafjogpdkaaDoorBk2
namespace Go.Proofs.YtpcdkafjogpdkaaDoor
open Go.RowKit

def Dr (s : ByteArray) (a : Nat) : List UInt8 := s.data.toList.drop a
theorem dr_cons {s : ByteArray} {a : Nat} (h : a < s.size) : Dr s a = s[a] :: Dr s (a + 1) := by
  unfold Dr
  have hl : a < s.data.toList.length := h
  rw [List.drop_eq_getElem_cons hl]
  rfl
theorem isD_dr {s : ByteArray} {a : Nat} (h : isD (ahd s a none) = true) : ∃ m, m < 10 ∧ ahd s a none = 48 + m ∧ Dr s a = UInt8.ofNat (48 + m) :: Dr s (a + 1) := by
  obtain ⟨_, hl, e, h1, h2⟩ := isD_in h
  refine ⟨s[a].toNat - 48, by omega, by omega, ?_⟩
  rw [dr_cons hl]
  congr 1
  rw [show 48 + (s[a].toNat - 48) = s[a].toNat by omega]
  exact (UInt8.ofNat_toNat).symm
theorem itr_inv (s : ByteArray) (k : Nat) : ∀ (a : Nat) (bad : Option Nat), (itr s k (0, a, bad)).2.2 = none → bad = none ∧ ∃ n : Nat, n < 10 ^ k ∧ itr s k (0, a, bad) = ((n : Int), a + k, none) ∧ Dr s a = digs k n ++ Dr s (a + k) := by
  induction k with
  | zero => intro a bad h; exact ⟨h, 0, by simp, by show (0, a, bad) = _; rw [show bad = none from h]; rfl, rfl⟩
  | succ k ih =>
    intro a bad h
    have h' : (stp s (itr s k (0, a, bad))).2.2 = none := h
    have hD : isD (ahd s (itr s k (0, a, bad)).2.1 (itr s k (0, a, bad)).2.2) = true := by
      cases hd : isD (ahd s (itr s k (0, a, bad)).2.1 (itr s k (0, a, bad)).2.2) with
      | true => rfl
      | false =>
        unfold stp at h'
        rw [if_neg (by rw [hd]; decide)] at h'
        exact absurd h' (or_some _ _)
    have hb : (itr s k (0, a, bad)).2.2 = none := (isD_in hD).1
    obtain ⟨e0, n, hn, e, hdr⟩ := ih a bad hb
    rw [e] at hD
    obtain ⟨m, hm, em, hdm⟩ := isD_dr hD
    refine ⟨e0, n * 10 + m, by rw [Nat.pow_succ]; omega, ?_, ?_⟩
    · show stp s (itr s k (0, a, bad)) = _
      rw [e]
      unfold stp
      rw [if_pos hD, em]
      simp only [Prod.mk.injEq, and_true]
      exact ⟨by omega, by omega⟩
    · rw [digs, show (n * 10 + m) / 10 = n by omega, show (n * 10 + m) % 10 = m by omega, hdr, hdm, List.append_assoc]
      rfl
theorem num_inv {s : ByteArray} {k a a' : Nat} {lo hi v : Int} {bad : Option Nat} (h : numS s k lo hi a bad = (v, a', none)) : bad = none ∧ ∃ n : Nat, n < 10 ^ k ∧ v = n ∧ lo ≤ v ∧ v ≤ hi ∧ a' = a + k ∧ Dr s a = digs k n ++ Dr s (a + k) := by
  unfold numS at h
  simp only [Prod.mk.injEq] at h
  obtain ⟨h1, h2, h3⟩ := h
  have hin : inB (itr s k (0, a, bad)).1 lo hi = true := by
    cases hd : inB (itr s k (0, a, bad)).1 lo hi with
    | true => rfl
    | false => rw [if_neg (by rw [hd]; decide)] at h3; exact absurd h3 (or_some _ _)
  rw [if_pos hin] at h3
  obtain ⟨e0, n, hn, e, hdr⟩ := itr_inv s k a bad h3
  rw [inB_iff, h1] at hin
  rw [e] at h1 h2
  exact ⟨e0, n, hn, h1.symm, hin.1, hin.2, h2.symm, hdr⟩
theorem dr_nil {s : ByteArray} {a : Nat} {bad : Option Nat} (h : endB s a bad = none) : bad = none ∧ Dr s a = [] := by
  unfold endB at h
  by_cases hl : a < s.size
  · rw [if_pos hl] at h; exact absurd h (or_some _ _)
  · rw [if_neg hl] at h
    exact ⟨h, List.drop_eq_nil_iff.2 (by show s.size ≤ a; omega)⟩
theorem zone_inv {s : ByteArray} {a a' : Nat} {bad bad' : Option Nat} {z : Bool} {zn : Int} (h : zoneS s a bad = (z, zn, a', bad')) (he : endB s a' bad' = none) : bad = none ∧ Dr s a = zoneL z zn ∧ (z = true → -840 ≤ zn ∧ zn ≤ 840) ∧ (z = false → zn = 0) := by
  obtain ⟨rfl, hn⟩ := dr_nil he
  unfold zoneS at h
  by_cases hs : ahd s a bad = 43 ∨ ahd s a bad = 45
  · rw [if_pos hs] at h
    simp only [Prod.mk.injEq] at h
    obtain ⟨rfl, h2, h3, h4⟩ := h
    have hz : zbad (ahd s a bad) (itr s 4 (0, a + 1, bad)).1 = false := by
      cases hd : zbad (ahd s a bad) (itr s 4 (0, a + 1, bad)).1 with
      | false => rfl
      | true => rw [if_pos (by rw [hd])] at h4; exact absurd h4 (or_some _ _)
    rw [if_neg (by rw [hz]; decide)] at h4
    obtain ⟨rfl, N, hN, e, hdr⟩ := itr_inv s 4 (a + 1) bad h4
    rw [e] at h2 h3 hz
    have ea : a + 1 + 4 = a' := h3
    rw [ea, hn, List.append_nil] at hdr
    have hl : a < s.size := (sign_in hs).2
    have hc := dr_cons hl
    have hA : ahd s a none = s[a].toNat := ahd_in hl
    unfold zbad at hz
    simp only [Bool.or_eq_false_iff, decide_eq_false_iff_not, Bool.and_eq_false_iff] at hz
    obtain ⟨⟨z1, z2⟩, z3⟩ := hz
    have e4 : digs 4 N = digs 2 (N / 100) ++ digs 2 (N % 100) := by
      have := digs4 (N / 100) (N % 100) (by omega)
      rw [show N / 100 * 100 + N % 100 = N by omega] at this
      exact this
    refine ⟨rfl, ?_, ?_, fun e => by cases e⟩
    · rcases hs with hs | hs
      · have hv : zn = ((N / 100 * 60 + N % 100 : Nat) : Int) := by
          rw [← h2]; unfold zval; rw [hs, if_neg (by decide)]; omega
        have c43 : s[a] = 43 := UInt8.toNat_inj.1 (by rw [← hA, hs]; rfl)
        rw [hc, hdr, e4, c43, hv]
        unfold zoneL
        rw [if_pos rfl, if_neg (by omega), Int.natAbs_natCast, show (N / 100 * 60 + N % 100) / 60 = N / 100 by omega, show (N / 100 * 60 + N % 100) % 60 = N % 100 by omega]
      · have hv : zn = -((N / 100 * 60 + N % 100 : Nat) : Int) := by
          rw [← h2]; unfold zval; rw [hs, if_pos rfl]; omega
        have hN0 : ¬ N = 0 := by
          intro g
          rw [hs] at z3
          rcases z3 with z3 | z3
          · exact absurd z3 (by decide)
          · rw [g] at z3; exact absurd z3 (by decide)
        have c45 : s[a] = 45 := UInt8.toNat_inj.1 (by rw [← hA, hs]; rfl)
        rw [hc, hdr, e4, c45, hv]
        unfold zoneL
        rw [if_pos rfl, if_pos (by omega), Int.natAbs_neg, Int.natAbs_natCast, show (N / 100 * 60 + N % 100) / 60 = N / 100 by omega, show (N / 100 * 60 + N % 100) % 60 = N % 100 by omega]
    · intro _
      have : zn = ((N / 100 * 60 + N % 100 : Nat) : Int) ∨ zn = -((N / 100 * 60 + N % 100 : Nat) : Int) := by
        rcases hs with hs | hs
        · left; rw [← h2]; unfold zval; rw [hs, if_neg (by decide)]; omega
        · right; rw [← h2]; unfold zval; rw [hs, if_pos rfl]; omega
      omega
  · rw [if_neg hs] at h
    simp only [Prod.mk.injEq] at h
    obtain ⟨rfl, rfl, rfl, rfl⟩ := h
    refine ⟨rfl, hn, ?_, ?_⟩
    · intro e
      cases e
    · intro _
      rfl
/-- The part: as many digits as were read. -/
theorem prt_inv {s : ByteArray} {a : Nat} (h : isD (ahd s a none) = true) : ∃ G P : Nat, 1 ≤ G ∧ G ≤ 4 ∧ P < 10 ^ G ∧ prt s 3 ((ahd s a none : Int) - 48, 1, a + 1, none) = ((P : Int), (G : Int), a + G, none) ∧ Dr s a = digs G P ++ Dr s (a + G) := by
  have one : ∀ (k c : Nat), itr s k (0, a, none) = ((c : Int), a + k, none) → isD (ahd s (a + k) none) = true → itr s (k + 1) (0, a, none) = (((c * 10 + (ahd s (a + k) none - 48) : Nat) : Int), a + (k + 1), none) := by
    intro k c e hd
    show stp s (itr s k (0, a, none)) = _
    rw [e]
    unfold stp
    rw [if_pos hd]
    obtain ⟨m, hm, em, _⟩ := isD_dr hd
    rw [em]
    simp only [Prod.mk.injEq, and_true]
    exact ⟨by omega, by omega⟩
  have fin : ∀ (k c : Nat), itr s k (0, a, none) = ((c : Int), a + k, none) → c < 10 ^ k ∧ Dr s a = digs k c ++ Dr s (a + k) := by
    intro k c e
    obtain ⟨_, n, hn, e2, hdr⟩ := itr_inv s k a none (by rw [e])
    rw [e] at e2
    have : (c : Int) = n := by simpa using e2
    obtain rfl : c = n := by omega
    exact ⟨hn, hdr⟩
  obtain ⟨m0, hm0, em0, _⟩ := isD_dr h
  have i1 := one 0 0 rfl h
  simp only [Nat.add_zero] at i1
  rw [em0] at i1
  simp only [Nat.zero_mul, Nat.zero_add, Nat.add_sub_cancel_left] at i1
  rw [em0]
  by_cases h1 : isD (ahd s (a + 1) none) = true
  · obtain ⟨m1, hm1, em1, _⟩ := isD_dr h1
    have i2 := one 1 m0 i1 h1
    rw [em1, Nat.add_sub_cancel_left] at i2
    by_cases h2 : isD (ahd s (a + 2) none) = true
    · obtain ⟨m2, hm2, em2, _⟩ := isD_dr h2
      have i3 := one 2 _ i2 h2
      rw [em2, Nat.add_sub_cancel_left] at i3
      by_cases h3 : isD (ahd s (a + 3) none) = true
      · obtain ⟨m3, hm3, em3, _⟩ := isD_dr h3
        have i4 := one 3 _ i3 h3
        rw [em3, Nat.add_sub_cancel_left] at i4
        obtain ⟨b, hb⟩ := fin 4 _ i4
        refine ⟨4, _, by decide, by decide, b, ?_, hb⟩
        rw [prt, if_pos h1, prt, if_pos h2, prt, if_pos h3, prt]
        simp only [em1, em2, em3, Prod.mk.injEq, and_true]
        exact ⟨by omega, by decide⟩
      · obtain ⟨b, hb⟩ := fin 3 _ i3
        refine ⟨3, _, by decide, by decide, b, ?_, hb⟩
        rw [prt, if_pos h1, prt, if_pos h2, prt, if_neg h3]
        simp only [em1, em2, Prod.mk.injEq, and_true]
        exact ⟨by omega, by decide⟩
    · obtain ⟨b, hb⟩ := fin 2 _ i2
      refine ⟨2, _, by decide, by decide, b, ?_, hb⟩
      rw [prt, if_pos h1, prt, if_neg h2]
      simp only [em1, Prod.mk.injEq, and_true]
      exact ⟨by omega, by decide⟩
  · obtain ⟨b, hb⟩ := fin 1 _ i1
    refine ⟨1, _, by decide, by decide, b, ?_, hb⟩
    rw [prt, if_neg h1]
    simp only [Prod.mk.injEq, and_true]
    exact ⟨by omega, by decide⟩
end Go.Proofs.YtpcdkafjogpdkaaDoor
