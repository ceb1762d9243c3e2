/-
  What was written is read: the readers' functions over a right stamp's text.
-/
import Derived.Test.YtpcdkafjogpdkaaDoorRdParse
import Derived.Test.YtpcdkafjogpdkaaDoorWr3
import Derived.Test.YtpcdkafjogpdkaaDoorOrderNum
namespace Go.Proofs.YtpcdkafjogpdkaaDoor
open Go.RowKit

/-- From this place on the text is that. -/
def Rest (s : ByteArray) (a : Nat) (r : List UInt8) : Prop := s.data.toList.drop a = r
theorem Rest.nil {s : ByteArray} {a : Nat} (h : Rest s a []) : ahd s a none = 0 ∧ endB s a none = none := by
  have hl : s.data.toList.length ≤ a := List.drop_eq_nil_iff.1 h
  refine ⟨?_, ?_⟩
  · show (s.data.toList.getD a 0).toNat = 0
    rw [List.getD_eq_getElem?_getD, List.getElem?_eq_none hl]
    rfl
  · unfold endB
    rw [if_neg (by show ¬ a < s.data.toList.length; omega)]
theorem Rest.cons {s : ByteArray} {a : Nat} {c : UInt8} {r : List UInt8} (h : Rest s a (c :: r)) : ahd s a none = c.toNat ∧ Rest s (a + 1) r := by
  refine ⟨?_, ?_⟩
  · show (s.data.toList.getD a 0).toNat = _
    have e : (s.data.toList.drop a)[0]? = some c := by rw [h]; rfl
    rw [List.getElem?_drop, Nat.add_zero] at e
    rw [List.getD_eq_getElem?_getD, e]
    rfl
  · show s.data.toList.drop (a + 1) = r
    rw [← List.drop_drop, h]
    rfl
theorem dg_nat (n : Nat) (h : n < 10) : (UInt8.ofNat (48 + n)).toNat = 48 + n := by
  revert n
  decide
theorem isD_dg (n : Nat) (h : n < 10) : isD (48 + n) = true := by
  unfold isD
  simp
  omega
theorem itr_digs (s : ByteArray) (k : Nat) : ∀ (n a : Nat) (r : List UInt8), n < 10 ^ k → Rest s a (digs k n ++ r) → itr s k (0, a, none) = ((n : Int), a + k, none) ∧ Rest s (a + k) r := by
  induction k with
  | zero =>
    intro n a r hn h
    obtain rfl : n = 0 := by simpa using hn
    exact ⟨rfl, h⟩
  | succ k ih =>
    intro n a r hn h
    rw [digs, List.append_assoc] at h
    obtain ⟨e, h2⟩ := ih (n / 10) a _ (by rw [Nat.pow_succ] at hn; omega) h
    obtain ⟨e3, h3⟩ := h2.cons
    rw [dg_nat _ (by omega)] at e3
    refine ⟨?_, h3⟩
    show stp s (itr s k (0, a, none)) = _
    rw [e]
    unfold stp
    rw [e3, if_pos (isD_dg _ (by omega))]
    simp only [Prod.mk.injEq, and_true]
    exact ⟨by omega, by omega⟩
theorem num_digs {s : ByteArray} {k n a : Nat} {lo hi : Int} {r : List UInt8} (hn : n < 10 ^ k) (h1 : lo ≤ n) (h2 : (n : Int) ≤ hi) (h : Rest s a (digs k n ++ r)) : numS s k lo hi a none = ((n : Int), a + k, none) ∧ Rest s (a + k) r := by
  obtain ⟨e, h'⟩ := itr_digs s k n a r hn h
  refine ⟨?_, h'⟩
  unfold numS
  rw [e, if_pos (inB_iff.2 ⟨h1, h2⟩)]
theorem digs_head (k n : Nat) : ∃ x l, x < 10 ∧ digs (k + 1) n = UInt8.ofNat (48 + x) :: l := by
  induction k generalizing n with
  | zero => exact ⟨n % 10, [], by omega, rfl⟩
  | succ k ih =>
    obtain ⟨x, l, hx, e⟩ := ih (n / 10)
    exact ⟨x, l ++ [UInt8.ofNat (48 + n % 10)], hx, by rw [digs, e]; rfl⟩
theorem isD_digs {s : ByteArray} {a k n : Nat} {r : List UInt8} (h : Rest s a (digs (k + 1) n ++ r)) : isD (ahd s a none) = true := by
  obtain ⟨x, l, hx, e⟩ := digs_head k n
  rw [e] at h
  rw [h.cons.1, dg_nat x hx]
  exact isD_dg x hx
theorem zone_head {s : ByteArray} {a : Nat} {z : Bool} {zn : Int} (h : Rest s a (zoneL z zn)) : isD (ahd s a none) = false ∧ ahd s a none ≠ 46 := by
  cases z with
  | false =>
    have h' : Rest s a [] := h
    rw [h'.nil.1]
    decide
  | true =>
    by_cases hz : zn < 0
    · have h' : Rest s a (45 :: (digs 2 (zn.natAbs / 60) ++ digs 2 (zn.natAbs % 60))) := by simpa [zoneL, hz] using h
      rw [h'.cons.1]
      decide
    · have h' : Rest s a (43 :: (digs 2 (zn.natAbs / 60) ++ digs 2 (zn.natAbs % 60))) := by simpa [zoneL, hz] using h
      rw [h'.cons.1]
      decide
theorem zone_text {s : ByteArray} {a : Nat} {z : Bool} {zn : Int} (h : Rest s a (zoneL z zn)) (hz : z = true → -840 ≤ zn ∧ zn ≤ 840) (hz0 : z = false → zn = 0) : ∃ A, zoneS s a none = (z, zn, A, none) ∧ endB s A none = none := by
  cases z with
  | false =>
    have h' : Rest s a [] := h
    obtain rfl := hz0 rfl
    refine ⟨a, ?_, h'.nil.2⟩
    unfold zoneS
    rw [h'.nil.1]
    rfl
  | true =>
    obtain ⟨b1, b2⟩ := hz rfl
    have key : ∀ c : Nat, (c = 43 ∨ c = 45) → ahd s a none = c → Rest s (a + 1) (digs 4 (zn.natAbs / 60 * 100 + zn.natAbs % 60) ++ []) → (c = 45 → zn < 0) → (c = 43 → ¬ zn < 0) → ∃ A, zoneS s a none = (true, zn, A, none) ∧ endB s A none = none := by
      intro c hc ha hr k1 k2
      obtain ⟨e, h2⟩ := itr_digs s 4 _ (a + 1) [] (by omega) hr
      refine ⟨a + 1 + 4, ?_, h2.nil.2⟩
      unfold zoneS
      rw [ha, if_pos hc, e]
      have hb : zbad c ((zn.natAbs / 60 * 100 + zn.natAbs % 60 : Nat) : Int) = false := by
        unfold zbad
        simp
        refine ⟨⟨by omega, by omega⟩, fun h5 => ?_⟩
        have := k1 h5
        omega
      have hv : zval c ((zn.natAbs / 60 * 100 + zn.natAbs % 60 : Nat) : Int) = zn := by
        unfold zval
        rcases hc with rfl | rfl
        · have := k2 rfl
          rw [if_neg (by decide)]
          omega
        · have := k1 rfl
          rw [if_pos rfl]
          omega
      rw [hb, hv]
      rfl
    by_cases hn : zn < 0
    · have h' : Rest s a (45 :: (digs 2 (zn.natAbs / 60) ++ digs 2 (zn.natAbs % 60))) := by simpa [zoneL, hn] using h
      refine key 45 (Or.inr rfl) h'.cons.1 ?_ (fun _ => hn) (fun e => by omega)
      rw [digs4 _ _ (by omega), List.append_nil]
      exact h'.cons.2
    · have h' : Rest s a (43 :: (digs 2 (zn.natAbs / 60) ++ digs 2 (zn.natAbs % 60))) := by simpa [zoneL, hn] using h
      refine key 43 (Or.inl rfl) h'.cons.1 ?_ (fun e => by omega) (fun _ => hn)
      rw [digs4 _ _ (by omega), List.append_nil]
      exact h'.cons.2
end Go.Proofs.YtpcdkafjogpdkaaDoor
