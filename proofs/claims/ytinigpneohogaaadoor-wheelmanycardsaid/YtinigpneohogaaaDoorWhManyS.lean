/-
  WheelMany, of no program: so many keys, one behind the other.
-/
import Derived.Test.YtinigpneohogaaaDoorWhSpec
namespace Go.Proofs.YtinigpneohogaaaDoor

def tkM (m i : Nat) : Nat := 1 + i * m % 100000
def manyS (m : Nat) (first : Int) : Nat → List Tm
  | 0 => []
  | i + 1 => if i < 4096 then setS (first + i) (tkM m i) (manyS m first i) else manyS m first i
theorem tkM_le (m i : Nat) : 0 < tkM m i ∧ tkM m i ≤ MaxT := by
  have := Nat.mod_lt (i * m) (show 0 < 100000 by omega)
  unfold tkM MaxT
  omega
theorem manyS_key (m : Nat) (first : Int) : ∀ i, ∀ x ∈ manyS m first i, first ≤ x.1 ∧ x.1 < first + i
  | 0, x, hx => by cases hx
  | i + 1, x, hx => by
    unfold manyS at hx
    split at hx
    · rcases List.mem_cons.1 ((setS_perm _ _ _).subset hx) with rfl | hx
      · simp only; omega
      · have := manyS_key m first i x (List.mem_filter.1 hx).1
        omega
    · have := manyS_key m first i x hx
      omega
theorem manyS_no (m : Nat) (first : Int) (i : Nat) : ∀ x ∈ manyS m first i, x.1 ≠ first + i := fun x hx e => by
  have := manyS_key m first i x hx
  omega
theorem manyS_ne (m : Nat) (first : Int) (i : Nat) : (manyS m first i).filter (keyNe (first + i)) = manyS m first i := List.filter_eq_self.2 fun x hx => decide_eq_true (manyS_no m first i x hx)
theorem manyS_len (m : Nat) (first : Int) : ∀ i, (manyS m first i).length = min i 4096
  | 0 => rfl
  | i + 1 => by
    have ih := manyS_len m first i
    unfold manyS
    split
    · have := (setS_perm (first + i) (tkM m i) (manyS m first i)).length_eq
      rw [manyS_ne, List.length_cons] at this
      omega
    · omega
theorem manyS_first (m : Nat) (first : Int) : ∀ i, 0 < i → ∃ t, (first, t) ∈ manyS m first i
  | 0, h => by omega
  | 1, _ => ⟨tkM m 0, by
      unfold manyS
      rw [if_pos (by decide)]
      refine (setS_perm _ _ _).symm.subset ?_
      simp⟩
  | i + 2, _ => by
    obtain ⟨t, ht⟩ := manyS_first m first (i + 1) (by omega)
    refine ⟨t, ?_⟩
    unfold manyS
    split
    · refine (setS_perm _ _ _).symm.subset (List.mem_cons_of_mem _ ?_)
      rw [manyS_ne]; exact ht
    · exact ht
/-- A key that is there, struck: one less. -/
theorem strike_len {S : List Tm} (hu : Uniq S) {k : Int} {t : Nat} (h : (k, t) ∈ S) : (S.filter (keyNe k)).length + 1 = S.length := by
  induction S with
  | nil => cases h
  | cons x l ih =>
    have h1 := List.pairwise_cons.1 hu
    by_cases e : x.1 = k
    · have hl : l.filter (keyNe k) = l := List.filter_eq_self.2 fun y hy => decide_eq_true (fun e' => h1.1 y hy (by rw [e, e']))
      rw [List.filter_cons_of_neg (by simp [keyNe, e]), hl]
      rfl
    · rcases List.mem_cons.1 h with rfl | h
      · exact absurd rfl e
      · rw [List.filter_cons_of_pos (by simp [keyNe, e]), List.length_cons, List.length_cons, ih h1.2 h]
/-- Behind the last Set. -/
theorem again_len {m n : Nat} {first : Int} {now : Nat} (h : Held now (manyS m first n)) : (((manyS m first n).filter (keyNe first)).length < 4096) ∧ (setS first 7 (manyS m first n)).length = max 1 (min n 4096) := by
  have hl := (setS_perm first 7 (manyS m first n)).length_eq
  rw [List.length_cons] at hl
  have hm := manyS_len m first n
  rcases Nat.eq_zero_or_pos n with rfl | hn
  · refine ⟨by simp [manyS], ?_⟩
    rw [hl]; simp [manyS]
  · obtain ⟨t, ht⟩ := manyS_first m first n hn
    have := strike_len h.uq ht
    omega
theorem upto_all {S : List Tm} {now : Nat} (h : Held now S) : S.filter (upto MaxT) = S ∧ S.filter (past MaxT) = [] :=
  ⟨List.filter_eq_self.2 fun x hx => decide_eq_true (h.tk x hx).2, List.filter_eq_nil_iff.2 fun x hx => by have := (h.tk x hx).2; unfold past; simp; omega⟩
end Go.Proofs.YtinigpneohogaaaDoor
