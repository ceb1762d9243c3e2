/-
  which lists a clock meets.
-/
import Derived.Test.YtdglnobapnohmaaDoorWhEmpty
namespace Go.Proofs.YtdglnobapnohmaaDoor
open Go.RowKit

/-- The lists of which p is true are empty. -/
def clrV (p : Nat → Bool) (v : Nat → Value) : Nat → Value := fun i => if p i = true then .slice none 0 0 else v i
def clrL (p : Nat → Bool) (L : Nat → List Tm) : Nat → List Tm := fun i => if p i = true then [] else L i
/-- What lies in the lists of which p is true. -/
def pick (p : Nat → Bool) (L : Nat → List Tm) : List Tm := ((List.range 448).filter p).flatMap L
def rng (a b : Nat) (i : Nat) : Bool := decide (a ≤ i) && decide (i < b)
theorem rng_step {a b : Nat} (h : a ≤ b) : ∀ n, b < n → (List.range n).filter (rng a (b + 1)) = (List.range n).filter (rng a b) ++ [b]
  | 0, hn => by omega
  | n + 1, hn => by
    rw [List.range_succ, List.filter_append, List.filter_append]
    by_cases e : b = n
    · subst e
      have e1 : (List.range b).filter (rng a (b + 1)) = (List.range b).filter (rng a b) := List.filter_congr fun i hi => by
        have := List.mem_range.1 hi
        unfold rng
        rw [decide_eq_true (show i < b + 1 by omega), decide_eq_true this]
      have e2 : [b].filter (rng a (b + 1)) = [b] := by simp [rng, h]
      have e3 : [b].filter (rng a b) = [] := by simp [rng]
      rw [e1, e2, e3, List.append_nil]
    · rw [rng_step h n (by omega)]
      have e2 : [n].filter (rng a (b + 1)) = [] := by simp [rng]; omega
      have e3 : [n].filter (rng a b) = [] := by simp [rng]; omega
      rw [e2, e3, List.append_nil, List.append_nil]
theorem rng_self (a : Nat) (l : List Nat) : l.filter (rng a a) = [] := List.filter_eq_nil_iff.2 fun i _ => by unfold rng; simp
theorem btw_pick (L : Nat → List Tm) (a : Nat) : ∀ d, a + d ≤ 448 → btw L a (a + d) = pick (rng a (a + d)) L
  | 0, _ => by
    show btw L a a = ((List.range 448).filter (rng a a)).flatMap L
    rw [btw_self, rng_self]; rfl
  | d + 1, h => by
    unfold pick
    rw [← Nat.add_assoc, btw_step L (by omega), rng_step (by omega) 448 (by omega), List.flatMap_append, btw_pick L a d (by omega)]
    simp [pick]
theorem filter_or_perm (p r : Nat → Bool) (hd : ∀ i, p i = true → r i = true → False) : ∀ l : List Nat, (l.filter fun i => p i || r i).Perm (l.filter p ++ l.filter r)
  | [] => List.Perm.refl _
  | x :: l => by
    have ih := filter_or_perm p r hd l
    cases hp : p x with
    | true =>
      have hr : r x = false := by
        cases hr : r x with
        | false => rfl
        | true => exact (hd x hp hr).elim
      rw [List.filter_cons_of_pos (by simp [hp]), List.filter_cons_of_pos hp, List.filter_cons_of_neg (by simp [hr])]
      exact ih.cons x
    | false =>
      cases hr : r x with
      | true =>
        rw [List.filter_cons_of_pos (by simp [hr]), List.filter_cons_of_neg (by simp [hp]), List.filter_cons_of_pos hr]
        exact (ih.cons x).trans List.perm_middle.symm
      | false =>
        rw [List.filter_cons_of_neg (by simp [hp, hr]), List.filter_cons_of_neg (by simp [hp]), List.filter_cons_of_neg (by simp [hr])]
        exact ih
theorem pick_or {p r : Nat → Bool} (L : Nat → List Tm) (hd : ∀ i, p i = true → r i = true → False) : (pick (fun i => p i || r i) L).Perm (pick p L ++ pick r L) := by
  unfold pick
  rw [← List.flatMap_append]
  exact (filter_or_perm p r hd _).flatMap_right L
theorem pick_le (p : Nat → Bool) (L : Nat → List Tm) : (pick p L).length ≤ (pick (fun _ => true) L).length := by
  have h := (pick_or (p := p) (r := fun i => !p i) L (fun i a b => by simp [a] at b)).length_eq
  have e : (fun i => p i || !p i) = fun _ => true := by funext i; simp
  rw [e, List.length_append] at h
  omega
theorem clr_cutV (p : Nat → Bool) (v : Nat → Value) (a b : Nat) : cutV (clrV p v) a b = clrV (fun i => p i || rng a b i) v := by
  funext i
  unfold cutV clrV rng
  by_cases h : a ≤ i ∧ i < b
  · rw [if_pos h, if_pos (by simp [h.1, h.2])]
  · rw [if_neg h]
    have : (decide (a ≤ i) && decide (i < b)) = false := by simp; omega
    simp only [this, Bool.or_false]
theorem clr_cutL (p : Nat → Bool) (L : Nat → List Tm) (a b : Nat) : cutL (clrL p L) a b = clrL (fun i => p i || rng a b i) L := by
  funext i
  unfold cutL clrL rng
  by_cases h : a ≤ i ∧ i < b
  · rw [if_pos h, if_pos (by simp [h.1, h.2])]
  · rw [if_neg h]
    have : (decide (a ≤ i) && decide (i < b)) = false := by simp; omega
    simp only [this, Bool.or_false]
theorem clr_ft {T M q : Nat} {p : Nat → Bool} {v : Nat → Value} (h : Ft T M (clrV p v) q) : Ft T M v q := by
  rcases h with h | h | ⟨i, hi, e⟩
  · exact Or.inl h
  · exact Or.inr (Or.inl h)
  · unfold clrV at e
    split at e
    · cases e
    · exact Or.inr (Or.inr ⟨i, hi, e⟩)
theorem clr_btw {p : Nat → Bool} {L : Nat → List Tm} {a b : Nat} (h : ∀ i, a ≤ i → i < b → p i = false) : btw (clrL p L) a b = btw L a b := by
  unfold btw
  have : ∀ d ∈ List.range (b - a), clrL p L (a + d) = L (a + d) := fun d hd => by
    have := List.mem_range.1 hd
    unfold clrL
    rw [h (a + d) (by omega) (by omega)]
    rfl
  rw [List.flatMap_def, List.flatMap_def, List.map_congr_left this]
/-- The levels below q, behind the clock's digits. -/
def mq (now q i : Nat) : Bool := decide (i / 64 < q) && decide (dig now (i / 64) < i % 64)
theorem mq_step (now q : Nat) : (fun i => mq now q i || rng (64 * q + (dig now q + 1)) (64 * q + 63 + 1) i) = mq now (q + 1) := by
  funext i
  unfold mq rng
  have hd := dig_lt now q
  by_cases h : i / 64 = q
  · subst h
    rw [decide_eq_false (Nat.lt_irrefl _), decide_eq_true (Nat.lt_succ_self _), decide_eq_true (show i < 64 * (i / 64) + 63 + 1 by omega)]
    by_cases h2 : dig now (i / 64) < i % 64
    · rw [decide_eq_true h2, decide_eq_true (by omega)]; rfl
    · rw [decide_eq_false h2, decide_eq_false (by omega)]; rfl
  · have e : (decide (64 * q + (dig now q + 1) ≤ i) && decide (i < 64 * q + 63 + 1)) = false := by simp; omega
    rw [e, Bool.or_false]
    have : decide (i / 64 < q) = decide (i / 64 < q + 1) := by
      by_cases h2 : i / 64 < q
      · rw [decide_eq_true h2, decide_eq_true (by omega)]
      · rw [decide_eq_false h2, decide_eq_false (by omega)]
    rw [this]
theorem mq_last (now to_ : Nat) : (fun i => mq now (lev now to_) i || rng (64 * lev now to_ + (dig now (lev now to_) + 1)) (64 * lev now to_ + dig to_ (lev now to_) + 1) i) = met now to_ := by
  funext i
  unfold mq rng met
  have hd := dig_lt to_ (lev now to_)
  by_cases h : i / 64 = lev now to_
  · rw [← h] at hd ⊢
    rw [decide_eq_false (Nat.lt_irrefl _), decide_eq_true (rfl : i / 64 = i / 64)]
    simp only [Bool.false_and, Bool.false_or, Bool.true_and]
    by_cases h2 : dig now (i / 64) < i % 64
    · by_cases h3 : i % 64 ≤ dig to_ (i / 64)
      · rw [decide_eq_true h2, decide_eq_true h3, decide_eq_true (by omega), decide_eq_true (by omega)]
      · rw [decide_eq_true h2, decide_eq_false h3, decide_eq_true (by omega), decide_eq_false (by omega)]
    · rw [decide_eq_false h2, decide_eq_false (by omega)]; simp
  · have e : (decide (64 * lev now to_ + (dig now (lev now to_) + 1) ≤ i) && decide (i < 64 * lev now to_ + dig to_ (lev now to_) + 1)) = false := by simp; omega
    rw [e, Bool.or_false, decide_eq_false h]
    simp
end Go.Proofs.YtdglnobapnohmaaDoor
