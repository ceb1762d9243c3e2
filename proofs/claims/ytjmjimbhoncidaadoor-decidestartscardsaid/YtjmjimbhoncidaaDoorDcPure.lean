/-
  What a run of the initiator keeps: of no program.
-/
import Derived.Test.YtjmjimbhoncidaaDoorDcOk
namespace Go.Proofs.YtjmjimbhoncidaaDoor
open Go.RowKit

/-- How many acts are of a kind. -/
def cnt (k : Int) (l : ActL) : Int := ((l.filter fun y => y.1 == k).length : Nat)
theorem cnt_bd (k : Int) (l : ActL) : 0 ≤ cnt k l ∧ cnt k l ≤ l.length := by
  unfold cnt
  exact ⟨by omega, by have := List.length_filter_le (fun y : Int × ByteArray => y.1 == k) l; omega⟩
theorem cnt_snoc (k : Int) (l : ActL) (y : Int × ByteArray) : cnt k (l ++ [y]) = cnt k l + (if y.1 = k then 1 else 0) := by
  unfold cnt
  rw [List.filter_append]
  by_cases h : y.1 = k <;> simp [h]
/-- How many Dues it takes at most. -/
def need (st lf : Int) : Int := if 4 ≤ st then 0 else if st = 3 then 1 else lf + 1
structure RunOk (e : Bool) (a p st lf : Int) (x : Ans) : Prop where
  n : x.n = 0
  fit : fitB e a p x.st x.lf = true
  sends : x.lf = lf - cnt 1 x.l
  stays : 4 ≤ st → x.st = st ∧ x.lf = lf
  fin : cnt 4 x.l = (if st < 4 ∧ 4 ≤ x.st then 1 else 0)
  len : x.l.length ≤ 3
theorem fit_4 (e : Bool) (a p lf : Int) (h : 0 ≤ lf ∧ lf ≤ 16) : fitB e a p 4 lf = true := by unfold fitB; simp; omega
theorem fit_5 (e : Bool) (a p lf : Int) (h : 0 ≤ lf ∧ lf ≤ 16) : fitB e a p 5 lf = true := by unfold fitB; simp; omega
theorem fit_less {e : Bool} {a p st lf : Int} (h : fitB e a p st lf = true) (h0 : 0 < lf) : fitB e a p st (lf - 1) = true := by
  have hl := fit_left h
  unfold fitB at h ⊢
  rw [Bool.and_eq_true] at h ⊢
  exact ⟨decide_eq_true (by omega), h.2⟩
theorem sent_ca {e : Bool} {a p : Int} {s : ByteArray} (g : (s.toList == [67, 65]) = true) (h : sentB e a p s = true) : caB e a = true := by
  rcases code_cases s with rfl | rfl | rfl | rfl | rfl | rfl | ⟨k, _⟩
  · rw [sent_1] at h; exact h
  iterate 5 (rw [Lib.toList_data] at g; simp at g)
  · rw [k.h1] at g; cases g
theorem heardS_run {e : Bool} {a p st lf : Int} {s : ByteArray} {number : Bool} (q1 : okB e a p = true) (q2 : fitB e a p st lf = true) : RunOk e a p st lf (heardS e a p st lf s number) := by
  have hl := fit_left q2
  unfold heardS
  rw [if_neg (by simp [q1]), if_neg (by simp [q2])]
  by_cases h0 : (decide (4 ≤ st) || !sentB e a p s) = true
  · rw [if_pos h0]
    exact ⟨rfl, q2, by simp [cnt], fun _ => ⟨rfl, rfl⟩, by simp [cnt] <;> omega, by simp⟩
  rw [if_neg h0]
  have h4 : ¬ 4 ≤ st := fun h => h0 (by simp [h])
  have q3 : sentB e a p s = true := by cases h : sentB e a p s with
    | true => rfl
    | false => exact absurd (by simp [h]) h0
  by_cases g1 : (s.toList == [67, 65]) = true
  · rw [if_pos g1]
    have hca := sent_ca g1 q3
    by_cases h1 : st = 1
    · rw [if_pos h1]
      by_cases h2 : aaB e p = true
      · rw [if_pos h2]
        exact ⟨rfl, by unfold fitB; simp [h2]; omega, by simp [cnt], fun h => absurd h h4, by simp [cnt], by simp⟩
      · rw [if_neg h2]
        by_cases h3 : p = 2
        · rw [if_pos h3]
          refine ⟨rfl, ?_, by simp [cnt], fun h => absurd h h4, by simp [cnt], by simp⟩
          have h2' : aaB e p = false := by simpa using h2
          unfold fitB earB; rw [hca, h2']; simp [h3]; omega
        · rw [if_neg h3]
          exact ⟨rfl, fit_4 _ _ _ _ hl.2.2, by simp [cnt], fun h => absurd h h4, by simp [cnt] <;> omega, by simp⟩
    · rw [if_neg h1]
      exact ⟨rfl, q2, by simp [cnt], fun _ => ⟨rfl, rfl⟩, by simp [cnt] <;> omega, by simp⟩
  · rw [if_neg g1]
    by_cases g2 : (number && (s.toList == [67, 69] || s.toList == [65, 69])) = true
    · rw [if_pos g2]
      by_cases g3 : (caB e a && !decide (st = 1)) = true
      · rw [if_pos g3]
        exact ⟨rfl, q2, by simp [cnt], fun _ => ⟨rfl, rfl⟩, by simp [cnt] <;> omega, by simp⟩
      · rw [if_neg g3]
        by_cases h3 : 0 < lf
        · rw [if_pos h3]
          exact ⟨rfl, fit_less q2 h3, by simp [cnt], fun h => absurd h h4, by simp [cnt] <;> omega, by simp⟩
        · rw [if_neg h3]
          exact ⟨rfl, fit_4 _ _ _ _ hl.2.2, by simp [cnt], fun h => absurd h h4, by simp [cnt] <;> omega, by simp⟩
    · rw [if_neg g2]
      exact ⟨rfl, fit_4 _ _ _ _ hl.2.2, by simp [cnt], fun h => absurd h h4, by simp [cnt] <;> omega, by simp⟩
theorem dueS_run {e : Bool} {a p st lf : Int} (q1 : okB e a p = true) (q2 : fitB e a p st lf = true) : RunOk e a p st lf (dueS e a p st lf) ∧ (need (dueS e a p st lf).st (dueS e a p st lf).lf ≤ need st lf - 1 ∨ 4 ≤ (dueS e a p st lf).st) := by
  have hl := fit_left q2
  unfold dueS
  rw [if_neg (by simp [q1]), if_neg (by simp [q2])]
  by_cases h4 : 4 ≤ st
  · rw [if_pos h4]
    exact ⟨⟨rfl, q2, by simp [cnt], fun _ => ⟨rfl, rfl⟩, by simp [cnt] <;> omega, by simp⟩, Or.inr h4⟩
  rw [if_neg h4]
  by_cases h3 : st = 3
  · rw [if_pos h3]
    exact ⟨⟨rfl, fit_5 _ _ _ _ hl.2.2, by simp [cnt], fun h => absurd h h4, by simp [cnt] <;> omega, by simp⟩, Or.inr (by simp)⟩
  rw [if_neg h3]
  by_cases h0 : 0 < lf
  · rw [if_pos h0]
    refine ⟨⟨rfl, fit_less q2 h0, by simp [cnt], fun h => absurd h h4, by simp [cnt] <;> omega, by simp⟩, Or.inl ?_⟩
    unfold need; simp only [h4, h3, if_false]; omega
  · rw [if_neg h0]
    refine ⟨⟨rfl, ?_, by simp [cnt] <;> omega, fun h => absurd h h4, by simp [cnt] <;> omega, by simp⟩, Or.inr (by simp)⟩
    have hk : caB e a = true ∨ aaB e p = true := by
      unfold fitB at q2
      rw [Bool.and_eq_true] at q2
      have h2 := q2.2
      by_cases h1 : st = 1
      · rw [if_pos h1] at h2; exact Or.inl h2
      · rw [if_neg h1, if_pos (by omega)] at h2; exact Or.inr h2
    unfold fitB
    rcases hk with k | k <;> simp [k]
theorem need_bd {e : Bool} {a p st lf : Int} (h : fitB e a p st lf = true) : 0 ≤ need st lf ∧ need st lf ≤ lf + 1 ∧ (need st lf ≤ 0 → 4 ≤ st) := by
  have hl := fit_left h
  unfold need
  split
  · exact ⟨by omega, by omega, fun _ => by assumption⟩
  · split
    · exact ⟨by omega, by omega, fun h => by omega⟩
    · exact ⟨by omega, by omega, fun h => by omega⟩
/-- A start. -/
theorem startS_run {e : Bool} {a p t : Int} {noted : Bool} (q1 : okB e a p = true) (ht : 0 ≤ t ∧ t ≤ 16) (hn : noted = true → caB e a = true) : (startS e a p t noted).n = 0 ∧ (startS e a p t noted).lf = t ∧ fitB e a p (startS e a p t noted).st t = true ∧ cnt 4 (startS e a p t noted).l = (if 4 ≤ (startS e a p t noted).st then 1 else 0) ∧ (startS e a p t noted).l.length ≤ 3 := by
  unfold startS
  rw [if_neg (by simp [q1]), if_neg (by omega)]
  have g : ¬ (noted && !caB e a) = true := by
    cases hx : noted with
    | false => simp
    | true => simp [hn hx]
  rw [if_neg g]
  by_cases h1 : (caB e a && !noted) = true
  · rw [if_pos h1]
    rw [Bool.and_eq_true] at h1
    exact ⟨rfl, rfl, by unfold fitB; simp [h1.1]; omega, by simp [cnt], by simp⟩
  rw [if_neg h1]
  by_cases h2 : aaB e p = true
  · rw [if_pos h2]
    exact ⟨rfl, rfl, by unfold fitB; simp [h2]; omega, by simp [cnt], by simp⟩
  rw [if_neg h2]
  by_cases h3 : earB e a p noted = true
  · rw [if_pos h3]
    refine ⟨rfl, rfl, ?_, by simp [cnt], by simp⟩
    have hc : caB e a = noted := by
      cases hx : caB e a <;> cases hy : noted
      · rfl
      · rw [hn hy] at hx; cases hx
      · rw [hx, hy] at h1; simp at h1
      · rfl
    unfold fitB; rw [hc, h3]; simp; omega
  rw [if_neg h3]
  by_cases h4 : noted = true
  · rw [if_pos h4]
    exact ⟨rfl, rfl, fit_4 _ _ _ _ ht, by simp [cnt], by simp⟩
  · rw [if_neg h4]
    exact ⟨rfl, rfl, fit_5 _ _ _ _ ht, by simp [cnt], by simp⟩
end Go.Proofs.YtjmjimbhoncidaaDoor
