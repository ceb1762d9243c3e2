/-
  The program's refuse, refusal, areTries, owedBy, sent, begin.
-/
import Derived.Test.YtjmjimbhoncidaaDoorDcPa
namespace Go.Proofs.YtjmjimbhoncidaaDoor
open Go.RowKit

theorem isCond_any (n : Int) (w : World) : Calls Tryd.prog 63 #[.int .i64 n] w fun r w' => r = .returned (.bool (decide (0 ≤ n) && decide (n < 4))) ∧ w' = w := by
  go_enter Tryd.func63, Tryd.ntmps63
  go_wp2
  all_goals (go_ret; exact ⟨ret_bool (by rw [Bool.eq_iff_iff]; simp; try (first | omega | (intros; omega))), rfl⟩)
theorem areTries_any (n : Int) (w : World) : Calls Tryd.prog 53 #[.int .i64 n] w fun r w' => r = .returned (.bool (decide (0 ≤ n ∧ n ≤ 16))) ∧ w' = w := by
  go_enter Tryd.func53, Tryd.ntmps53
  go_wp2
  all_goals (go_ret; exact ⟨ret_bool (by rw [Bool.eq_iff_iff]; simp; try (first | omega | (intros; omega))), rfl⟩)
theorem refusal_any (e h : Bool) (w : World) : Calls Tryd.prog 46 #[.bool e, .bool h] w fun r w' => r = .returned (.string (refC e h)) ∧ w' = w := by
  cases e <;> cases h
  all_goals
    go_enter Tryd.func46, Tryd.ntmps46
    go_wp2
    all_goals (go_ret; exact ⟨rfl, rfl⟩)
set_option maxHeartbeats 1000000 in
theorem refuse_ok (e : Bool) (a p : Int) (w : World) (h : okB e a p = true) : Calls Tryd.prog 44 #[.agg #[.bool e, .int .i64 a, .int .i64 p]] w fun r w' => r = .returned .nilIface ∧ Below w.heap.size w w' := by
  obtain ⟨h1, h2, h3, h4, h5⟩ := ok_of h
  have c1 : ∀ w, Calls Tryd.prog 63 #[.int .i64 a] w fun r w' => r = .returned (.bool true) ∧ w' = w := fun w => by
    have := isCond_any a w; rw [show (decide (0 ≤ a) && decide (a < 4)) = true by simp; omega] at this; exact this
  have c2 : ∀ w, Calls Tryd.prog 63 #[.int .i64 p] w fun r w' => r = .returned (.bool true) ∧ w' = w := fun w => by
    have := isCond_any p w; rw [show (decide (0 ≤ p) && decide (p < 4)) = true by simp; omega] at this; exact this
  clear h
  cases e with
  | true =>
    clear h1 h2 h3 h4 h5
    go_enter Tryd.func44, Tryd.ntmps44
    go_wp2_with fail
    refine (c1 _).mono ?_
    rintro _ w1 ⟨rfl, rfl⟩
    go_wp2_with fail
    refine (c2 _).mono ?_
    rintro _ w2 ⟨rfl, rfl⟩
    go_wp2_with fail
    go_ret
    exact ⟨rfl, (Below.refl _ _).alloc (Nat.le_refl _) _⟩
  | false =>
    obtain ⟨rfl, rfl⟩ : a = 0 ∧ p = 0 := by rcases h5 with h5 | h5; cases h5; exact h5
    clear h1 h2 h3 h4 h5 c1 c2
    go_enter Tryd.func44, Tryd.ntmps44
    go_wp2_with fail
    go_ret
    exact ⟨rfl, (Below.refl _ _).alloc (Nat.le_refl _) _⟩
set_option maxHeartbeats 1000000 in
theorem refuse_no (e : Bool) (a p : Int) (w : World) (h : okB e a p = false) : Calls Tryd.prog 44 #[.agg #[.bool e, .int .i64 a, .int .i64 p]] w (FltQ 0 220 w) := by
  have fl := pfault_ex 0 220
  have ho : ¬ (0 ≤ a ∧ a ≤ 3 ∧ 0 ≤ p ∧ p ≤ 3 ∧ (e = true ∨ (a = 0 ∧ p = 0))) := fun g => by
    have : okB e a p = true := by unfold okB; obtain ⟨g1, g2, g3, g4, g5⟩ := g; simp [g1, g2, g3, g4]; exact g5
    rw [h] at this; cases this
  clear h
  have i1 := isCond_any a
  have i2 := isCond_any p
  cases e with
  | true =>
    cases ha : (decide (0 ≤ a) && decide (a < 4)) with
    | false =>
      rw [ha] at i1
      clear i2 ho ha
      go_enter Tryd.func44, Tryd.ntmps44
      go_wp2_with fail
      refine (i1 _).mono ?_
      rintro _ w1 ⟨rfl, rfl⟩
      go_wp2_with fail
      refine (fl _).mono ?_
      rintro _ w2 ⟨b, rfl, hf, hb⟩
      have HF : Hid (DFault w2 b 0 220 ∧ Below _ _ w2) := ⟨hf, hb⟩
      clear hf hb
      go_wp2_with fail
      go_ret
      exact ⟨_, rfl, HF.out.1, below_then ((Below.refl _ _).alloc (Nat.le_refl _) _) HF.out.2⟩
    | true =>
      have hp : (decide (0 ≤ p) && decide (p < 4)) = false := by simp at ha ⊢; intro; false_or_by_contra; exact ho ⟨by omega, by omega, by omega, by omega, Or.inl rfl⟩
      rw [ha] at i1
      rw [hp] at i2
      clear ho ha hp
      go_enter Tryd.func44, Tryd.ntmps44
      go_wp2_with fail
      refine (i1 _).mono ?_
      rintro _ w1 ⟨rfl, rfl⟩
      go_wp2_with fail
      refine (i2 _).mono ?_
      rintro _ w1 ⟨rfl, rfl⟩
      go_wp2_with fail
      refine (fl _).mono ?_
      rintro _ w2 ⟨b, rfl, hf, hb⟩
      have HF : Hid (DFault w2 b 0 220 ∧ Below _ _ w2) := ⟨hf, hb⟩
      clear hf hb
      go_wp2_with fail
      go_ret
      exact ⟨_, rfl, HF.out.1, below_then ((Below.refl _ _).alloc (Nat.le_refl _) _) HF.out.2⟩
  | false =>
    clear i1 i2
    by_cases ha : a = 0
    · subst ha
      have hp : ¬ p = 0 := fun g => ho (by subst g; exact ⟨by omega, by omega, by omega, by omega, Or.inr ⟨rfl, rfl⟩⟩)
      clear ho
      go_enter Tryd.func44, Tryd.ntmps44
      go_wp2_with fail
      refine (fl _).mono ?_
      rintro _ w2 ⟨b, rfl, hf, hb⟩
      have HF : Hid (DFault w2 b 0 220 ∧ Below _ _ w2) := ⟨hf, hb⟩
      clear hf hb
      go_wp2_with fail
      go_ret
      exact ⟨_, rfl, HF.out.1, below_then ((Below.refl _ _).alloc (Nat.le_refl _) _) HF.out.2⟩
    · clear ho
      go_enter Tryd.func44, Tryd.ntmps44
      go_wp2_with fail
      refine (fl _).mono ?_
      rintro _ w2 ⟨b, rfl, hf, hb⟩
      have HF : Hid (DFault w2 b 0 220 ∧ Below _ _ w2) := ⟨hf, hb⟩
      clear hf hb
      go_wp2_with fail
      go_ret
      exact ⟨_, rfl, HF.out.1, below_then ((Below.refl _ _).alloc (Nat.le_refl _) _) HF.out.2⟩
set_option maxHeartbeats 1000000 in
theorem sent_no (e : Bool) (a p k : Int) (s : ByteArray) (w : World) (hV : PVc w) (h : sentB e a p s = false) : Calls Tryd.prog 55 #[.agg #[.bool e, .int .i64 a, .int .i64 p], .int .i64 k, .string s] w fun r w' => r = .returned (.slice none 0 0) ∧ Below w.heap.size w w' := by
  have c1 := may_any e a p s _ (hV.below ((Below.refl _ w).alloc (Nat.le_refl _) (.cells #[.bool e, .int .i64 a, .int .i64 p] 23)))
  rw [h] at c1
  clear hV h
  go_enter Tryd.func55, Tryd.ntmps55
  go_wp2_with fail
  refine c1.mono ?_
  rintro _ w1 ⟨rfl, b1⟩
  have HB1 : Hid (Below w.heap.size w w1) := below_then ((Below.refl _ _).alloc (Nat.le_refl _) _) b1
  clear b1 c1
  go_wp2_with fail
  go_ret
  exact ⟨rfl, HB1.out⟩
set_option maxHeartbeats 1000000 in
theorem sent_yes (e : Bool) (a p k : Int) (s : ByteArray) (w : World) (hV : PVc w) (h : sentB e a p s = true) : Calls Tryd.prog 55 #[.agg #[.bool e, .int .i64 a, .int .i64 p], .int .i64 k, .string s] w fun r w' => ∃ b, r = .returned (.slice (some ⟨b, 0, none⟩) 1 1) ∧ ActRow w' w.heap.size (.slice (some ⟨b, 0, none⟩) 1 1) [(k, s)] ∧ Below w.heap.size w w' := by
  have c1 := may_any e a p s _ (hV.below ((Below.refl _ w).alloc (Nat.le_refl _) (.cells #[.bool e, .int .i64 a, .int .i64 p] 23)))
  rw [h] at c1
  clear hV h
  go_enter Tryd.func55, Tryd.ntmps55
  go_wp2_with fail
  refine c1.mono ?_
  rintro _ w1 ⟨rfl, b1⟩
  have HB1 : Hid (Below w.heap.size w w1) := below_then ((Below.refl _ _).alloc (Nat.le_refl _) _) b1
  clear b1 c1
  go_wp2_with fail
  go_ret
  exact ⟨_, rfl, ActRow.lit' _ _ [(k, s)] w1.heap.size 1 _ (by simp) HB1.out.size rfl rfl (by simp) (by simp), HB1.out.alloc HB1.out.size _⟩
end Go.Proofs.YtjmjimbhoncidaaDoor
