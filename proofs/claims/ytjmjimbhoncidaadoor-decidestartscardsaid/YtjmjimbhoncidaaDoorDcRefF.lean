/-
  The document's fits.
-/
import Derived.Test.YtjmjimbhoncidaaDoorDcRow
namespace Go.Proofs.YtjmjimbhoncidaaDoor
open Go.RowKit

set_option maxHeartbeats 2000000 in
theorem rFits_no (e : Bool) (a p st lf : Int) (w : World) (h : ¬ (1 ≤ st ∧ st ≤ 6 ∧ 0 ≤ lf ∧ lf ≤ 16)) : Calls Tryd.prog 61 #[.agg #[.bool e, .int .i64 a, .int .i64 p], .agg #[.int .i64 st, .int .i64 lf]] w fun r w' => r = .returned (.bool false) ∧ Below w.heap.size w w' := by
  go_enter Tryd.func61, Tryd.ntmps61
  by_cases h1 : st < 1
  · go_wp2_with fail
    all_goals (go_ret; exact ⟨rfl, ((Below.refl _ _).alloc (by simp) _).alloc (by simp) _⟩)
  by_cases h2 : st > 6
  · go_wp2_with fail
    all_goals (go_ret; exact ⟨rfl, ((Below.refl _ _).alloc (by simp) _).alloc (by simp) _⟩)
  by_cases h3 : lf < 0
  · go_wp2_with fail
    all_goals (go_ret; exact ⟨rfl, ((Below.refl _ _).alloc (by simp) _).alloc (by simp) _⟩)
  have h4 : lf > 16 := by omega
  clear h
  go_wp2_with fail
  all_goals (go_ret; exact ⟨rfl, ((Below.refl _ _).alloc (by simp) _).alloc (by simp) _⟩)
set_option maxHeartbeats 2000000 in
theorem rFits_any (e : Bool) (a p st lf : Int) (w : World) : Calls Tryd.prog 61 #[.agg #[.bool e, .int .i64 a, .int .i64 p], .agg #[.int .i64 st, .int .i64 lf]] w fun r w' => r = .returned (.bool (fitB e a p st lf)) ∧ Below w.heap.size w w' := by
  by_cases h : 1 ≤ st ∧ st ≤ 6 ∧ 0 ≤ lf ∧ lf ≤ 16
  · have hf : fitB e a p st lf = (if st = 1 then caB e a else if st = 2 then aaB e p else if st = 3 then earB e a p (caB e a) else if st = 6 then caB e a || aaB e p else true) := by unfold fitB; rw [decide_eq_true h]; rfl
    rw [hf]
    clear hf
    obtain ⟨s1, s2, s3, s4⟩ := h
    have n3 : ¬ lf < 0 := by omega
    have n4 : ¬ lf > 16 := by omega
    obtain ⟨q1, hq1⟩ : ∃ q, caB e a = q := ⟨_, rfl⟩
    obtain ⟨q2, hq2⟩ : ∃ q, aaB e p = q := ⟨_, rfl⟩
    obtain ⟨q3, hq3⟩ : ∃ q, earB e a p q1 = q := ⟨_, rfl⟩
    have c1 : ∀ w, Calls Tryd.prog 50 #[.agg #[.bool e, .int .i64 a, .int .i64 p]] w fun r w' => r = .returned (.bool q1) ∧ Below w.heap.size w w' := fun w => by have := rCommit_any e a p w; rw [hq1] at this; exact this
    have c2 : ∀ w, Calls Tryd.prog 51 #[.agg #[.bool e, .int .i64 a, .int .i64 p]] w fun r w' => r = .returned (.bool q2) ∧ Below w.heap.size w w' := fun w => by have := rApp_any e a p w; rw [hq2] at this; exact this
    have c3 : ∀ w, Calls Tryd.prog 52 #[.agg #[.bool e, .int .i64 a, .int .i64 p], .bool q1] w fun r w' => r = .returned (.bool q3) ∧ Below w.heap.size w w' := fun w => by have := rEar_any e a p q1 w; rw [hq3] at this; exact this
    rw [hq1, hq2, hq3]
    clear hq1 hq2 hq3
    rcases (by omega : st = 1 ∨ st = 2 ∨ st = 3 ∨ st = 4 ∨ st = 5 ∨ st = 6) with rfl | rfl | rfl | rfl | rfl | rfl
    · clear s1 s2
      go_enter Tryd.func61, Tryd.ntmps61
      go_wp2_with fail
      refine (c1 _).mono ?_
      rintro _ w1 ⟨rfl, b1⟩
      have HB1 : Hid (Below w.heap.size w w1) := below_then (((Below.refl _ _).alloc (by simp) _).alloc (by simp) _) b1
      clear b1 c1
      go_wp2_with fail
      go_ret
      exact ⟨rfl, HB1.out⟩
    · clear s1 s2
      go_enter Tryd.func61, Tryd.ntmps61
      go_wp2_with fail
      refine (c2 _).mono ?_
      rintro _ w1 ⟨rfl, b1⟩
      have HB1 : Hid (Below w.heap.size w w1) := below_then (((Below.refl _ _).alloc (by simp) _).alloc (by simp) _) b1
      clear b1 c2
      go_wp2_with fail
      go_ret
      exact ⟨rfl, HB1.out⟩
    · clear s1 s2
      have bx : Box ((w.alloc (.cells #[.bool e, .int .i64 a, .int .i64 p] 23)).alloc (.cells #[.int .i64 3, .int .i64 lf] 50)) w.heap.size #[.bool e, .int .i64 a, .int .i64 p] := (Box.new' w _ _ _ rfl).alloc _
      have bv : Below w.heap.size w ((w.alloc (.cells #[.bool e, .int .i64 a, .int .i64 p] 23)).alloc (.cells #[.int .i64 3, .int .i64 lf] 50)) := ((Below.refl _ _).alloc (by simp) _).alloc (by simp) _
      go_enter Tryd.func61, Tryd.ntmps61
      go_wp2_with fail
      obtain ⟨V, hV⟩ : ∃ V, ((w.alloc (.cells #[.bool e, .int .i64 a, .int .i64 p] 23)).alloc (.cells #[.int .i64 3, .int .i64 lf] 50)) = V := ⟨_, rfl⟩
      rw [hV] at bx bv ⊢
      clear hV
      have l0 := sub_box bx
      have h1 := sub_of (V := V) c1
      have h2 := sub_of (V := V) c3
      have HV : Hid (Below w.heap.size w V) := bv
      haveI hne : Nonempty (Sub V) := ⟨⟨V, Below.refl _ _⟩⟩
      clear c1 c2 c3 bx bv
      refine wp_region_class (V := V) (Below.refl _ _) (by kernel_rfl) (by kernel_rfl) ?_
      repeat (go_big_quiet_step ((first | (go_at_call 50; exact h1 _) | (go_at_call 52; exact h2 _))))
      refine wpQuiet_nil ?_
      rintro wc ⟨xwc, rfl⟩
      have HB : Hid (Below w.heap.size w xwc.1) := below_then HV.out xwc.2
      clear l0 h1 h2 hne
      go_wp2_with fail
      go_ret
      exact ⟨rfl, HB.out⟩
    · clear s1 s2
      go_enter Tryd.func61, Tryd.ntmps61
      go_wp2_with fail
      go_ret
      exact ⟨rfl, ((Below.refl _ _).alloc (by simp) _).alloc (by simp) _⟩
    · clear s1 s2
      go_enter Tryd.func61, Tryd.ntmps61
      go_wp2_with fail
      go_ret
      exact ⟨rfl, ((Below.refl _ _).alloc (by simp) _).alloc (by simp) _⟩
    · clear s1 s2
      go_enter Tryd.func61, Tryd.ntmps61
      go_wp2_with fail
      refine (c1 _).mono ?_
      rintro _ w1 ⟨rfl, b1⟩
      have HB1 : Hid (Below w.heap.size w w1) := below_then (((Below.refl _ _).alloc (by simp) _).alloc (by simp) _) b1
      obtain ⟨l1, k1, _⟩ := ((Box.new' w #[.bool e, .int .i64 a, .int .i64 p] 23 w.heap.size rfl).alloc _).below b1
      clear b1 c1
      cases q1 with
      | true =>
        go_wp2_with fail
        all_goals (go_ret; exact ⟨rfl, HB1.out⟩)
      | false =>
        go_wp2_with fail
        refine (c2 _).mono ?_
        rintro _ w2 ⟨rfl, b2⟩
        have HB2 : Hid (Below w.heap.size w w2) := below_then HB1.out b2
        clear b2 c2 HB1 k1 l1
        go_wp2_with fail
        all_goals (go_ret; exact ⟨rfl, HB2.out⟩)
  · have hf : fitB e a p st lf = false := by unfold fitB; rw [decide_eq_false h]; rfl
    rw [hf]
    exact rFits_no e a p st lf w h
end Go.Proofs.YtjmjimbhoncidaaDoor
