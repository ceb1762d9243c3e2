/-
  The reference's 'Right', walked.
-/
import Derived.Test.YtpcdkafjogpdkaaDoorRight3
namespace Go.Proofs.YtpcdkafjogpdkaaDoor
open Go.RowKit

theorem quiet_plus {P : Program} {f : FuncId} {args : Array Value} {W : World} {a x : Nat} {v : Value} (h : Calls P f args (W.drewN (a + x)) fun e w' => e = .returned v ∧ w' = W.drewN (a + x)) :
    Calls P f args (W.drewN (a + x)) fun e w' => e = .returned v ∧ ∃ n, w' = W.drewN (a + n) := h.mono fun _ _ ⟨he, hw⟩ => ⟨he, x, hw⟩
theorem fit_digits {lv dg : Int} (h : fitB (decide (6 < lv)) dg 1 4 = true) : 0 ≤ dg ∧ dg ≤ 4 := by
  unfold fitB at h; split at h
  · have := inB_iff.1 h; omega
  · have : dg = 0 := by simpa using h
    omega

set_option maxHeartbeats 1000000 in
theorem Right_ref (lv y mo d h mi s p dg zn : Int) (z : Bool) (w : World) :
    Calls Tryd.prog 24 #[.agg #[.int .i64 lv, .int .i64 y, .int .i64 mo, .int .i64 d, .int .i64 h, .int .i64 mi, .int .i64 s, .int .i64 p, .int .i64 dg, .bool z, .int .i64 zn]] w fun e w' => e = .returned (.bool (refB lv y mo d h mi s p dg zn z)) ∧ Below w.heap.size w w' := by
  obtain ⟨bz, hz⟩ : ∃ b, fitB z zn (-840) 840 = b := ⟨_, rfl⟩
  by_cases a : lv < 1
  · go_enter Tryd.func24, Tryd.ntmps24
    go_wp2_with (go_at_call 45; refine (between_is (by assumption) _).mono ?_; rintro e w' ⟨rfl, rfl⟩)
    go_ret
    exact ⟨ret_bool (by unfold refB inB; simp; omega), below_box _ _⟩
  by_cases b : 7 < lv
  · go_enter Tryd.func24, Tryd.ntmps24
    go_wp2_with (go_at_call 45; refine (between_is (by assumption) _).mono ?_; rintro e w' ⟨rfl, rfl⟩)
    go_ret
    exact ⟨ret_bool (by unfold refB inB; simp; omega), below_box _ _⟩
  have HL : Hid (inB lv 1 7 = true) := inB_iff.2 (by omega)
  cases hy : fitB true y 1 9999 with
  | false =>
    go_enter Tryd.func24, Tryd.ntmps24
    go_wp2_with (go_at_call 45; refine (between_is (by assumption) _).mono ?_; rintro e w' ⟨rfl, rfl⟩)
    go_ret
    exact ⟨ret_bool (by unfold refB; rw [hy]; simp), below_box _ _⟩
  | true =>
    have y1 : 1 ≤ y := (inB_iff.1 (show inB y 1 9999 = true from hy)).1
    have y2 : y ≤ 100000 := by have := (inB_iff.1 (show inB y 1 9999 = true from hy)).2; omega
    cases hmo : fitB (decide (1 < lv)) mo 1 12 with
    | false =>
      go_enter Tryd.func24, Tryd.ntmps24
      go_wp2_with (go_at_call 45; refine (between_is (by assumption) _).mono ?_; rintro e w' ⟨rfl, rfl⟩)
      go_ret
      exact ⟨ret_bool (by unfold refB; rw [hmo]; simp), below_box _ _⟩
    | true =>
      cases hd : fitB (decide (2 < lv)) d 1 (dim y mo) with
      | false =>
        go_enter Tryd.func24, Tryd.ntmps24
        go_wp2_with (go_at_call 45; refine (between_is (by assumption) _).mono ?_; rintro e w' ⟨rfl, rfl⟩)
        go_quiet ((first | (go_at_call 45; exact Calls.quiet_of_same (between_is (by assumption) _)) | (go_at_call 46; exact Calls.quiet_of_same (Days_any _ _ _ y1 y2))))
        go_wp2_with (go_at_call 45; refine (between_is (by assumption) _).mono ?_; rintro e w' ⟨rfl, rfl⟩)
        go_ret
        exact ⟨ret_bool (by unfold refB; rw [hd]; simp), below_dr (below_box _ _) _⟩
      | true =>
        cases hh : fitB (decide (3 < lv)) h 0 23 with
        | false =>
          go_enter Tryd.func24, Tryd.ntmps24
          go_wp2_with (go_at_call 45; refine (between_is (by assumption) _).mono ?_; rintro e w' ⟨rfl, rfl⟩)
          go_quiet ((first | (go_at_call 45; exact Calls.quiet_of_same (between_is (by assumption) _)) | (go_at_call 46; exact Calls.quiet_of_same (Days_any _ _ _ y1 y2))))
          go_wp2_with (go_at_call 45; refine (between_is (by assumption) _).mono ?_; rintro e w' ⟨rfl, rfl⟩)
          go_ret
          exact ⟨ret_bool (by unfold refB; rw [hh]; simp), below_dr (below_box _ _) _⟩
        | true =>
          cases hmi : fitB (decide (4 < lv)) mi 0 59 with
          | false =>
            go_enter Tryd.func24, Tryd.ntmps24
            go_wp2_with (go_at_call 45; refine (between_is (by assumption) _).mono ?_; rintro e w' ⟨rfl, rfl⟩)
            go_quiet ((first | (go_at_call 45; exact Calls.quiet_of_same (between_is (by assumption) _)) | (go_at_call 46; exact Calls.quiet_of_same (Days_any _ _ _ y1 y2))))
            go_wp2_with (go_at_call 45; refine (between_is (by assumption) _).mono ?_; rintro e w' ⟨rfl, rfl⟩)
            go_ret
            exact ⟨ret_bool (by unfold refB; rw [hmi]; simp), below_dr (below_box _ _) _⟩
          | true =>
            cases hs : fitB (decide (5 < lv)) s 0 59 with
            | false =>
              go_enter Tryd.func24, Tryd.ntmps24
              go_wp2_with (go_at_call 45; refine (between_is (by assumption) _).mono ?_; rintro e w' ⟨rfl, rfl⟩)
              go_quiet ((first | (go_at_call 45; exact Calls.quiet_of_same (between_is (by assumption) _)) | (go_at_call 46; exact Calls.quiet_of_same (Days_any _ _ _ y1 y2))))
              go_wp2_with (go_at_call 45; refine (between_is (by assumption) _).mono ?_; rintro e w' ⟨rfl, rfl⟩)
              go_ret
              exact ⟨ret_bool (by unfold refB; rw [hs]; simp), below_dr (below_box _ _) _⟩
            | true =>
              cases hdg : fitB (decide (6 < lv)) dg 1 4 with
              | false =>
                go_enter Tryd.func24, Tryd.ntmps24
                go_wp2_with (go_at_call 45; refine (between_is (by assumption) _).mono ?_; rintro e w' ⟨rfl, rfl⟩)
                go_quiet ((first | (go_at_call 45; exact Calls.quiet_of_same (between_is (by assumption) _)) | (go_at_call 46; exact Calls.quiet_of_same (Days_any _ _ _ y1 y2))))
                go_wp2_with (go_at_call 45; refine (between_is (by assumption) _).mono ?_; rintro e w' ⟨rfl, rfl⟩)
                go_ret
                exact ⟨ret_bool (by unfold refB; rw [hdg]; simp), below_dr (below_box _ _) _⟩
              | true =>
                have g0 := (fit_digits hdg).1
                have g1 := (fit_digits hdg).2
                have tb := tensB_bd dg
                cases hp : fitB (decide (6 < lv)) p 0 (tensB dg - 1) with
                | false =>
                  go_enter Tryd.func24, Tryd.ntmps24
                  go_wp2_with (go_at_call 45; refine (between_is (by assumption) _).mono ?_; rintro e w' ⟨rfl, rfl⟩)
                  go_quiet ((first | (go_at_call 45; exact Calls.quiet_of_same (between_is (by assumption) _)) | (go_at_call 46; exact Calls.quiet_of_same (Days_any _ _ _ y1 y2))))
                  go_wp2_with (go_at_call 45; refine (between_is (by assumption) _).mono ?_; rintro e w' ⟨rfl, rfl⟩)
                  go_quiet ((first | (go_at_call 45; exact quiet_plus (between_is (by assumption) _)) | (go_at_call 47; exact quiet_plus (power_any _ _ (by omega) (by omega)))))
                  go_wp2_with (go_at_call 45; refine (between_is (by assumption) _).mono ?_; rintro e w' ⟨rfl, rfl⟩)
                  go_ret
                  exact ⟨ret_bool (by unfold refB; rw [hp]; simp), by first | exact below_dr (below_dr (below_box _ _) _) _ | exact below_dr (below_box _ _) _⟩
                | true =>
                  go_enter Tryd.func24, Tryd.ntmps24
                  go_wp2_with (go_at_call 45; refine (between_is (by assumption) _).mono ?_; rintro e w' ⟨rfl, rfl⟩)
                  go_quiet ((first | (go_at_call 45; exact Calls.quiet_of_same (between_is (by assumption) _)) | (go_at_call 46; exact Calls.quiet_of_same (Days_any _ _ _ y1 y2))))
                  go_wp2_with (go_at_call 45; refine (between_is (by assumption) _).mono ?_; rintro e w' ⟨rfl, rfl⟩)
                  go_quiet ((first | (go_at_call 45; exact quiet_plus (between_is (by assumption) _)) | (go_at_call 47; exact quiet_plus (power_any _ _ (by omega) (by omega)))))
                  go_wp2_with (go_at_call 45; refine (between_is (by assumption) _).mono ?_; rintro e w' ⟨rfl, rfl⟩)
                  go_ret
                  exact ⟨ret_bool (by unfold refB; rw [HL.out, hy, hmo, hd, hh, hmi, hs, hdg, hp, hz]; simp), by first | exact below_dr (below_dr (below_box _ _) _) _ | exact below_dr (below_box _ _) _⟩
theorem Right_is {lv y mo d h mi s p dg zn : Int} {z : Bool} {b : Bool} (hb : rightB lv y mo d h mi s p dg zn z = b) (w : World) :
    Calls Tryd.prog 24 #[.agg #[.int .i64 lv, .int .i64 y, .int .i64 mo, .int .i64 d, .int .i64 h, .int .i64 mi, .int .i64 s, .int .i64 p, .int .i64 dg, .bool z, .int .i64 zn]] w fun e w' => e = .returned (.bool b) ∧ Below w.heap.size w w' := by rw [← hb, right_ref]; exact Right_ref lv y mo d h mi s p dg zn z w
end Go.Proofs.YtpcdkafjogpdkaaDoor
