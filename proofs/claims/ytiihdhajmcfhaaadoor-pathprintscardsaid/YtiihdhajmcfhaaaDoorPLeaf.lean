/-
  Path's leaves: letters, digits, names, right places; the program's and the document's.
-/
import Derived.Test.YtiihdhajmcfhaaaDoorLeaf
namespace Go.Proofs.YtiihdhajmcfhaaaDoor
open Go.RowKit

set_option maxHeartbeats 400000 in
theorem isLetter_any (c : Nat) (w : World) : Calls Tryd.prog 32 #[.int .u8 (c : Int)] w fun e w' => e = .returned (.bool (isL c)) ∧ w' = w := by
  go_enter Tryd.func32, Tryd.ntmps32
  go_wp2
  all_goals (go_ret; exact ⟨ret_bool (by unfold isL; rw [Bool.eq_iff_iff]; simp; omega), rfl⟩)
set_option maxHeartbeats 400000 in
theorem isDigit_any (c : Nat) (w : World) : Calls Tryd.prog 33 #[.int .u8 (c : Int)] w fun e w' => e = .returned (.bool (isD c)) ∧ w' = w := by
  go_enter Tryd.func33, Tryd.ntmps33
  go_wp2
  all_goals (go_ret; exact ⟨ret_bool (by unfold isD; rw [Bool.eq_iff_iff]; simp; omega), rfl⟩)
set_option maxHeartbeats 400000 in
theorem capital_any (c : Nat) (w : World) : Calls Tryd.prog 38 #[.int .u8 (c : Int)] w fun e w' => e = .returned (.bool (isL c)) ∧ w' = w := by
  go_enter Tryd.func38, Tryd.ntmps38
  go_wp2
  all_goals (go_ret; exact ⟨ret_bool (by unfold isL; rw [Bool.eq_iff_iff]; simp; omega), rfl⟩)
set_option maxHeartbeats 400000 in
theorem within_any (n m : Int) (w : World) : Calls Tryd.prog 18 #[.int .i64 n, .int .i64 m] w fun e w' => e = .returned (.bool (inR n m)) ∧ w' = w := by
  go_enter Tryd.func18, Tryd.ntmps18
  go_wp2
  all_goals (go_ret; exact ⟨ret_bool (by unfold inR; rw [Bool.eq_iff_iff]; simp; try omega), rfl⟩)
set_option maxHeartbeats 400000 in
theorem between_any (n m : Int) (w : World) : Calls Tryd.prog 21 #[.int .i64 n, .int .i64 m] w fun e w' => e = .returned (.bool (inR n m)) ∧ w' = w := by
  go_enter Tryd.func21, Tryd.ntmps21
  go_wp2
  all_goals (go_ret; exact ⟨ret_bool (by unfold inR; rw [Bool.eq_iff_iff]; simp; try omega), rfl⟩)
set_option maxHeartbeats 400000 in
theorem stands_any (c i : Nat) (w : World) : Calls Tryd.prog 27 #[.int .u8 (c : Int), .int .i64 (i : Int)] w fun e w' => e = .returned (.bool (isL c || (decide (0 < i) && isD c))) ∧ w' = w := by
  obtain ⟨q, hq⟩ : ∃ q, isL c = q := ⟨_, rfl⟩
  have hc : ∀ w, Calls Tryd.prog 38 #[.int .u8 (c : Int)] w fun e w' => e = .returned (.bool q) ∧ w' = w := fun w => by have := capital_any c w; rw [hq] at this; exact this
  rw [hq]
  clear hq
  cases q with
  | true =>
    go_enter Tryd.func27, Tryd.ntmps27
    go_wp2_with (go_at_call 38; refine (hc _).mono ?_; rintro e w' ⟨rfl, rfl⟩)
    go_ret
    exact ⟨rfl, rfl⟩
  | false =>
    go_enter Tryd.func27, Tryd.ntmps27
    go_wp2_with (go_at_call 38; refine (hc _).mono ?_; rintro e w' ⟨rfl, rfl⟩)
    all_goals (go_ret; exact ⟨ret_bool (by unfold isD; rw [Bool.eq_iff_iff]; simp; omega), rfl⟩)

set_option maxHeartbeats 1000000 in
theorem named_any (s : ByteArray) (w : World) : Calls Tryd.prog 25 #[.string s] w fun e w' => e = .returned (.int .i64 (nmC s : Int)) ∧ w' = w := by
  go_enter Tryd.func25, Tryd.ntmps25
  go_wp2
  go_loopw [3] (fun t3 wx => ∃ k : Nat, k ≤ 3 ∧ t3 = .int .i64 k ∧ Hid ((∀ j, j < k → nmAt s j = true) ∧ wx = w)) (fun t3 _ => 3 - (intOf t3).toNat)
  case atStart => exact ⟨0, by omega, rfl, fun _ h => absurd h (by omega), rfl⟩
  case round =>
    obtain ⟨k, hk, rfl, HK⟩ := hrel
    by_cases hlt : k < 3
    · have hlti : (k : Int) < 3 := by omega
      by_cases hz : k < s.size
      · have hzi : (k : Int) < s.size := by omega
        have hb := bt_in hz
        obtain ⟨q, hq⟩ : ∃ q, isL (bt s k) = q := ⟨_, rfl⟩
        have hc : ∀ w, Calls Tryd.prog 32 #[.int .u8 (s[k].toNat : Int)] w fun e w' => e = .returned (.bool q) ∧ w' = w := fun w => by have := isLetter_any (s[k].toNat) w; rw [← hb, hq] at this; rw [← hb]; exact this
        obtain ⟨d, hd⟩ : ∃ d, isD (bt s k) = d := ⟨_, rfl⟩
        have hc2 : ∀ w, Calls Tryd.prog 33 #[.int .u8 (s[k].toNat : Int)] w fun e w' => e = .returned (.bool d) ∧ w' = w := fun w => by have := isDigit_any (s[k].toNat) w; rw [← hb, hd] at this; rw [← hb]; exact this
        have HN : Hid (nmAt s k = (q || (decide (0 < k) && d))) := by unfold Hid nmAt; rw [hq, hd]
        clear hq hd hb
        cases q with
        | true =>
          go_wp2_with (go_at_call 32; refine (hc _).mono ?_; rintro e w' ⟨rfl, rfl⟩)
          go_roundw
          case rel => exact ⟨k + 1, by omega, by go_num, fun j hj => by
              by_cases e : j = k
              · subst e; rw [HN.out]; rfl
              · exact HK.out.1 j (by omega), HK.out.2⟩
          case measure => simp [intOf]; omega
        | false =>
          by_cases h0 : 0 < k
          · have h0i : (0 : Int) < k := by omega
            cases d with
            | true =>
              go_wp2_with (first | (go_at_call 32; refine (hc _).mono ?_; rintro e w' ⟨rfl, rfl⟩) | (go_at_call 33; refine (hc2 _).mono ?_; rintro e w' ⟨rfl, rfl⟩))
              go_roundw
              case rel => exact ⟨k + 1, by omega, by go_num, fun j hj => by
                  by_cases e : j = k
                  · subst e; rw [HN.out]; simp [h0]
                  · exact HK.out.1 j (by omega), HK.out.2⟩
              case measure => simp [intOf]; omega
            | false =>
              go_wp2_with (first | (go_at_call 32; refine (hc _).mono ?_; rintro e w' ⟨rfl, rfl⟩) | (go_at_call 33; refine (hc2 _).mono ?_; rintro e w' ⟨rfl, rfl⟩))
              go_ret
              exact ⟨ret_int (by rw [nmC_is hk HK.out.1 (fun _ => by rw [HN.out]; simp)]), HK.out.2⟩
          · have h0i : ¬ (0 : Int) < k := by omega
            go_wp2_with (go_at_call 32; refine (hc _).mono ?_; rintro e w' ⟨rfl, rfl⟩)
            go_ret
            exact ⟨ret_int (by rw [nmC_is hk HK.out.1 (fun _ => by rw [HN.out]; simp [h0])]), HK.out.2⟩
      · have hzi : ¬ (k : Int) < s.size := by omega
        go_wp2_with fail
        go_ret
        exact ⟨ret_int (by rw [nmC_is hk HK.out.1 (fun _ => nmAt_end (by omega))]), HK.out.2⟩
    · have hlti : ¬ (k : Int) < 3 := by omega
      go_wp2_with fail
      go_ret
      exact ⟨ret_int (by rw [nmC_is hk HK.out.1 (fun h => absurd h hlt)]), HK.out.2⟩
set_option maxHeartbeats 400000 in
theorem isName_any (s : ByteArray) (w : World) : Calls Tryd.prog 17 #[.string s] w fun e w' => e = .returned (.bool (isN s)) ∧ w' = w := by
  by_cases h3 : s.size = 3
  · have h3i : (s.size : Int) = 3 := by omega
    have HI : Hid (isN s = decide ((nmC s : Int) = 3)) := by unfold Hid isN; rw [Bool.eq_iff_iff]; simp; omega
    go_enter Tryd.func17, Tryd.ntmps17
    go_wp2_with (go_at_call 25; refine (named_any s _).mono ?_; rintro e w' ⟨rfl, rfl⟩)
    go_ret
    exact ⟨ret_bool (by rw [HI.out, Bool.eq_iff_iff]; simp), rfl⟩
  · have h3i : ¬ (s.size : Int) = 3 := by omega
    have HI : Hid (isN s = false) := by unfold Hid isN; simp [h3]
    go_enter Tryd.func17, Tryd.ntmps17
    go_wp2_with fail
    go_ret
    exact ⟨ret_bool (by rw [HI.out]), rfl⟩
set_option maxHeartbeats 1000000 in
theorem Name_any (s : ByteArray) (w : World) : Calls Tryd.prog 20 #[.string s] w fun e w' => e = .returned (.bool (isN s)) ∧ w' = w := by
  by_cases h3 : s.size = 3
  · have h3i : (s.size : Int) = 3 := by omega
    go_enter Tryd.func20, Tryd.ntmps20
    go_wp2_with fail
    go_loopw [3, 4] (fun t3 t4 wx => ∃ k : Nat, k ≤ 3 ∧ t3 = .int .i64 k ∧ Hid ((∀ j, j < k → nmAt s j = true) ∧ wx = w)) (fun t3 _ _ => 3 - (intOf t3).toNat)
    case atStart => exact ⟨0, by omega, rfl, fun _ h => absurd h (by omega), rfl⟩
    case round =>
      obtain ⟨k, hk, rfl, HK⟩ := hrel
      by_cases hlt : k < 3
      · have hlti : (k : Int) < 3 := by omega
        have hz : k < s.size := by omega
        have hzi : (k : Int) < s.size := by omega
        have hb := bt_in hz
        obtain ⟨q, hq⟩ : ∃ q, nmAt s k = q := ⟨_, rfl⟩
        have hc : ∀ w, Calls Tryd.prog 27 #[.int .u8 (s[k].toNat : Int), .int .i64 (k : Int)] w fun e w' => e = .returned (.bool q) ∧ w' = w := fun w => by
          have := stands_any (s[k].toNat) k w
          rw [← hb] at this ⊢
          rw [← hq]; exact this
        have HN : Hid (nmAt s k = q) := hq
        clear hq hb
        cases q with
        | true =>
          go_wp2_with (go_at_call 27; refine (hc _).mono ?_; rintro e w' ⟨rfl, rfl⟩)
          go_roundw
          case rel => exact ⟨k + 1, by omega, by go_num, fun j hj => by
              by_cases e : j = k
              · subst e; exact HN.out
              · exact HK.out.1 j (by omega), HK.out.2⟩
          case measure => simp [intOf]; omega
        | false =>
          go_wp2_with (go_at_call 27; refine (hc _).mono ?_; rintro e w' ⟨rfl, rfl⟩)
          go_ret
          exact ⟨ret_bool (by unfold isN; rw [nmC_is hk HK.out.1 (fun _ => HN.out)]; simp; intro _; omega), HK.out.2⟩
      · have hlti : ¬ (k : Int) < 3 := by omega
        go_wp2_with fail
        go_ret
        exact ⟨ret_bool (by unfold isN; rw [nmC_is hk HK.out.1 (fun h => absurd h hlt)]; simp [h3]; omega), HK.out.2⟩
  · have h3i : ¬ (s.size : Int) = 3 := by omega
    have HI : Hid (isN s = false) := by unfold Hid isN; simp [h3]
    go_enter Tryd.func20, Tryd.ntmps20
    go_wp2_with fail
    go_ret
    exact ⟨ret_bool (by rw [HI.out]), rfl⟩
end Go.Proofs.YtiihdhajmcfhaaaDoor
