/-
  isApp, isFacility; the document's Name.
-/
import Derived.Test.YtgcdddkebehajaaDoorSuRefu
namespace Go.Proofs.YtgcdddkebehajaaDoor.Su
open Go.RowKit Go.Proofs.YtgcdddkebehajaaDoor.Td

theorem cd_zero {s : ByteArray} (hn : bl s ≠ [34, 34]) : (cdS s (if isCd (bl s) then 0 else 162) = 0 ∧ isCd (bl s) = true) ∨ (cdS s (if isCd (bl s) then 0 else 162) ≠ 0 ∧ isCd (bl s) = false) := by
  by_cases h : 8192 < s.size
  · refine Or.inr ⟨by rw [cd_long h]; decide, ?_⟩
    unfold isCd
    rw [bl_len, decide_eq_false (by omega)]
    rfl
  · rw [cd_else h hn]
    cases hc : isCd (bl s) with
    | true => exact Or.inl ⟨rfl, rfl⟩
    | false => exact Or.inr ⟨by simp, rfl⟩
set_option maxHeartbeats 1000000 in
theorem isApp_any (s : ByteArray) (w : World) : Calls Tryd.prog 7 #[.string s] w fun e w' => e = .returned (.bool (isCd (bl s))) ∧ Below w.heap.size w w' := by
  cases hn : (s.toList == [34, 34]) with
  | true =>
    have HC : Hid (isCd (bl s) = false) := by unfold Hid; rw [str_of hn]; rfl
    go_enter Tryd.func7, Tryd.ntmps7
    go_wp2_with fail
    go_ret
    exact ⟨ret_bool (by rw [HC.out]), Below.refl _ _⟩
  | false =>
    have HT : Hid (type_of% (text_is s w)) := text_is s w
    have HZ : Hid (type_of% (cd_zero (str_not hn))) := cd_zero (str_not hn)
    go_enter Tryd.func7, Tryd.ntmps7
    go_wp2_with fail
    refine HT.out.mono ?_
    rintro _ w1 ⟨v, rfl, hev, hb⟩
    have HB : Hid (Below w.heap.size w w1) := hb
    clear hb HT
    rcases HZ.out with ⟨h0, hc⟩ | ⟨h0, hc⟩
    · rw [h0] at hev
      obtain rfl := hev.ok
      have HC : Hid (isCd (bl s) = true) := hc
      clear hc h0 HZ hev
      go_wp2_with fail
      go_ret
      exact ⟨ret_bool (by rw [HC.out]), HB.out⟩
    · obtain ⟨b, rfl⟩ := hev.bad h0
      have HC : Hid (isCd (bl s) = false) := hc
      clear hc h0 HZ hev
      go_wp2_with fail
      go_ret
      exact ⟨ret_bool (by rw [HC.out]), HB.out⟩
def facB (s : ByteArray) : Bool := (bl s).isEmpty || isCd (bl s)
set_option maxHeartbeats 1000000 in
theorem isFacility_any (s : ByteArray) (w : World) : Calls Tryd.prog 9 #[.string s] w fun e w' => e = .returned (.bool (facB s)) ∧ Below w.heap.size w w' := by
  cases hn : s.toList.isEmpty with
  | true =>
    have HC : Hid (facB s = true) := by unfold Hid facB bl; rw [← Lib.toList_data, hn]; rfl
    go_enter Tryd.func9, Tryd.ntmps9
    go_wp2_with fail
    go_ret
    exact ⟨ret_bool (by rw [HC.out]), Below.refl _ _⟩
  | false =>
    have HC : Hid (facB s = isCd (bl s)) := by unfold Hid facB bl; rw [← Lib.toList_data, hn]; rfl
    go_enter Tryd.func9, Tryd.ntmps9
    go_wp2_with fail
    refine (isApp_any s _).mono ?_
    rintro _ w1 ⟨rfl, hb⟩
    have HB : Hid (Below w.heap.size w w1) := hb
    clear hb
    go_wp2_with fail
    go_ret
    exact ⟨ret_bool (by rw [HC.out]), HB.out⟩
set_option maxHeartbeats 4000000 in
theorem rName_any (s : ByteArray) (w : World) : Calls Tryd.prog 10 #[.string s] w fun e w' => e = .returned (.bool (isCd (bl s))) ∧ Below w.heap.size w w' := by
  have HE : Hid (isCd (bl s) = (decide (s.size ≤ 20) && cds (bl s))) := by unfold Hid isCd; rw [bl_len]
  by_cases h0 : s.size = 0
  · have hi : (s.size : Int) < 1 := by omega
    have HC : Hid (cds (bl s) = false) := by unfold Hid; rw [bl_nil h0]; rfl
    clear h0
    go_enter Tryd.func10, Tryd.ntmps10
    go_wp2_with fail
    go_ret
    exact ⟨ret_bool (by rw [HE.out, HC.out]; simp), Below.refl _ _⟩
  have hi : ¬ (s.size : Int) < 1 := by omega
  by_cases h : s.size ≤ 20
  · have hj : ¬ (20 : Int) < s.size := by omega
    rw [decide_eq_true h] at HE
    go_enter Tryd.func10, Tryd.ntmps10
    go_wp2_with fail
    go_loopw [3] (fun t3 wx => ∃ k : Nat, k ≤ s.size ∧ t3 = .int .i64 k ∧ Hid (((bl s).drop 0).all cdB = ((bl s).drop k).all cdB) ∧ Hid (Below w.heap.size w wx)) (fun t3 _ => s.size - (intOf t3).toNat)
    case atStart => exact ⟨0, Nat.zero_le _, rfl, rfl, Below.refl _ _⟩
    case round =>
      obtain ⟨k, hk, rfl, HK, HB⟩ := hrel
      by_cases hlt : k < s.size
      · have hlti : (k : Int) < s.size := by omega
        have HA : Hid (((bl s).drop k).all cdB = (cdB s[k] && ((bl s).drop (k + 1)).all cdB)) := cds_from (bl_at hlt)
        go_wp2_with fail
        all_goals try simp only [Bool.not_eq_eq_eq_not, Bool.not_true, Bool.not_false, decide_eq_true_eq, decide_eq_false_iff_not, beq_iff_eq, beq_eq_false_iff_ne, ne_eq] at *
        all_goals first
          | (have HN : Hid (cdB s[k] = false) := by unfold Hid cdB dg; simp; omega
             go_ret
             exact ⟨ret_bool (by rw [HE.out, cds_all0, HK.out, HA.out, HN.out]; simp), (by first | exact HB.out | exact Below.drew HB.out | exact below_drewN HB.out _)⟩)
          | (have HY : Hid (cdB s[k] = true) := by unfold Hid cdB dg; simp; omega
             have HK2 : Hid (((bl s).drop 0).all cdB = ((bl s).drop (k + 1)).all cdB) := by unfold Hid; rw [HK.out, HA.out, HY.out]; rfl
             go_roundw
             case rel => exact ⟨k + 1, hlt, by go_num, HK2, (by first | exact HB.out | exact Below.drew HB.out | exact below_drewN HB.out _)⟩
             case measure => simp [intOf]; omega)
      · have hlti : ¬ (k : Int) < s.size := by omega
        obtain rfl : k = s.size := by omega
        go_wp2_with fail
        go_ret
        exact ⟨ret_bool (by rw [HE.out, cds_end HK.out]; cases hb : bl s with
          | nil => exact absurd (by rw [← bl_len, hb]; rfl) h0
          | cons _ _ => rfl), HB.out⟩
  · have hj : (20 : Int) < s.size := by omega
    rw [decide_eq_false h] at HE
    go_enter Tryd.func10, Tryd.ntmps10
    go_wp2_with fail
    go_ret
    exact ⟨ret_bool (by rw [HE.out]; rfl), Below.refl _ _⟩
end Go.Proofs.YtgcdddkebehajaaDoor.Su
