/-
  slices.Compare of two rows of ints.
-/
import Derived.Test.YtnilmmfbliogiaaGreatDoorTdRWr
import Derived.Test.YtnilmmfbliogiaaGreatDoorTdMath
namespace Go.Proofs.YtnilmmfbliogiaaGreatDoor
open Go.RowKit

set_option maxHeartbeats 400000 in
theorem isNaN_any (x : Int) (w : World) : Calls Tryz.prog 66 #[.int .i64 x] w fun e w' => e = .returned (.bool false) ∧ w' = w := by
  go_enter Tryz.func66, Tryz.ntmps66
  go_wp2
  go_ret
  exact ⟨by simp, rfl⟩
set_option maxHeartbeats 1000000 in
theorem cmpInt_any (x y : Int) (w : World) : Calls Tryz.prog 39 #[.int .i64 x, .int .i64 y] w fun e w' => e = .returned (.int .i64 (if x < y then -1 else if y < x then 1 else 0)) ∧ w' = w := by
  go_enter Tryz.func39, Tryz.ntmps39
  go_wp2_with (go_at_call 66; refine (isNaN_any _ _).mono ?_; rintro e w' ⟨rfl, hw⟩; rw [hw])
  all_goals
    go_ret
    refine ⟨ret_int ?_, rfl⟩
    (repeat' split) <;> first | rfl | (exfalso; omega)
/-- A row of ints in memory. -/
def IRow (w : World) (b : Nat) (l : List Int) : Prop := ∀ j x, l[j]? = some x → w.cell? ⟨b, j, none⟩ = some (.int .i64 x)
theorem cmpI_at {a b : List Int} {k : Nat} {x y : Int} (ha : a[k]? = some x) (hb : b[k]? = some y) : cmpI (a.drop k) (b.drop k) = if x < y then -1 else if y < x then 1 else cmpI (a.drop (k + 1)) (b.drop (k + 1)) := by
  obtain ⟨h1, h2⟩ := List.getElem?_eq_some_iff.1 ha
  obtain ⟨h3, h4⟩ := List.getElem?_eq_some_iff.1 hb
  rw [List.drop_eq_getElem_cons h1, List.drop_eq_getElem_cons h3, cmpI, h2, h4]
set_option maxRecDepth 100000 in
set_option maxHeartbeats 4000000 in
theorem sliceCmp_any (b1 b2 n c1 c2 : Nat) (l1 l2 : List Int) (w : World) (h1 : IRow w b1 l1) (h2 : IRow w b2 l2) (n1 : l1.length = n) (n2 : l2.length = n) (hn : n ≤ 100) : Calls Tryz.prog 24 #[.slice (some ⟨b1, 0, none⟩) n c1, .slice (some ⟨b2, 0, none⟩) n c2] w fun r w' => r = .returned (.int .i64 (cmpI l1 l2)) ∧ Below w.heap.size w w' := by
  have H : Hid (IRow w b1 l1 ∧ IRow w b2 l2 ∧ l1.length = n ∧ l2.length = n) := ⟨h1, h2, n1, n2⟩
  clear h1 h2 n1 n2
  go_enter Tryz.func24, Tryz.ntmps24
  go_wp2_with fail
  go_loopw [11] (fun ti wx => ∃ k : Nat, k ≤ n ∧ ti = .int .i64 k ∧ Hid (cmpI l1 l2 = cmpI (l1.drop k) (l2.drop k)) ∧ wx = w) (fun ti _ => n - (intOf ti).toNat)
  case atStart => exact ⟨0, Nat.zero_le _, rfl, rfl, rfl⟩
  case round =>
    obtain ⟨k, hk, rfl, HK, hw⟩ := hrel
    subst wr
    by_cases hlt : k < n
    · have hlti : (k : Int) < n := by omega
      obtain ⟨x, hx⟩ : ∃ x, l1[k]? = some x := ⟨_, List.getElem?_eq_getElem (by rw [H.out.2.2.1]; exact hlt)⟩
      obtain ⟨y, hy⟩ : ∃ y, l2[k]? = some y := ⟨_, List.getElem?_eq_getElem (by rw [H.out.2.2.2]; exact hlt)⟩
      have c1 := H.out.1 k x hx
      have c2 := H.out.2.1 k y hy
      have HA : Hid (cmpI (l1.drop k) (l2.drop k) = if x < y then -1 else if y < x then 1 else cmpI (l1.drop (k + 1)) (l2.drop (k + 1))) := cmpI_at hx hy
      have hge : ¬ (n : Int) ≤ k := by omega
      clear hx hy
      go_wp2_with fail
      refine (cmpInt_any x y _).mono ?_
      rintro _ w1 ⟨rfl, hw⟩
      subst w1
      by_cases h1 : x < y
      · rw [if_pos h1]
        have HR : Hid (cmpI l1 l2 = -1) := by unfold Hid; rw [HK.out, HA.out, if_pos h1]
        go_wp2_with fail
        go_ret
        exact ⟨ret_int HR.out.symm, Below.refl _ _⟩
      · by_cases h2 : y < x
        · rw [if_neg h1, if_pos h2]
          have HR : Hid (cmpI l1 l2 = 1) := by unfold Hid; rw [HK.out, HA.out, if_neg h1, if_pos h2]
          go_wp2_with fail
          go_ret
          exact ⟨ret_int HR.out.symm, Below.refl _ _⟩
        · rw [if_neg h1, if_neg h2]
          have HK2 : Hid (cmpI l1 l2 = cmpI (l1.drop (k + 1)) (l2.drop (k + 1))) := by unfold Hid; rw [HK.out, HA.out, if_neg h1, if_neg h2]
          go_wp2_with fail
          go_roundw
          case rel => exact ⟨k + 1, hlt, by go_num, HK2, (by first | rfl | trivial)⟩
          case measure => simp [intOf]; omega
    · have hlti : ¬ (k : Int) < n := by omega
      have HR : Hid (cmpI l1 l2 = 0) := by
        unfold Hid
        rw [HK.out, List.drop_of_length_le (by rw [H.out.2.2.1]; omega), List.drop_of_length_le (by rw [H.out.2.2.2]; omega)]; rfl
      go_wp2_with fail
      go_ret
      exact ⟨ret_int HR.out.symm, Below.refl _ _⟩
end Go.Proofs.YtnilmmfbliogiaaGreatDoor
