/-
  mllp.Frame.
-/
import Derived.Test.YtommpallecaadaaDoorMlErr
import Derived.Test.YtommpallecaadaaDoorBookTake
namespace Go.Proofs.YtommpallecaadaaDoor
open Go.RowKit

/-- A byte that frames. -/
def isF (b : Int) : Bool := b == 11 || b == 28
set_option maxHeartbeats 400000 in
theorem frames_yes (b : Int) (w : World) (h : isF b = true) : Calls Tryd.prog 25 #[.int .u8 b] w fun e w' => e = .returned (.bool true) ∧ w' = w := by
  by_cases h1 : b = 11
  · subst h1
    go_enter Tryd.func25, Tryd.ntmps25
    go_wp2
    go_ret
    exact ⟨rfl, rfl⟩
  · obtain rfl : b = 28 := by simp [isF, h1] at h; exact h
    go_enter Tryd.func25, Tryd.ntmps25
    go_wp2
    go_ret
    exact ⟨rfl, rfl⟩
set_option maxHeartbeats 400000 in
theorem frames_no (b : Int) (w : World) (h : isF b = false) : Calls Tryd.prog 25 #[.int .u8 b] w fun e w' => e = .returned (.bool false) ∧ w' = w := by
  have h1 : (b == 11) = false := by simp [isF] at h; simp [h.1]
  have h2 : (b == 28) = false := by simp [isF] at h; simp [h.2]
  clear h
  go_enter Tryd.func25, Tryd.ntmps25
  go_wp2
  go_ret
  exact ⟨rfl, rfl⟩
set_option maxRecDepth 100000 in
set_option maxHeartbeats 2000000 in
theorem index_none {w : World} {po : Option Addr} {m c : Nat} {bs : List Int} (hb : Byts w po m bs) (hm : m + 90 ≤ 140737488355328) (hn : ∀ j, j < m → isF (bs.getD j 0) = false) : Calls Tryd.prog 24 #[.slice po m c, .func (.func 25) #[] #[]] w fun e w' => e = .returned (.int .i64 (-1)) ∧ w' = w := by
  have HB : Hid (Byts w po m bs) := hb
  have HN : Hid (∀ j, j < m → isF (bs.getD j 0) = false) := hn
  clear hb hn
  go_enter Tryd.func24, Tryd.ntmps24
  go_wp2_with fail
  go_loopw [8] (fun t8 wx => ∃ i : Nat, i ≤ m ∧ t8 = .int .i64 i ∧ wx = w) (fun t8 _ => m - (intOf t8).toNat)
  case atStart => exact ⟨0, Nat.zero_le _, rfl, rfl⟩
  case round =>
    obtain ⟨i, hi, rfl, rfl⟩ := hrel
    by_cases hlt : i < m
    · have hlt1 : (i : Int) < m := by omega
      obtain ⟨b, o, rfl, _, hcell⟩ := HB.out.cell i hlt
      go_wp2_with fail
      refine (frames_no _ _ (HN.out i hlt)).mono ?_
      rintro e w1 ⟨rfl, rfl⟩
      go_wp2_with fail
      go_roundw
      case rel => exact ⟨i + 1, hlt, by go_num, by trivial⟩
      case measure => simp [intOf]; omega
    · have hlt1 : ¬ (i : Int) < m := by omega
      go_wp2_with fail
      go_ret
      exact ⟨rfl, rfl⟩
set_option maxRecDepth 100000 in
set_option maxHeartbeats 2000000 in
theorem index_at {w : World} {po : Option Addr} {m c k : Nat} {bs : List Int} (hb : Byts w po m bs) (hm : m + 90 ≤ 140737488355328) (hk : k < m) (hy : isF (bs.getD k 0) = true) (hn : ∀ j, j < k → isF (bs.getD j 0) = false) : Calls Tryd.prog 24 #[.slice po m c, .func (.func 25) #[] #[]] w fun e w' => e = .returned (.int .i64 (k : Int)) ∧ w' = w := by
  have HB : Hid (Byts w po m bs) := hb
  have HN : Hid (∀ j, j < k → isF (bs.getD j 0) = false) := hn
  have HY : Hid (isF (bs.getD k 0) = true) := hy
  clear hb hn hy
  go_enter Tryd.func24, Tryd.ntmps24
  go_wp2_with fail
  go_loopw [8] (fun t8 wx => ∃ i : Nat, i ≤ k ∧ t8 = .int .i64 i ∧ wx = w) (fun t8 _ => m - (intOf t8).toNat)
  case atStart => exact ⟨0, Nat.zero_le _, rfl, rfl⟩
  case round =>
    obtain ⟨i, hi, rfl, rfl⟩ := hrel
    have hlt1 : (i : Int) < m := by omega
    obtain ⟨b, o, rfl, _, hcell⟩ := HB.out.cell i (by omega)
    by_cases hlt : i < k
    · go_wp2_with fail
      refine (frames_no _ _ (HN.out i hlt)).mono ?_
      rintro e w1 ⟨rfl, rfl⟩
      go_wp2_with fail
      go_roundw
      case rel => exact ⟨i + 1, hlt, by go_num, by trivial⟩
      case measure => simp [intOf]; omega
    · obtain rfl : i = k := by omega
      go_wp2_with fail
      refine (frames_yes _ _ HY.out).mono ?_
      rintro e w1 ⟨rfl, rfl⟩
      go_wp2_with fail
      go_ret
      exact ⟨rfl, rfl⟩
end Go.Proofs.YtommpallecaadaaDoor
