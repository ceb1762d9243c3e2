/-
  The statements' looks at memory: Same.
-/
import Derived.Test.YtlgjjemfckmidaaDkStr
namespace Go.Proofs.Ytlgjjemfckmidaa
open Go.RowKit

set_option maxRecDepth 100000 in
set_option maxHeartbeats 2000000 in
theorem same_true {w : World} {ao bo : Option Addr} {n ac bc : Nat} {xs : List Int} (ha : Byts w ao n xs) (hb : Byts w bo n xs) (hn : n ≤ 9223372036854775807) :
    Calls Try.prog 15 #[.slice ao n ac, .slice bo n bc] w fun e w' => e = .returned (.bool true) ∧ ∃ m, w' = w.drewN m := by
  have HA : Hid (Byts w ao n xs) := ha
  have HB : Hid (Byts w bo n xs) := hb
  clear ha hb
  go_enter Try.func15, Try.ntmps15
  go_wp2_with fail
  go_loopw [5] (fun ti wx => ∃ j m : Nat, j ≤ n ∧ ti = .int .i64 j ∧ wx = w.drewN m) (fun ti _ => n - (intOf ti).toNat)
  case atStart => exact ⟨0, 0, Nat.zero_le _, rfl, rfl⟩
  case round =>
    obtain ⟨j, m, hj, rfl, rfl⟩ := hrel
    by_cases hlt : j < n
    · obtain ⟨ab, aof, rfl, hal, hac⟩ := HA.out.cell j hlt
      obtain ⟨bb, bof, rfl, hbl, hbc⟩ := HB.out.cell j hlt
      have hlt1 : (j : Int) < n := by omega
      go_wp2_with fail
      go_quiet (fail)
      go_wp2_with fail
      go_roundw
      case rel => exact ⟨j + 1, _, hlt, by go_num, rfl⟩
      case measure => simp [intOf]; omega
    · have hlt1 : ¬ ((j : Int) < n) := by omega
      go_wp2_with fail
      go_ret
      exact ⟨rfl, _, rfl⟩
end Go.Proofs.Ytlgjjemfckmidaa
