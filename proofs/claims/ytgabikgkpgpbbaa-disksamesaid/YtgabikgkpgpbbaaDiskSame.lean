/-
  The law DiskSame, walked whole.
-/
import Derived.Test.YtgabikgkpgpbbaaSame0
import Derived.Test.YtgabikgkpgpbbaaSame1
namespace Go.Proofs.Ytgabikgkpgpbbaa
open Go.RowKit

set_option maxRecDepth 100000 in
set_option maxHeartbeats 2000000 in
theorem same_big {pa qa : Option Addr} {pl pc ql qc : Nat} {ar : Int} (w : World) (hlen : 16777216 < pl + 2 * ql) (hp : pl ≤ 140737488355328) (hq : ql ≤ 140737488355328) :
    Calls Try.prog 5 #[.slice pa pl pc, .slice qa ql qc, .int .i64 ar] w fun e w' => e = .returned (.bool true) ∧ Below w.heap.size w w' := by
  have hl2 : (16777216 : Int) < (pl : Int) + 2 * ql := by omega
  go_enter Try.func5, Try.ntmps5
  go_wp2_with fail
  refine (heads_true _).mono ?_
  rintro e w0 ⟨rfl, b0⟩
  have HB0 : Hid (Below w.heap.size w w0) := b0
  clear b0
  go_wp2_with fail
  refine (heads_true _).mono ?_
  rintro e w1 ⟨rfl, b1⟩
  have HB1 : Hid (Below w.heap.size w w1) := below_then HB0.out b1
  clear b1
  go_wp2_with fail
  go_ret
  exact ⟨rfl, HB1.out⟩
theorem same_walk {pa qa : Option Addr} {pl pc ql qc : Nat} {ps qs : List Int} {ar : Int} (w : World) (hP : Byts w pa pl ps) (_ : pl ≤ maxLen) (hpn : pa = none → pc = 0) (_ : pl ≤ pc) (hp47 : pl ≤ 140737488355328) (_ : ∀ z ∈ ps, 0 ≤ z ∧ z ≤ 255)
    (hQ : Byts w qa ql qs) (_ : ql ≤ maxLen) (hqn : qa = none → qc = 0) (_ : ql ≤ qc) (hq47 : ql ≤ 140737488355328) (_ : ∀ z ∈ qs, 0 ≤ z ∧ z ≤ 255) (_ : (Lit.int .i64 ar).wf = true) :
    Calls Try.prog 5 #[.slice pa pl pc, .slice qa ql qc, .int .i64 ar] w fun e w' => e = .returned (.bool true) ∧ Below w.heap.size w w' := by
  by_cases hl : pl + 2 * ql ≤ 16777216
  · have hb := i64_and1 ar
    rcases (show ar % 2 = 0 ∨ ar % 2 = 1 by omega) with h | h
    · rw [h] at hb
      exact same_0 w hP hpn hQ hqn hl hb
    · rw [h] at hb
      exact same_1 w hP hpn hQ hqn hl hb
  · exact same_big w (by omega) hp47 hq47
end Go.Proofs.Ytgabikgkpgpbbaa
