/-
  The document's link: a side that is none.
-/
import Derived.Test.YtpcickhellkiaaaDoorLkRef
namespace Go.Proofs.YtpcickhellkiaaaDoor
open Go.RowKit

section
variable {w w' : World} {rb : Nat} {x y : Wy} {s : Int}
set_option maxRecDepth 100000 in
set_option maxHeartbeats 2000000 in
theorem rSend_bad (h : RLk w rb x y) (hs : ¬ (s = 0 ∨ s = 1)) {po : Option Addr} {m c : Nat} : Calls Tryd.prog 46 #[.pointer (some ⟨rb, 0, none⟩), .int .i64 s, .slice po m c] w fun e w' => e = .returned (.int .i64 1) ∧ w' = w := by
  have HW := rway_no h hs
  clear h
  go_enter Tryd.func46, Tryd.ntmps46
  go_wp2_with fail
  refine HW.mono ?_
  rintro _ w1 ⟨rfl, e1⟩
  obtain rfl : w = w1 := e1.symm
  clear e1
  go_wp2_with fail
  go_ret
  exact ⟨rfl, rfl⟩
set_option maxRecDepth 100000 in
set_option maxHeartbeats 2000000 in
theorem rNoise_bad (h : RLk w rb x y) (hs : ¬ (s = 0 ∨ s = 1)) {po : Option Addr} {m c : Nat} : Calls Tryd.prog 51 #[.pointer (some ⟨rb, 0, none⟩), .int .i64 s, .slice po m c] w fun e w' => e = .returned (.tuple #[.int .i64 0, .int .i64 1]) ∧ w' = w := by
  have HW := rway_no h hs
  clear h
  go_enter Tryd.func51, Tryd.ntmps51
  go_wp2_with fail
  refine HW.mono ?_
  rintro _ w1 ⟨rfl, e1⟩
  obtain rfl : w = w1 := e1.symm
  clear e1
  go_wp2_with fail
  refine bodyPost_ret (v := .tuple #[.int .i64 0, .int .i64 1]) ?_ rfl ⟨rfl, rfl⟩
  simp [results, Tryd.results51, go_sem]
set_option maxRecDepth 100000 in
set_option maxHeartbeats 2000000 in
theorem rCarry_bad (h : RLk w rb x y) (hs : ¬ (s = 0 ∨ s = 1)) (i n : Int) : Calls Tryd.prog 47 #[.pointer (some ⟨rb, 0, none⟩), .int .i64 s, .int .i64 i, .int .i64 n] w fun e w' => e = .returned (.tuple #[.slice none 0 0, .int .i64 1]) ∧ w' = w := by
  have HW := rway_no h hs
  clear h
  go_enter Tryd.func47, Tryd.ntmps47
  go_wp2_with fail
  refine HW.mono ?_
  rintro _ w1 ⟨rfl, e1⟩
  obtain rfl : w = w1 := e1.symm
  clear e1
  go_wp2_with fail
  refine bodyPost_ret (v := .tuple #[.slice none 0 0, .int .i64 1]) ?_ rfl ⟨rfl, rfl⟩
  simp [results, Tryd.results47, go_sem]
set_option maxRecDepth 100000 in
set_option maxHeartbeats 2000000 in
theorem rDrop_bad (h : RLk w rb x y) (hs : ¬ (s = 0 ∨ s = 1)) (i : Int) : Calls Tryd.prog 48 #[.pointer (some ⟨rb, 0, none⟩), .int .i64 s, .int .i64 i] w fun e w' => e = .returned (.int .i64 1) ∧ w' = w := by
  have HW := rway_no h hs
  clear h
  go_enter Tryd.func48, Tryd.ntmps48
  go_wp2_with fail
  refine HW.mono ?_
  rintro _ w1 ⟨rfl, e1⟩
  obtain rfl : w = w1 := e1.symm
  clear e1
  go_wp2_with fail
  go_ret
  exact ⟨rfl, rfl⟩
set_option maxRecDepth 100000 in
set_option maxHeartbeats 2000000 in
theorem rDouble_bad (h : RLk w rb x y) (hs : ¬ (s = 0 ∨ s = 1)) (i : Int) : Calls Tryd.prog 49 #[.pointer (some ⟨rb, 0, none⟩), .int .i64 s, .int .i64 i] w fun e w' => e = .returned (.int .i64 1) ∧ w' = w := by
  have HW := rway_no h hs
  clear h
  go_enter Tryd.func49, Tryd.ntmps49
  go_wp2_with fail
  refine HW.mono ?_
  rintro _ w1 ⟨rfl, e1⟩
  obtain rfl : w = w1 := e1.symm
  clear e1
  go_wp2_with fail
  go_ret
  exact ⟨rfl, rfl⟩
set_option maxRecDepth 100000 in
set_option maxHeartbeats 2000000 in
theorem rClip_bad (h : RLk w rb x y) (hs : ¬ (s = 0 ∨ s = 1)) (i n : Int) : Calls Tryd.prog 50 #[.pointer (some ⟨rb, 0, none⟩), .int .i64 s, .int .i64 i, .int .i64 n] w fun e w' => e = .returned (.int .i64 1) ∧ w' = w := by
  have HW := rway_no h hs
  clear h
  go_enter Tryd.func50, Tryd.ntmps50
  go_wp2_with fail
  refine HW.mono ?_
  rintro _ w1 ⟨rfl, e1⟩
  obtain rfl : w = w1 := e1.symm
  clear e1
  go_wp2_with fail
  go_ret
  exact ⟨rfl, rfl⟩
set_option maxRecDepth 100000 in
set_option maxHeartbeats 2000000 in
theorem rHalf_bad (h : RLk w rb x y) (hs : ¬ (s = 0 ∨ s = 1))  : Calls Tryd.prog 53 #[.pointer (some ⟨rb, 0, none⟩), .int .i64 s] w fun e w' => e = .returned (.int .i64 (-1)) ∧ w' = w := by
  have HW := rway_no h hs
  clear h
  go_enter Tryd.func53, Tryd.ntmps53
  go_wp2_with fail
  refine HW.mono ?_
  rintro _ w1 ⟨rfl, e1⟩
  obtain rfl : w = w1 := e1.symm
  clear e1
  go_wp2_with fail
  go_ret
  exact ⟨rfl, rfl⟩
set_option maxRecDepth 100000 in
set_option maxHeartbeats 2000000 in
theorem rFlight_bad (h : RLk w rb x y) (hs : ¬ (s = 0 ∨ s = 1))  : Calls Tryd.prog 54 #[.pointer (some ⟨rb, 0, none⟩), .int .i64 s] w fun e w' => e = .returned (.slice none 0 0) ∧ w' = w := by
  have HW := rway_no h hs
  clear h
  go_enter Tryd.func54, Tryd.ntmps54
  go_wp2_with fail
  refine HW.mono ?_
  rintro _ w1 ⟨rfl, e1⟩
  obtain rfl : w = w1 := e1.symm
  clear e1
  go_wp2_with fail
  go_ret
  exact ⟨rfl, rfl⟩
end
end Go.Proofs.YtpcickhellkiaaaDoor
