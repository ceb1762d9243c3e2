/-
  The document's link: a link that New did not make.
-/
import Derived.Test.YtpcickhellkiaaaDoorLkNew
namespace Go.Proofs.YtpcickhellkiaaaDoor
open Go.RowKit

section
variable {w w' : World} {rb : Nat} {s : Int}
set_option maxRecDepth 100000 in
set_option maxHeartbeats 2000000 in
theorem rSend_plain (h : w.cell? ⟨rb, 0, none⟩ = some (.bool false)) {po : Option Addr} {m c : Nat} : Calls Tryd.prog 46 #[.pointer (some ⟨rb, 0, none⟩), .int .i64 s, .slice po m c] w fun e w' => e = .returned (.int .i64 3) ∧ w' = w := by
  have HW := rway_plain (s := s) h
  clear h
  go_enter Tryd.func46, Tryd.ntmps46
  go_wp2_with fail
  refine HW.mono ?_
  rintro _ w1 ⟨rfl, e1⟩
  obtain rfl : w = w1 := e1.symm
  clear e1
  go_wp2_with fail
  go_ret
  exact ⟨rfl, rfl⟩
set_option maxRecDepth 100000 in
set_option maxHeartbeats 2000000 in
theorem rNoise_plain (h : w.cell? ⟨rb, 0, none⟩ = some (.bool false)) {po : Option Addr} {m c : Nat} : Calls Tryd.prog 51 #[.pointer (some ⟨rb, 0, none⟩), .int .i64 s, .slice po m c] w fun e w' => e = .returned (.tuple #[.int .i64 0, .int .i64 3]) ∧ w' = w := by
  have HW := rway_plain (s := s) h
  clear h
  go_enter Tryd.func51, Tryd.ntmps51
  go_wp2_with fail
  refine HW.mono ?_
  rintro _ w1 ⟨rfl, e1⟩
  obtain rfl : w = w1 := e1.symm
  clear e1
  go_wp2_with fail
  refine bodyPost_ret (v := .tuple #[.int .i64 0, .int .i64 3]) ?_ rfl ⟨rfl, rfl⟩
  simp [results, Tryd.results51, go_sem]
set_option maxRecDepth 100000 in
set_option maxHeartbeats 2000000 in
theorem rCarry_plain (h : w.cell? ⟨rb, 0, none⟩ = some (.bool false)) (i n : Int) : Calls Tryd.prog 47 #[.pointer (some ⟨rb, 0, none⟩), .int .i64 s, .int .i64 i, .int .i64 n] w fun e w' => e = .returned (.tuple #[.slice none 0 0, .int .i64 3]) ∧ w' = w := by
  have HW := rway_plain (s := s) h
  clear h
  go_enter Tryd.func47, Tryd.ntmps47
  go_wp2_with fail
  refine HW.mono ?_
  rintro _ w1 ⟨rfl, e1⟩
  obtain rfl : w = w1 := e1.symm
  clear e1
  go_wp2_with fail
  refine bodyPost_ret (v := .tuple #[.slice none 0 0, .int .i64 3]) ?_ rfl ⟨rfl, rfl⟩
  simp [results, Tryd.results47, go_sem]
set_option maxRecDepth 100000 in
set_option maxHeartbeats 2000000 in
theorem rDrop_plain (h : w.cell? ⟨rb, 0, none⟩ = some (.bool false)) (i : Int) : Calls Tryd.prog 48 #[.pointer (some ⟨rb, 0, none⟩), .int .i64 s, .int .i64 i] w fun e w' => e = .returned (.int .i64 3) ∧ w' = w := by
  have HW := rway_plain (s := s) h
  clear h
  go_enter Tryd.func48, Tryd.ntmps48
  go_wp2_with fail
  refine HW.mono ?_
  rintro _ w1 ⟨rfl, e1⟩
  obtain rfl : w = w1 := e1.symm
  clear e1
  go_wp2_with fail
  go_ret
  exact ⟨rfl, rfl⟩
set_option maxRecDepth 100000 in
set_option maxHeartbeats 2000000 in
theorem rDouble_plain (h : w.cell? ⟨rb, 0, none⟩ = some (.bool false)) (i : Int) : Calls Tryd.prog 49 #[.pointer (some ⟨rb, 0, none⟩), .int .i64 s, .int .i64 i] w fun e w' => e = .returned (.int .i64 3) ∧ w' = w := by
  have HW := rway_plain (s := s) h
  clear h
  go_enter Tryd.func49, Tryd.ntmps49
  go_wp2_with fail
  refine HW.mono ?_
  rintro _ w1 ⟨rfl, e1⟩
  obtain rfl : w = w1 := e1.symm
  clear e1
  go_wp2_with fail
  go_ret
  exact ⟨rfl, rfl⟩
set_option maxRecDepth 100000 in
set_option maxHeartbeats 2000000 in
theorem rClip_plain (h : w.cell? ⟨rb, 0, none⟩ = some (.bool false)) (i n : Int) : Calls Tryd.prog 50 #[.pointer (some ⟨rb, 0, none⟩), .int .i64 s, .int .i64 i, .int .i64 n] w fun e w' => e = .returned (.int .i64 3) ∧ w' = w := by
  have HW := rway_plain (s := s) h
  clear h
  go_enter Tryd.func50, Tryd.ntmps50
  go_wp2_with fail
  refine HW.mono ?_
  rintro _ w1 ⟨rfl, e1⟩
  obtain rfl : w = w1 := e1.symm
  clear e1
  go_wp2_with fail
  go_ret
  exact ⟨rfl, rfl⟩
set_option maxRecDepth 100000 in
set_option maxHeartbeats 2000000 in
theorem rHalf_plain (h : w.cell? ⟨rb, 0, none⟩ = some (.bool false))  : Calls Tryd.prog 53 #[.pointer (some ⟨rb, 0, none⟩), .int .i64 s] w fun e w' => e = .returned (.int .i64 (-1)) ∧ w' = w := by
  have HW := rway_plain (s := s) h
  clear h
  go_enter Tryd.func53, Tryd.ntmps53
  go_wp2_with fail
  refine HW.mono ?_
  rintro _ w1 ⟨rfl, e1⟩
  obtain rfl : w = w1 := e1.symm
  clear e1
  go_wp2_with fail
  go_ret
  exact ⟨rfl, rfl⟩
set_option maxRecDepth 100000 in
set_option maxHeartbeats 2000000 in
theorem rFlight_plain (h : w.cell? ⟨rb, 0, none⟩ = some (.bool false))  : Calls Tryd.prog 54 #[.pointer (some ⟨rb, 0, none⟩), .int .i64 s] w fun e w' => e = .returned (.slice none 0 0) ∧ w' = w := by
  have HW := rway_plain (s := s) h
  clear h
  go_enter Tryd.func54, Tryd.ntmps54
  go_wp2_with fail
  refine HW.mono ?_
  rintro _ w1 ⟨rfl, e1⟩
  obtain rfl : w = w1 := e1.symm
  clear e1
  go_wp2_with fail
  go_ret
  exact ⟨rfl, rfl⟩
end
end Go.Proofs.YtpcickhellkiaaaDoor
