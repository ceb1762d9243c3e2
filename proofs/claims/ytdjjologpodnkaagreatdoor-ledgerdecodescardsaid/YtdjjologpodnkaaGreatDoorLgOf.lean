/-
  The ten fields of a record, as the ledger's functions give them.
-/
import Derived.Test.YtdjjologpodnkaaGreatDoorLgLeaf
namespace Go.Proofs.YtdjjologpodnkaaGreatDoor
open Go.RowKit

theorem eqb_slice (n : Nat) : (((n : Nat) : Int) == 0) = decide (n = 0) := by
  rw [Bool.eq_iff_iff]; simp
set_option maxHeartbeats 1000000 in
theorem of_0 (r : Rec) (B : Nat) (w : World) (h : Box w B (#[.int .i64 r.kd, .string r.ct, .slice r.tp r.tn r.tc, .bool r.e, .int .i64 r.a, .int .i64 r.p, .int .i64 r.nu, .int .i64 r.tk, .int .i64 r.st, .string r.cd, .slice r.cp r.cn r.cc, .slice r.ap r.an r.ac])) : Calls Tryz.prog 46 #[.pointer (some ⟨B, 0, none⟩)] w fun e w' => e = .returned (fdV B (fdOf r 0)) ∧ w' = w := by
  have cx := h.cell
  clear h
  unfold fdOf
  go_enter Tryz.func46, Tryz.ntmps46
  go_wp2
  go_ret
  refine ⟨?_, rfl⟩
  simp [fdV]
set_option maxHeartbeats 1000000 in
theorem of_1 (r : Rec) (B : Nat) (w : World) (h : Box w B (#[.int .i64 r.kd, .string r.ct, .slice r.tp r.tn r.tc, .bool r.e, .int .i64 r.a, .int .i64 r.p, .int .i64 r.nu, .int .i64 r.tk, .int .i64 r.st, .string r.cd, .slice r.cp r.cn r.cc, .slice r.ap r.an r.ac])) : Calls Tryz.prog 47 #[.pointer (some ⟨B, 0, none⟩)] w fun e w' => e = .returned (fdV B (fdOf r 1)) ∧ w' = w := by
  have cx := h.cell
  clear h
  unfold fdOf
  cases h7 : (r.kd == 7) <;> cases he : (r.ct.toList == [])
  all_goals
    go_enter Tryz.func47, Tryz.ntmps47
    go_wp2
    go_ret
    refine ⟨?_, rfl⟩
    simp [fdV, isF, emB, *]
set_option maxHeartbeats 1000000 in
theorem of_2 (r : Rec) (B : Nat) (w : World) (h : Box w B (#[.int .i64 r.kd, .string r.ct, .slice r.tp r.tn r.tc, .bool r.e, .int .i64 r.a, .int .i64 r.p, .int .i64 r.nu, .int .i64 r.tk, .int .i64 r.st, .string r.cd, .slice r.cp r.cn r.cc, .slice r.ap r.an r.ac])) : Calls Tryz.prog 48 #[.pointer (some ⟨B, 0, none⟩)] w fun e w' => e = .returned (fdV B (fdOf r 2)) ∧ w' = w := by
  have cx := h.cell
  clear h
  unfold fdOf
  cases h1 : (r.kd == 1) <;> cases h5 : (r.kd == 5)
  all_goals
    go_enter Tryz.func48, Tryz.ntmps48
    go_wp2
    go_ret
    refine ⟨?_, rfl⟩
    simp [fdV, *]
set_option maxHeartbeats 1000000 in
theorem of_3 (r : Rec) (B : Nat) (w : World) (h : Box w B (#[.int .i64 r.kd, .string r.ct, .slice r.tp r.tn r.tc, .bool r.e, .int .i64 r.a, .int .i64 r.p, .int .i64 r.nu, .int .i64 r.tk, .int .i64 r.st, .string r.cd, .slice r.cp r.cn r.cc, .slice r.ap r.an r.ac])) : Calls Tryz.prog 49 #[.pointer (some ⟨B, 0, none⟩)] w fun e w' => e = .returned (fdV B (fdOf r 3)) ∧ w' = w := by
  have cx := h.cell
  clear h
  unfold fdOf
  cases h1 : (r.kd == 1) <;> cases he : r.e <;> cases ha : (r.a == 0) <;> cases hp : (r.p == 0)
  all_goals
    go_enter Tryz.func49, Tryz.ntmps49
    go_wp2
    all_goals (go_ret; refine ⟨?_, rfl⟩; simp_all [fdV])
set_option maxHeartbeats 1000000 in
theorem of_4 (r : Rec) (B : Nat) (w : World) (h : Box w B (#[.int .i64 r.kd, .string r.ct, .slice r.tp r.tn r.tc, .bool r.e, .int .i64 r.a, .int .i64 r.p, .int .i64 r.nu, .int .i64 r.tk, .int .i64 r.st, .string r.cd, .slice r.cp r.cn r.cc, .slice r.ap r.an r.ac])) : Calls Tryz.prog 50 #[.pointer (some ⟨B, 0, none⟩)] w fun e w' => e = .returned (fdV B (fdOf r 4)) ∧ w' = w := by
  have cx := h.cell
  clear h
  unfold fdOf
  cases h2 : (r.kd == 2) <;> cases h5 : (r.kd == 5) <;> cases h7 : (r.kd == 7)
  all_goals
    go_enter Tryz.func50, Tryz.ntmps50
    go_wp2
    go_ret
    refine ⟨?_, rfl⟩
    simp [fdV, *]
set_option maxHeartbeats 1000000 in
theorem of_5 (r : Rec) (B : Nat) (w : World) (h : Box w B (#[.int .i64 r.kd, .string r.ct, .slice r.tp r.tn r.tc, .bool r.e, .int .i64 r.a, .int .i64 r.p, .int .i64 r.nu, .int .i64 r.tk, .int .i64 r.st, .string r.cd, .slice r.cp r.cn r.cc, .slice r.ap r.an r.ac])) : Calls Tryz.prog 51 #[.pointer (some ⟨B, 0, none⟩)] w fun e w' => e = .returned (fdV B (fdOf r 5)) ∧ w' = w := by
  have cx := h.cell
  clear h
  unfold fdOf
  cases h5 : (r.kd == 5)
  all_goals
    go_enter Tryz.func51, Tryz.ntmps51
    go_wp2
    go_ret
    refine ⟨?_, rfl⟩
    simp [fdV, *]
set_option maxHeartbeats 1000000 in
theorem of_6 (r : Rec) (B : Nat) (w : World) (h : Box w B (#[.int .i64 r.kd, .string r.ct, .slice r.tp r.tn r.tc, .bool r.e, .int .i64 r.a, .int .i64 r.p, .int .i64 r.nu, .int .i64 r.tk, .int .i64 r.st, .string r.cd, .slice r.cp r.cn r.cc, .slice r.ap r.an r.ac])) : Calls Tryz.prog 52 #[.pointer (some ⟨B, 0, none⟩)] w fun e w' => e = .returned (fdV B (fdOf r 6)) ∧ w' = w := by
  have cx := h.cell
  clear h
  unfold fdOf
  cases h4 : (r.kd == 4)
  all_goals
    go_enter Tryz.func52, Tryz.ntmps52
    go_wp2
    go_ret
    refine ⟨?_, rfl⟩
    simp [fdV, *]
set_option maxHeartbeats 1000000 in
theorem of_7 (r : Rec) (B : Nat) (w : World) (h : Box w B (#[.int .i64 r.kd, .string r.ct, .slice r.tp r.tn r.tc, .bool r.e, .int .i64 r.a, .int .i64 r.p, .int .i64 r.nu, .int .i64 r.tk, .int .i64 r.st, .string r.cd, .slice r.cp r.cn r.cc, .slice r.ap r.an r.ac])) : Calls Tryz.prog 53 #[.pointer (some ⟨B, 0, none⟩)] w fun e w' => e = .returned (fdV B (fdOf r 7)) ∧ w' = w := by
  have cx := h.cell
  clear h
  unfold fdOf
  cases h6 : (r.kd == 6) <;> cases h4 : (r.kd == 4) <;> cases hs : (r.st == 4) <;> cases he : (r.cd.toList == [])
  all_goals
    go_enter Tryz.func53, Tryz.ntmps53
    go_wp2
    go_ret
    refine ⟨?_, rfl⟩
    simp [fdV, isF, emB, *]
set_option maxHeartbeats 1000000 in
theorem of_8 (r : Rec) (B : Nat) (w : World) (h : Box w B (#[.int .i64 r.kd, .string r.ct, .slice r.tp r.tn r.tc, .bool r.e, .int .i64 r.a, .int .i64 r.p, .int .i64 r.nu, .int .i64 r.tk, .int .i64 r.st, .string r.cd, .slice r.cp r.cn r.cc, .slice r.ap r.an r.ac])) : Calls Tryz.prog 54 #[.pointer (some ⟨B, 0, none⟩)] w fun e w' => e = .returned (fdV B (fdOf r 8)) ∧ w' = w := by
  have cx := h.cell
  clear h
  unfold fdOf
  cases h5 : (r.kd == 5)
  all_goals
    go_enter Tryz.func54, Tryz.ntmps54
    go_wp2
    go_ret
    refine ⟨?_, rfl⟩
    simp [fdV, *]
set_option maxHeartbeats 1000000 in
theorem of_9 (r : Rec) (B : Nat) (w : World) (h : Box w B (#[.int .i64 r.kd, .string r.ct, .slice r.tp r.tn r.tc, .bool r.e, .int .i64 r.a, .int .i64 r.p, .int .i64 r.nu, .int .i64 r.tk, .int .i64 r.st, .string r.cd, .slice r.cp r.cn r.cc, .slice r.ap r.an r.ac])) : Calls Tryz.prog 55 #[.pointer (some ⟨B, 0, none⟩)] w fun e w' => e = .returned (fdV B (fdOf r 9)) ∧ w' = w := by
  have cx := h.cell
  clear h
  unfold fdOf
  cases h6 : (r.kd == 6)
  all_goals
    go_enter Tryz.func55, Tryz.ntmps55
    go_wp2
    go_ret
    refine ⟨?_, rfl⟩
    simp [fdV, *]
end Go.Proofs.YtdjjologpodnkaaGreatDoor
