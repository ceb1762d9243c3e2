/-
  couriermem.Lists of records alone: the looks at lists that there are none of.
-/
import Derived.Test.YthnpckmgnompiaaGreatDoorLsRec3
namespace Go.Proofs.YthnpckmgnompiaaGreatDoor
open Go.RowKit Go.BigFrame

/-- Nothing but the book and records is kept at X. -/
def Bare (w : World) (X : Nat) : Prop := ∀ q, 6 ≤ q → q ≤ 21 → w.cell? ⟨X, q, none⟩ = some (.slice none 0 0)
theorem Bare.lt {w : World} {X : Nat} (h : Bare w X) : X < w.heap.size := cell_lt (h 6 (by omega) (by omega))
theorem Bare.off {P : Nat → Prop} {w w' : World} {X : Nat} (h : Bare w X) (o : Off P w w') (hP : ¬ P X) : Bare w' X := fun q h1 h2 => by
  rw [o.cell (p := ⟨X, q, none⟩) h.lt hP]; exact h q h1 h2
set_option maxRecDepth 100000 in
set_option maxHeartbeats 2000000 in
theorem ls_still {w : World} {X : Nat} (h : Bare w X) : Calls Tryz.prog 32 #[.pointer (some ⟨X, 0, none⟩)] w fun e w' => e = .returned (.bool true) ∧ w' = w := by
  have c6 := h 6 (by omega) (by omega)
  have c7 := h 7 (by omega) (by omega)
  have c8 := h 8 (by omega) (by omega)
  have c9 := h 9 (by omega) (by omega)
  have c10 := h 10 (by omega) (by omega)
  have c11 := h 11 (by omega) (by omega)
  have c12 := h 12 (by omega) (by omega)
  have c13 := h 13 (by omega) (by omega)
  have c14 := h 14 (by omega) (by omega)
  have c15 := h 15 (by omega) (by omega)
  have c16 := h 16 (by omega) (by omega)
  have c17 := h 17 (by omega) (by omega)
  have c18 := h 18 (by omega) (by omega)
  have c19 := h 19 (by omega) (by omega)
  have c20 := h 20 (by omega) (by omega)
  have c21 := h 21 (by omega) (by omega)
  clear h
  go_enter Tryz.func32, Tryz.ntmps32
  go_wp2_with fail
  repeat (refine wp_loop_rounds 1 ?_; rw [rounds_succ]; go_wp2_with fail)
  go_ret
  exact ⟨rfl, rfl⟩
set_option maxRecDepth 100000 in
set_option maxHeartbeats 2000000 in
theorem ls_comp {w : World} {X : Nat} (h : Bare w X) : Calls Tryz.prog 34 #[.pointer (some ⟨X, 0, none⟩)] w fun e w' => e = .returned (.bool true) ∧ w' = w := by
  have c6 := h 6 (by omega) (by omega)
  have c7 := h 7 (by omega) (by omega)
  have c8 := h 8 (by omega) (by omega)
  have c9 := h 9 (by omega) (by omega)
  have c10 := h 10 (by omega) (by omega)
  have c11 := h 11 (by omega) (by omega)
  have c12 := h 12 (by omega) (by omega)
  have c13 := h 13 (by omega) (by omega)
  have c14 := h 14 (by omega) (by omega)
  have c15 := h 15 (by omega) (by omega)
  have c16 := h 16 (by omega) (by omega)
  have c17 := h 17 (by omega) (by omega)
  have c18 := h 18 (by omega) (by omega)
  have c19 := h 19 (by omega) (by omega)
  have c20 := h 20 (by omega) (by omega)
  have c21 := h 21 (by omega) (by omega)
  clear h
  go_enter Tryz.func34, Tryz.ntmps34
  go_wp2_with fail
  repeat (refine wp_loop_rounds 1 ?_; rw [rounds_succ]; go_wp2_with fail)
  go_ret
  exact ⟨rfl, rfl⟩
set_option maxRecDepth 100000 in
set_option maxHeartbeats 2000000 in
theorem ls_rep {w : World} {X : Nat} (h : Bare w X) : Calls Tryz.prog 35 #[.pointer (some ⟨X, 0, none⟩)] w fun e w' => e = .returned (.bool true) ∧ w' = w := by
  have c6 := h 6 (by omega) (by omega)
  have c7 := h 7 (by omega) (by omega)
  have c8 := h 8 (by omega) (by omega)
  have c9 := h 9 (by omega) (by omega)
  have c10 := h 10 (by omega) (by omega)
  have c11 := h 11 (by omega) (by omega)
  have c12 := h 12 (by omega) (by omega)
  have c13 := h 13 (by omega) (by omega)
  have c14 := h 14 (by omega) (by omega)
  have c15 := h 15 (by omega) (by omega)
  have c16 := h 16 (by omega) (by omega)
  have c17 := h 17 (by omega) (by omega)
  have c18 := h 18 (by omega) (by omega)
  have c19 := h 19 (by omega) (by omega)
  have c20 := h 20 (by omega) (by omega)
  have c21 := h 21 (by omega) (by omega)
  clear h
  go_enter Tryz.func35, Tryz.ntmps35
  go_wp2_with fail
  repeat (refine wp_loop_rounds 1 ?_; rw [rounds_succ]; go_wp2_with fail)
  go_ret
  exact ⟨rfl, rfl⟩
set_option maxRecDepth 100000 in
set_option maxHeartbeats 2000000 in
theorem ls_field {w : World} {X : Nat} (h : Bare w X) : Calls Tryz.prog 36 #[.pointer (some ⟨X, 0, none⟩)] w fun e w' => e = .returned (.bool true) ∧ w' = w := by
  have c6 := h 6 (by omega) (by omega)
  have c7 := h 7 (by omega) (by omega)
  have c8 := h 8 (by omega) (by omega)
  have c9 := h 9 (by omega) (by omega)
  have c10 := h 10 (by omega) (by omega)
  have c11 := h 11 (by omega) (by omega)
  have c12 := h 12 (by omega) (by omega)
  have c13 := h 13 (by omega) (by omega)
  have c14 := h 14 (by omega) (by omega)
  have c15 := h 15 (by omega) (by omega)
  have c16 := h 16 (by omega) (by omega)
  have c17 := h 17 (by omega) (by omega)
  have c18 := h 18 (by omega) (by omega)
  have c19 := h 19 (by omega) (by omega)
  have c20 := h 20 (by omega) (by omega)
  have c21 := h 21 (by omega) (by omega)
  clear h
  go_enter Tryz.func36, Tryz.ntmps36
  go_wp2_with fail
  repeat (refine wp_loop_rounds 1 ?_; rw [rounds_succ]; go_wp2_with fail)
  go_ret
  exact ⟨rfl, rfl⟩
set_option maxRecDepth 100000 in
set_option maxHeartbeats 2000000 in
theorem ls_seg {w : World} {X : Nat} (h : Bare w X) : Calls Tryz.prog 37 #[.pointer (some ⟨X, 0, none⟩)] w fun e w' => e = .returned (.bool true) ∧ w' = w := by
  have c6 := h 6 (by omega) (by omega)
  have c7 := h 7 (by omega) (by omega)
  have c8 := h 8 (by omega) (by omega)
  have c9 := h 9 (by omega) (by omega)
  have c10 := h 10 (by omega) (by omega)
  have c11 := h 11 (by omega) (by omega)
  have c12 := h 12 (by omega) (by omega)
  have c13 := h 13 (by omega) (by omega)
  have c14 := h 14 (by omega) (by omega)
  have c15 := h 15 (by omega) (by omega)
  have c16 := h 16 (by omega) (by omega)
  have c17 := h 17 (by omega) (by omega)
  have c18 := h 18 (by omega) (by omega)
  have c19 := h 19 (by omega) (by omega)
  have c20 := h 20 (by omega) (by omega)
  have c21 := h 21 (by omega) (by omega)
  clear h
  go_enter Tryz.func37, Tryz.ntmps37
  go_wp2_with fail
  repeat (refine wp_loop_rounds 1 ?_; rw [rounds_succ]; go_wp2_with fail)
  go_ret
  exact ⟨rfl, rfl⟩
set_option maxRecDepth 100000 in
set_option maxHeartbeats 2000000 in
theorem ls_finding {w : World} {X : Nat} (h : Bare w X) : Calls Tryz.prog 38 #[.pointer (some ⟨X, 0, none⟩)] w fun e w' => e = .returned (.bool true) ∧ w' = w := by
  have c6 := h 6 (by omega) (by omega)
  have c7 := h 7 (by omega) (by omega)
  have c8 := h 8 (by omega) (by omega)
  have c9 := h 9 (by omega) (by omega)
  have c10 := h 10 (by omega) (by omega)
  have c11 := h 11 (by omega) (by omega)
  have c12 := h 12 (by omega) (by omega)
  have c13 := h 13 (by omega) (by omega)
  have c14 := h 14 (by omega) (by omega)
  have c15 := h 15 (by omega) (by omega)
  have c16 := h 16 (by omega) (by omega)
  have c17 := h 17 (by omega) (by omega)
  have c18 := h 18 (by omega) (by omega)
  have c19 := h 19 (by omega) (by omega)
  have c20 := h 20 (by omega) (by omega)
  have c21 := h 21 (by omega) (by omega)
  clear h
  go_enter Tryz.func38, Tryz.ntmps38
  go_wp2_with fail
  repeat (refine wp_loop_rounds 1 ?_; rw [rounds_succ]; go_wp2_with fail)
  go_ret
  exact ⟨rfl, rfl⟩
set_option maxRecDepth 100000 in
set_option maxHeartbeats 2000000 in
theorem ls_thing {w : World} {X : Nat} (h : Bare w X) : Calls Tryz.prog 39 #[.pointer (some ⟨X, 0, none⟩)] w fun e w' => e = .returned (.bool true) ∧ w' = w := by
  have c6 := h 6 (by omega) (by omega)
  have c7 := h 7 (by omega) (by omega)
  have c8 := h 8 (by omega) (by omega)
  have c9 := h 9 (by omega) (by omega)
  have c10 := h 10 (by omega) (by omega)
  have c11 := h 11 (by omega) (by omega)
  have c12 := h 12 (by omega) (by omega)
  have c13 := h 13 (by omega) (by omega)
  have c14 := h 14 (by omega) (by omega)
  have c15 := h 15 (by omega) (by omega)
  have c16 := h 16 (by omega) (by omega)
  have c17 := h 17 (by omega) (by omega)
  have c18 := h 18 (by omega) (by omega)
  have c19 := h 19 (by omega) (by omega)
  have c20 := h 20 (by omega) (by omega)
  have c21 := h 21 (by omega) (by omega)
  clear h
  go_enter Tryz.func39, Tryz.ntmps39
  go_wp2_with fail
  repeat (refine wp_loop_rounds 1 ?_; rw [rounds_succ]; go_wp2_with fail)
  go_ret
  exact ⟨rfl, rfl⟩
set_option maxRecDepth 100000 in
set_option maxHeartbeats 2000000 in
theorem ls_list {w : World} {X : Nat} (h : Bare w X) : Calls Tryz.prog 40 #[.pointer (some ⟨X, 0, none⟩)] w fun e w' => e = .returned (.bool true) ∧ w' = w := by
  have c6 := h 6 (by omega) (by omega)
  have c7 := h 7 (by omega) (by omega)
  have c8 := h 8 (by omega) (by omega)
  have c9 := h 9 (by omega) (by omega)
  have c10 := h 10 (by omega) (by omega)
  have c11 := h 11 (by omega) (by omega)
  have c12 := h 12 (by omega) (by omega)
  have c13 := h 13 (by omega) (by omega)
  have c14 := h 14 (by omega) (by omega)
  have c15 := h 15 (by omega) (by omega)
  have c16 := h 16 (by omega) (by omega)
  have c17 := h 17 (by omega) (by omega)
  have c18 := h 18 (by omega) (by omega)
  have c19 := h 19 (by omega) (by omega)
  have c20 := h 20 (by omega) (by omega)
  have c21 := h 21 (by omega) (by omega)
  clear h
  go_enter Tryz.func40, Tryz.ntmps40
  go_wp2_with fail
  repeat (refine wp_loop_rounds 1 ?_; rw [rounds_succ]; go_wp2_with fail)
  go_ret
  exact ⟨rfl, rfl⟩
set_option maxRecDepth 100000 in
set_option maxHeartbeats 2000000 in
theorem ls_out {w : World} {X : Nat} (h : Bare w X) : Calls Tryz.prog 41 #[.pointer (some ⟨X, 0, none⟩)] w fun e w' => e = .returned (.bool true) ∧ w' = w := by
  have c6 := h 6 (by omega) (by omega)
  have c7 := h 7 (by omega) (by omega)
  have c8 := h 8 (by omega) (by omega)
  have c9 := h 9 (by omega) (by omega)
  have c10 := h 10 (by omega) (by omega)
  have c11 := h 11 (by omega) (by omega)
  have c12 := h 12 (by omega) (by omega)
  have c13 := h 13 (by omega) (by omega)
  have c14 := h 14 (by omega) (by omega)
  have c15 := h 15 (by omega) (by omega)
  have c16 := h 16 (by omega) (by omega)
  have c17 := h 17 (by omega) (by omega)
  have c18 := h 18 (by omega) (by omega)
  have c19 := h 19 (by omega) (by omega)
  have c20 := h 20 (by omega) (by omega)
  have c21 := h 21 (by omega) (by omega)
  clear h
  go_enter Tryz.func41, Tryz.ntmps41
  go_wp2_with fail
  repeat (refine wp_loop_rounds 1 ?_; rw [rounds_succ]; go_wp2_with fail)
  go_ret
  exact ⟨rfl, rfl⟩
set_option maxRecDepth 100000 in
set_option maxHeartbeats 2000000 in
theorem ls_in {w : World} {X : Nat} (h : Bare w X) : Calls Tryz.prog 42 #[.pointer (some ⟨X, 0, none⟩)] w fun e w' => e = .returned (.bool true) ∧ w' = w := by
  have c6 := h 6 (by omega) (by omega)
  have c7 := h 7 (by omega) (by omega)
  have c8 := h 8 (by omega) (by omega)
  have c9 := h 9 (by omega) (by omega)
  have c10 := h 10 (by omega) (by omega)
  have c11 := h 11 (by omega) (by omega)
  have c12 := h 12 (by omega) (by omega)
  have c13 := h 13 (by omega) (by omega)
  have c14 := h 14 (by omega) (by omega)
  have c15 := h 15 (by omega) (by omega)
  have c16 := h 16 (by omega) (by omega)
  have c17 := h 17 (by omega) (by omega)
  have c18 := h 18 (by omega) (by omega)
  have c19 := h 19 (by omega) (by omega)
  have c20 := h 20 (by omega) (by omega)
  have c21 := h 21 (by omega) (by omega)
  clear h
  go_enter Tryz.func42, Tryz.ntmps42
  go_wp2_with fail
  repeat (refine wp_loop_rounds 1 ?_; rw [rounds_succ]; go_wp2_with fail)
  go_ret
  exact ⟨rfl, rfl⟩
set_option maxRecDepth 100000 in
set_option maxHeartbeats 2000000 in
theorem ls_sent {w : World} {X : Nat} (h : Bare w X) : Calls Tryz.prog 43 #[.pointer (some ⟨X, 0, none⟩)] w fun e w' => e = .returned (.bool true) ∧ w' = w := by
  have c6 := h 6 (by omega) (by omega)
  have c7 := h 7 (by omega) (by omega)
  have c8 := h 8 (by omega) (by omega)
  have c9 := h 9 (by omega) (by omega)
  have c10 := h 10 (by omega) (by omega)
  have c11 := h 11 (by omega) (by omega)
  have c12 := h 12 (by omega) (by omega)
  have c13 := h 13 (by omega) (by omega)
  have c14 := h 14 (by omega) (by omega)
  have c15 := h 15 (by omega) (by omega)
  have c16 := h 16 (by omega) (by omega)
  have c17 := h 17 (by omega) (by omega)
  have c18 := h 18 (by omega) (by omega)
  have c19 := h 19 (by omega) (by omega)
  have c20 := h 20 (by omega) (by omega)
  have c21 := h 21 (by omega) (by omega)
  clear h
  go_enter Tryz.func43, Tryz.ntmps43
  go_wp2_with fail
  repeat (refine wp_loop_rounds 1 ?_; rw [rounds_succ]; go_wp2_with fail)
  go_ret
  exact ⟨rfl, rfl⟩
set_option maxRecDepth 100000 in
set_option maxHeartbeats 2000000 in
theorem ls_held {w : World} {X : Nat} (h : Bare w X) : Calls Tryz.prog 44 #[.pointer (some ⟨X, 0, none⟩)] w fun e w' => e = .returned (.bool true) ∧ w' = w := by
  have c6 := h 6 (by omega) (by omega)
  have c7 := h 7 (by omega) (by omega)
  have c8 := h 8 (by omega) (by omega)
  have c9 := h 9 (by omega) (by omega)
  have c10 := h 10 (by omega) (by omega)
  have c11 := h 11 (by omega) (by omega)
  have c12 := h 12 (by omega) (by omega)
  have c13 := h 13 (by omega) (by omega)
  have c14 := h 14 (by omega) (by omega)
  have c15 := h 15 (by omega) (by omega)
  have c16 := h 16 (by omega) (by omega)
  have c17 := h 17 (by omega) (by omega)
  have c18 := h 18 (by omega) (by omega)
  have c19 := h 19 (by omega) (by omega)
  have c20 := h 20 (by omega) (by omega)
  have c21 := h 21 (by omega) (by omega)
  clear h
  go_enter Tryz.func44, Tryz.ntmps44
  go_wp2_with fail
  repeat (refine wp_loop_rounds 1 ?_; rw [rounds_succ]; go_wp2_with fail)
  go_ret
  exact ⟨rfl, rfl⟩
set_option maxRecDepth 100000 in
set_option maxHeartbeats 2000000 in
theorem ls_event {w : World} {X : Nat} (h : Bare w X) : Calls Tryz.prog 45 #[.pointer (some ⟨X, 0, none⟩)] w fun e w' => e = .returned (.bool true) ∧ w' = w := by
  have c6 := h 6 (by omega) (by omega)
  have c7 := h 7 (by omega) (by omega)
  have c8 := h 8 (by omega) (by omega)
  have c9 := h 9 (by omega) (by omega)
  have c10 := h 10 (by omega) (by omega)
  have c11 := h 11 (by omega) (by omega)
  have c12 := h 12 (by omega) (by omega)
  have c13 := h 13 (by omega) (by omega)
  have c14 := h 14 (by omega) (by omega)
  have c15 := h 15 (by omega) (by omega)
  have c16 := h 16 (by omega) (by omega)
  have c17 := h 17 (by omega) (by omega)
  have c18 := h 18 (by omega) (by omega)
  have c19 := h 19 (by omega) (by omega)
  have c20 := h 20 (by omega) (by omega)
  have c21 := h 21 (by omega) (by omega)
  clear h
  go_enter Tryz.func45, Tryz.ntmps45
  go_wp2_with fail
  repeat (refine wp_loop_rounds 1 ?_; rw [rounds_succ]; go_wp2_with fail)
  go_ret
  exact ⟨rfl, rfl⟩
set_option maxRecDepth 100000 in
set_option maxHeartbeats 2000000 in
theorem ls_part {w : World} {X : Nat} (h : Bare w X) : Calls Tryz.prog 46 #[.pointer (some ⟨X, 0, none⟩)] w fun e w' => e = .returned (.bool true) ∧ w' = w := by
  have c6 := h 6 (by omega) (by omega)
  have c7 := h 7 (by omega) (by omega)
  have c8 := h 8 (by omega) (by omega)
  have c9 := h 9 (by omega) (by omega)
  have c10 := h 10 (by omega) (by omega)
  have c11 := h 11 (by omega) (by omega)
  have c12 := h 12 (by omega) (by omega)
  have c13 := h 13 (by omega) (by omega)
  have c14 := h 14 (by omega) (by omega)
  have c15 := h 15 (by omega) (by omega)
  have c16 := h 16 (by omega) (by omega)
  have c17 := h 17 (by omega) (by omega)
  have c18 := h 18 (by omega) (by omega)
  have c19 := h 19 (by omega) (by omega)
  have c20 := h 20 (by omega) (by omega)
  have c21 := h 21 (by omega) (by omega)
  clear h
  go_enter Tryz.func46, Tryz.ntmps46
  go_wp2_with fail
  repeat (refine wp_loop_rounds 1 ?_; rw [rounds_succ]; go_wp2_with fail)
  go_ret
  exact ⟨rfl, rfl⟩
set_option maxRecDepth 100000 in
set_option maxHeartbeats 2000000 in
theorem ls_name {w : World} {X : Nat} (h : Bare w X) : Calls Tryz.prog 47 #[.pointer (some ⟨X, 0, none⟩)] w fun e w' => e = .returned (.bool true) ∧ w' = w := by
  have c6 := h 6 (by omega) (by omega)
  have c7 := h 7 (by omega) (by omega)
  have c8 := h 8 (by omega) (by omega)
  have c9 := h 9 (by omega) (by omega)
  have c10 := h 10 (by omega) (by omega)
  have c11 := h 11 (by omega) (by omega)
  have c12 := h 12 (by omega) (by omega)
  have c13 := h 13 (by omega) (by omega)
  have c14 := h 14 (by omega) (by omega)
  have c15 := h 15 (by omega) (by omega)
  have c16 := h 16 (by omega) (by omega)
  have c17 := h 17 (by omega) (by omega)
  have c18 := h 18 (by omega) (by omega)
  have c19 := h 19 (by omega) (by omega)
  have c20 := h 20 (by omega) (by omega)
  have c21 := h 21 (by omega) (by omega)
  clear h
  go_enter Tryz.func47, Tryz.ntmps47
  go_wp2_with fail
  repeat (refine wp_loop_rounds 1 ?_; rw [rounds_succ]; go_wp2_with fail)
  go_ret
  exact ⟨rfl, rfl⟩
end Go.Proofs.YthnpckmgnompiaaGreatDoor
