/-
  The document's box with nothing in it: Open, open, Count, Last, Find; New.
-/
import Derived.Test.YtgoknmikpanhbaaDoorIbUn
import Derived.Deep.RegionHeld3
namespace Go.Proofs.YtgoknmikpanhbaaDoor
open Go.RowKit

section
variable {w : World} {b : Nat}
set_option maxRecDepth 100000 in
set_option maxHeartbeats 2000000 in
theorem ropen0 (cL : w.cell? ⟨b, 4, none⟩ = some (.slice none 0 0)) : Calls Tryd.prog 19 #[.pointer (some ⟨b, 1, none⟩)] w fun r w' => r = .returned (.slice none 0 0) ∧ w' = w := by
  go_enter Tryd.func19, Tryd.ntmps19
  go_wp2_with fail
  refine wp_loop_rounds 1 ?_
  rw [rounds_succ]
  go_wp2_with fail
  go_ret
  exact ⟨rfl, rfl⟩
set_option maxRecDepth 100000 in
set_option maxHeartbeats 2000000 in
theorem rop0 (cL : w.cell? ⟨b, 4, none⟩ = some (.slice none 0 0)) : Calls Tryd.prog 52 #[.pointer (some ⟨b, 1, none⟩)] w fun r w' => r = .returned (.int .i64 0) ∧ w' = w := by
  go_enter Tryd.func52, Tryd.ntmps52
  go_wp2_with fail
  refine wp_loop_rounds 1 ?_
  rw [rounds_succ]
  go_wp2_with fail
  go_ret
  exact ⟨rfl, rfl⟩
set_option maxRecDepth 100000 in
set_option maxHeartbeats 2000000 in
theorem rcount0 (cL : w.cell? ⟨b, 4, none⟩ = some (.slice none 0 0)) : Calls Tryd.prog 43 #[.pointer (some ⟨b, 1, none⟩)] w fun r w' => r = .returned (.tuple #[.int .i64 0, .int .i64 0]) ∧ Hid (Below w.heap.size w w') := by
  have HO : Hid (∀ z, Below w.heap.size w z → Calls Tryd.prog 52 #[.pointer (some ⟨b, 1, none⟩)] z fun r w' => r = .returned (.int .i64 0) ∧ Hid (Below w.heap.size w w') ∧ w'.cell? ⟨b, 4, none⟩ = some (.slice none 0 0)) := fun z hz => by
    have cz : z.cell? ⟨b, 4, none⟩ = some (.slice none 0 0) := by rw [hz.cell (p := ⟨b, 4, none⟩) (cell_lt cL)]; exact cL
    exact (rop0 cz).mono fun e w' ⟨e1, e2⟩ => ⟨e1, by subst e2; exact hz, by subst e2; exact cz⟩
  have HI : Hid (Below w.heap.size w w) := Below.refl _ _
  go_enter Tryd.func43, Tryd.ntmps43
  go_wp2_with fail
  go_region_held3 (fun z => z.cell? ⟨b, 4, none⟩ = some (.slice none 0 0)) (simp [*]) (first | (go_at_call 52; refine (HO.out _ ?_).mono ?_; (first | (with_reducible exact HI.out) | (with_reducible exact HI.out.drew) | exact below_drewN HI.out _); clear HO; rintro _ w1 ⟨rfl, H1, s1⟩))
  go_wp2_with fail
  refine bodyPost_ret (v := .tuple #[.int .i64 0, .int .i64 0]) ?_ rfl ⟨rfl, ?_⟩
  · simp [results, Tryd.results43, go_sem]
  · first | exact H1 | exact H1.out.drew
set_option maxRecDepth 100000 in
set_option maxHeartbeats 2000000 in
theorem rlast0 (cL : w.cell? ⟨b, 4, none⟩ = some (.slice none 0 0)) : Calls Tryd.prog 37 #[.pointer (some ⟨b, 1, none⟩)] w fun r w' => r = .returned (.tuple #[.agg #[.string ⟨#[]⟩, .slice none 0 0, .int .i64 0, .int .i64 0, .slice none 0 0, .string ⟨#[]⟩, .slice none 0 0], .bool false]) ∧ Below w.heap.size w w' := by
  have bv : Below w.heap.size w (w.alloc (.cells #[.string ⟨#[]⟩, .slice none 0 0, .int .i64 0, .int .i64 0, .slice none 0 0, .string ⟨#[]⟩, .slice none 0 0] 24)) := (Below.refl _ _).alloc (Nat.le_refl _) _
  have bx := Box.new w #[.string ⟨#[]⟩, .slice none 0 0, .int .i64 0, .int .i64 0, .slice none 0 0, .string ⟨#[]⟩, .slice none 0 0] 24
  obtain ⟨V, hV⟩ : ∃ V, w.alloc (.cells #[.string ⟨#[]⟩, .slice none 0 0, .int .i64 0, .int .i64 0, .slice none 0 0, .string ⟨#[]⟩, .slice none 0 0] 24) = V := ⟨_, rfl⟩
  rw [hV] at bv bx
  have cV : V.cell? ⟨b, 4, none⟩ = some (.slice none 0 0) := by rw [bv.cell (p := ⟨b, 4, none⟩) (cell_lt cL)]; exact cL
  have cx := bx.cell
  have fx := bx.free
  have HB : Hid (Below w.heap.size w V) := bv
  clear bv bx cL
  go_enter Tryd.func37, Tryd.ntmps37
  go_wp2_with fail
  clear hV
  refine bodyPost_ret (v := .tuple #[.agg #[.string ⟨#[]⟩, .slice none 0 0, .int .i64 0, .int .i64 0, .slice none 0 0, .string ⟨#[]⟩, .slice none 0 0], .bool false]) ?_ rfl ⟨rfl, ?_⟩
  · simp [results, Tryd.results37, go_sem, cx]
  · repeat' (first | (with_reducible exact HB.out) | (with_reducible refine Below.setCell ?_ (by exact Nat.le_refl _) _) | (with_reducible refine Below.alloc ?_ (by simp; omega) _))
set_option maxRecDepth 100000 in
set_option maxHeartbeats 2000000 in
theorem rnew_ok (K R : Int) (h : 1 ≤ K ∧ K ≤ 64 ∧ 1 ≤ R ∧ R ≤ 32) : Calls Tryd.prog 17 #[.int .i64 K, .int .i64 R] w fun r w' => r = .returned (.tuple #[.agg #[.bool true, .int .i64 K, .int .i64 R, .slice none 0 0], .int .i64 0]) ∧ Below w.heap.size w w' := by
  obtain ⟨h1, h2, h3, h4⟩ := h
  have a1 : ¬ K < 1 := by omega
  have a2 : ¬ 64 < K := by omega
  have a3 : ¬ R < 1 := by omega
  have a4 : ¬ 32 < R := by omega
  have bv : Below w.heap.size w (w.alloc (.cells #[.bool false, .int .i64 0, .int .i64 0, .slice none 0 0] 55)) := (Below.refl _ _).alloc (Nat.le_refl _) _
  have bx := Box.new w #[.bool false, .int .i64 0, .int .i64 0, .slice none 0 0] 55
  obtain ⟨V, hV⟩ : ∃ V, w.alloc (.cells #[.bool false, .int .i64 0, .int .i64 0, .slice none 0 0] 55) = V := ⟨_, rfl⟩
  rw [hV] at bv bx
  have cx := bx.cell
  have fx := bx.free
  have HB : Hid (Below w.heap.size w V) := bv
  clear bv bx
  go_enter Tryd.func17, Tryd.ntmps17
  go_wp2_with fail
  clear hV
  refine bodyPost_ret (v := .tuple #[.agg #[.bool true, .int .i64 K, .int .i64 R, .slice none 0 0], .int .i64 0]) ?_ rfl ⟨rfl, ?_⟩
  · simp [results, Tryd.results17, go_sem, cx]
  · repeat' (first | (with_reducible exact HB.out) | (with_reducible refine Below.setCell ?_ (by exact Nat.le_refl _) _) | (with_reducible refine Below.alloc ?_ (by simp; omega) _))
set_option maxRecDepth 100000 in
set_option maxHeartbeats 2000000 in
theorem rnew_no (K R : Int) (h : ¬ (1 ≤ K ∧ K ≤ 64 ∧ 1 ≤ R ∧ R ≤ 32)) : Calls Tryd.prog 17 #[.int .i64 K, .int .i64 R] w fun r w' => r = .returned (.tuple #[.agg #[.bool false, .int .i64 0, .int .i64 0, .slice none 0 0], .int .i64 1]) ∧ Below w.heap.size w w' := by
  have bv : Below w.heap.size w (w.alloc (.cells #[.bool false, .int .i64 0, .int .i64 0, .slice none 0 0] 55)) := (Below.refl _ _).alloc (Nat.le_refl _) _
  have bx := Box.new w #[.bool false, .int .i64 0, .int .i64 0, .slice none 0 0] 55
  obtain ⟨V, hV⟩ : ∃ V, w.alloc (.cells #[.bool false, .int .i64 0, .int .i64 0, .slice none 0 0] 55) = V := ⟨_, rfl⟩
  rw [hV] at bv bx
  have cx := bx.cell
  have fx := bx.free
  have HB : Hid (Below w.heap.size w V) := bv
  clear bv bx
  rcases (by omega : K < 1 ∨ (¬ K < 1 ∧ 64 < K) ∨ (¬ K < 1 ∧ ¬ 64 < K ∧ R < 1) ∨ (¬ K < 1 ∧ ¬ 64 < K ∧ ¬ R < 1 ∧ 32 < R)) with a1 | ⟨a1, a2⟩ | ⟨a1, a2, a3⟩ | ⟨a1, a2, a3, a4⟩ <;> clear h
  all_goals
    go_enter Tryd.func17, Tryd.ntmps17
    go_wp2_with fail
    clear hV
    refine bodyPost_ret (v := .tuple #[.agg #[.bool false, .int .i64 0, .int .i64 0, .slice none 0 0], .int .i64 1]) ?_ rfl ⟨rfl, ?_⟩
    · simp [results, Tryd.results17, go_sem, cx]
    · repeat' (first | (with_reducible exact HB.out) | (with_reducible refine Below.setCell ?_ (by exact Nat.le_refl _) _) | (with_reducible refine Below.alloc ?_ (by simp; omega) _))
end
end Go.Proofs.YtgoknmikpanhbaaDoor
