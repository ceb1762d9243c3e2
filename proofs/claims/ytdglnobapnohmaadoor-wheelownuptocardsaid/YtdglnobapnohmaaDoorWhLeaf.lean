/-
  wheel's leaves: digit, levelOf, fault, made, inOrder.
-/
import Derived.Test.YtdglnobapnohmaaDoorWhMap
namespace Go.Proofs.YtdglnobapnohmaaDoor
open Go.RowKit

theorem and63 (x : Nat) (h : x < 9223372036854775808) : bits .and .i64 (x : Int) 63 = ((x % 64 : Nat) : Int) := by
  show IntKind.i64.wrap ((BitVec.ofInt 64 (x : Int) &&& BitVec.ofInt 64 ((63 : Nat) : Int)).toNat : Int) = _
  have e1 : (BitVec.ofInt 64 (x : Int)).toNat = x := by simp; omega
  have e2 : (BitVec.ofInt 64 ((63 : Nat) : Int)).toNat = 2 ^ 6 - 1 := by decide
  rw [BitVec.toNat_and, e1, e2, Nat.and_two_pow_sub_one_eq_mod]
  have : x % 2 ^ 6 < 64 := Nat.mod_lt _ (by omega)
  rw [IntKind.wrap_i64]
  omega
set_option maxHeartbeats 1000000 in
theorem digit_any (w : World) (t l : Nat) (ht : t ≤ MaxT) (hl : l ≤ 6) : Calls Tryd.prog 50 #[.int .i64 (t : Int), .int .i64 (l : Int)] w fun e w' => e = .returned (.int .i64 (dig t l : Nat)) ∧ w' = w := by
  unfold MaxT at ht
  have h : ∀ p : Nat, bits .and .i64 ((t : Int) / (p : Int)) 63 = (t : Int) / (p : Int) % 64 := fun p => by
    rw [← Int.natCast_ediv, and63 _ (Nat.lt_of_le_of_lt (Nat.div_le_self t p) (by omega)), Int.natCast_emod]
    rfl
  have h0 : bits .and .i64 (t : Int) 63 = (t : Int) % 64 := by
    rw [and63 _ (by omega), Int.natCast_emod]
    rfl
  unfold dig
  rcases (by omega : l = 0 ∨ l = 1 ∨ l = 2 ∨ l = 3 ∨ l = 4 ∨ l = 5 ∨ l = 6) with rfl | rfl | rfl | rfl | rfl | rfl | rfl
  all_goals
    go_enter Tryd.func50, Tryd.ntmps50
    go_wp2
    go_ret
    refine ⟨?_, rfl⟩
    first | (simp; done) | simp
    first | done | exact h0 | exact h 64 | exact h 4096 | exact h 262144 | exact h 16777216 | exact h 1073741824 | exact h 68719476736
/-- Two ticks at a level. -/
theorem ne_t {a b p : Nat} (h : a / p ≠ b / p) : (((a : Int) / (p : Int)) != ((b : Int) / (p : Int))) = true := by
  rw [← Int.natCast_ediv, ← Int.natCast_ediv, bne_iff_ne]
  omega
theorem ne_f {a b p : Nat} (h : a / p = b / p) : (((a : Int) / (p : Int)) != ((b : Int) / (p : Int))) = false := by
  rw [← Int.natCast_ediv, ← Int.natCast_ediv, h]
  exact bne_self_eq_false _
set_option maxRecDepth 20000 in
set_option maxHeartbeats 4000000 in
theorem levelOf_any (w : World) (a b : Nat) (ha : a ≤ MaxT) (hb : b ≤ MaxT) : Calls Tryd.prog 49 #[.int .i64 (a : Int), .int .i64 (b : Int)] w fun e w' => e = .returned (.int .i64 (lev a b : Nat)) ∧ ∃ n, w' = w.drewN n := by
  have hle := lev_le a b
  have hne : ∀ l, l < lev a b → ((a : Int) / ((64 ^ (l + 1) : Nat) : Int) != (b : Int) / ((64 ^ (l + 1) : Nat) : Int)) = true := fun l hl => ne_t (lev_ne hl)
  have heq : ((a : Int) / ((64 ^ (lev a b + 1) : Nat) : Int) != (b : Int) / ((64 ^ (lev a b + 1) : Nat) : Int)) = false := ne_f (lev_eq ha hb)
  unfold MaxT at ha hb
  have ha1 : (a : Int) ≤ 1099511627776 := by omega
  have hb1 : (b : Int) ≤ 1099511627776 := by omega
  generalize lev a b = l at hle hne heq ⊢
  rcases (by omega : l = 0 ∨ l = 1 ∨ l = 2 ∨ l = 3 ∨ l = 4 ∨ l = 5 ∨ l = 6) with rfl | rfl | rfl | rfl | rfl | rfl | rfl
  · have q0 : ((a : Int) / 64 != (b : Int) / 64) = false := heq
    clear hne heq
    go_enter Tryd.func49, Tryd.ntmps49
    go_wp2
    refine wp_loop_rounds 2 ?_
    iterate 1 (rw [rounds_succ]; go_wp2; go_quiet (fail); go_wp2)
    go_ret
    refine ⟨rfl, ?_⟩
    first | exact ⟨_, rfl⟩ | exact ⟨_, World.drewN_drewN ..⟩
  · have q0 : ((a : Int) / 64 != (b : Int) / 64) = true := hne 0 (by omega)
    have q1 : ((a : Int) / 4096 != (b : Int) / 4096) = false := heq
    clear hne heq
    go_enter Tryd.func49, Tryd.ntmps49
    go_wp2
    refine wp_loop_rounds 3 ?_
    iterate 2 (rw [rounds_succ]; go_wp2; go_quiet (fail); go_wp2)
    go_ret
    refine ⟨rfl, ?_⟩
    first | exact ⟨_, rfl⟩ | exact ⟨_, World.drewN_drewN ..⟩
  · have q0 : ((a : Int) / 64 != (b : Int) / 64) = true := hne 0 (by omega)
    have q1 : ((a : Int) / 4096 != (b : Int) / 4096) = true := hne 1 (by omega)
    have q2 : ((a : Int) / 262144 != (b : Int) / 262144) = false := heq
    clear hne heq
    go_enter Tryd.func49, Tryd.ntmps49
    go_wp2
    refine wp_loop_rounds 4 ?_
    iterate 3 (rw [rounds_succ]; go_wp2; go_quiet (fail); go_wp2)
    go_ret
    refine ⟨rfl, ?_⟩
    first | exact ⟨_, rfl⟩ | exact ⟨_, World.drewN_drewN ..⟩
  · have q0 : ((a : Int) / 64 != (b : Int) / 64) = true := hne 0 (by omega)
    have q1 : ((a : Int) / 4096 != (b : Int) / 4096) = true := hne 1 (by omega)
    have q2 : ((a : Int) / 262144 != (b : Int) / 262144) = true := hne 2 (by omega)
    have q3 : ((a : Int) / 16777216 != (b : Int) / 16777216) = false := heq
    clear hne heq
    go_enter Tryd.func49, Tryd.ntmps49
    go_wp2
    refine wp_loop_rounds 5 ?_
    iterate 4 (rw [rounds_succ]; go_wp2; go_quiet (fail); go_wp2)
    go_ret
    refine ⟨rfl, ?_⟩
    first | exact ⟨_, rfl⟩ | exact ⟨_, World.drewN_drewN ..⟩
  · have q0 : ((a : Int) / 64 != (b : Int) / 64) = true := hne 0 (by omega)
    have q1 : ((a : Int) / 4096 != (b : Int) / 4096) = true := hne 1 (by omega)
    have q2 : ((a : Int) / 262144 != (b : Int) / 262144) = true := hne 2 (by omega)
    have q3 : ((a : Int) / 16777216 != (b : Int) / 16777216) = true := hne 3 (by omega)
    have q4 : ((a : Int) / 1073741824 != (b : Int) / 1073741824) = false := heq
    clear hne heq
    go_enter Tryd.func49, Tryd.ntmps49
    go_wp2
    refine wp_loop_rounds 6 ?_
    iterate 5 (rw [rounds_succ]; go_wp2; go_quiet (fail); go_wp2)
    go_ret
    refine ⟨rfl, ?_⟩
    first | exact ⟨_, rfl⟩ | exact ⟨_, World.drewN_drewN ..⟩
  · have q0 : ((a : Int) / 64 != (b : Int) / 64) = true := hne 0 (by omega)
    have q1 : ((a : Int) / 4096 != (b : Int) / 4096) = true := hne 1 (by omega)
    have q2 : ((a : Int) / 262144 != (b : Int) / 262144) = true := hne 2 (by omega)
    have q3 : ((a : Int) / 16777216 != (b : Int) / 16777216) = true := hne 3 (by omega)
    have q4 : ((a : Int) / 1073741824 != (b : Int) / 1073741824) = true := hne 4 (by omega)
    have q5 : ((a : Int) / 68719476736 != (b : Int) / 68719476736) = false := heq
    clear hne heq
    go_enter Tryd.func49, Tryd.ntmps49
    go_wp2
    refine wp_loop_rounds 7 ?_
    iterate 6 (rw [rounds_succ]; go_wp2; go_quiet (fail); go_wp2)
    go_ret
    refine ⟨rfl, ?_⟩
    first | exact ⟨_, rfl⟩ | exact ⟨_, World.drewN_drewN ..⟩
  · have q0 : ((a : Int) / 64 != (b : Int) / 64) = true := hne 0 (by omega)
    have q1 : ((a : Int) / 4096 != (b : Int) / 4096) = true := hne 1 (by omega)
    have q2 : ((a : Int) / 262144 != (b : Int) / 262144) = true := hne 2 (by omega)
    have q3 : ((a : Int) / 16777216 != (b : Int) / 16777216) = true := hne 3 (by omega)
    have q4 : ((a : Int) / 1073741824 != (b : Int) / 1073741824) = true := hne 4 (by omega)
    have q5 : ((a : Int) / 68719476736 != (b : Int) / 68719476736) = true := hne 5 (by omega)
    have q6 : ((a : Int) / 4398046511104 != (b : Int) / 4398046511104) = false := heq
    clear hne heq
    go_enter Tryd.func49, Tryd.ntmps49
    go_wp2
    refine wp_loop_rounds 8 ?_
    iterate 7 (rw [rounds_succ]; go_wp2; go_quiet (fail); go_wp2)
    go_ret
    refine ⟨rfl, ?_⟩
    first | exact ⟨_, rfl⟩ | exact ⟨_, World.drewN_drewN ..⟩
/-! ### the order of timers -/
def cmpI (x y : Int) : Int := if x < y then -1 else if y < x then 1 else 0
def cfT (x y : Tm) : Int := if (x.2 : Int) < y.2 then -1 else if (y.2 : Int) < x.2 then 1 else cmpI x.1 y.1
theorem isNaN_any (w : World) (x : Int) : Calls Tryd.prog 71 #[.int .i64 x] w fun e w' => e = .returned (.bool false) ∧ w' = w := by
  have h : (x != x) = false := bne_self_eq_false x
  go_enter Tryd.func71, Tryd.ntmps71
  go_wp2
  go_ret
  exact ⟨rfl, rfl⟩
set_option maxHeartbeats 1000000 in
theorem compare_any (w : World) (x y : Int) : Calls Tryd.prog 55 #[.int .i64 x, .int .i64 y] w fun e w' => e = .returned (.int .i64 (cmpI x y)) ∧ w' = w := by
  unfold cmpI
  rcases (by omega : x < y ∨ (¬ x < y ∧ y < x) ∨ (¬ x < y ∧ ¬ y < x)) with h | ⟨h, h1⟩ | ⟨h, h1⟩
  all_goals
    go_enter Tryd.func55, Tryd.ntmps55
    go_wp2_with (go_at_call 71; refine (isNaN_any _ _).mono ?_; rintro _ _ ⟨rfl, rfl⟩)
    go_ret
    refine ⟨?_, rfl⟩
    simp [*]
set_option maxHeartbeats 1000000 in
theorem or_any (w : World) (x y : Int) (b : Nat) (h0 : w.cell? ⟨b, 0, none⟩ = some (.int .i64 x)) (h1 : w.cell? ⟨b, 1, none⟩ = some (.int .i64 y)) : Calls Tryd.prog 54 #[.slice (some ⟨b, 0, none⟩) 2 2] w fun e w' => e = .returned (.int .i64 (if x = 0 then y else x)) ∧ w' = w := by
  by_cases hx : x = 0
  · by_cases hy : y = 0
    · subst hx; subst hy
      go_enter Tryd.func54, Tryd.ntmps54
      go_wp2
      refine wp_loop_rounds 3 ?_
      iterate 3 (rw [rounds_succ]; go_wp2)
      go_ret
      exact ⟨rfl, rfl⟩
    · subst hx
      have hy1 : (y != 0) = true := by simp [hy]
      have hy2 : (y == 0) = false := by simp [hy]
      go_enter Tryd.func54, Tryd.ntmps54
      go_wp2
      refine wp_loop_rounds 3 ?_
      iterate 2 (rw [rounds_succ]; go_wp2)
      go_ret
      exact ⟨rfl, rfl⟩
  · have hx1 : (x != 0) = true := by simp [hx]
    have hx2 : (x == 0) = false := by simp [hx]
    go_enter Tryd.func54, Tryd.ntmps54
    go_wp2
    refine wp_loop_rounds 2 ?_
    rw [rounds_succ]; go_wp2
    go_ret
    refine ⟨?_, rfl⟩
    simp
theorem fault_any (w : World) (c : Int) : Calls Tryd.prog 10 #[.int .i64 c] w fun e w' => e = .returned (.iface 56 (.pointer (some ⟨w.heap.size, 0, none⟩))) ∧ w' = w.alloc (.cells #[.string ⟨#[119, 104, 101, 101, 108]⟩, .int .i64 0, .int .i64 c, .nilIface] 60) := by
  go_enter Tryd.func10, Tryd.ntmps10
  go_wp2
  go_ret
  exact ⟨rfl, rfl⟩
end Go.Proofs.YtdglnobapnohmaaDoor
