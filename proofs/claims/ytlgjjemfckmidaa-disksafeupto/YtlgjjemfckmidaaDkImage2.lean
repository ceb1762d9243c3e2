import Derived.Test.YtlgjjemfckmidaaPrReads
import Derived.Test.YtlgjjemfckmidaaDkImage
/-
  Both disks: Len and Synced, Fuse, Crash, Alive.
-/
namespace Go.Proofs.Ytlgjjemfckmidaa
open Go.RowKit

def lnV (σ : Sg) (ar : Int) : Int := if ar = 0 then σ.x0.length else if ar = 1 then σ.x1.length else 0
def snV (σ : Sg) (ar : Int) : Int := if ar = 0 then σ.s0 else if ar = 1 then σ.s1 else 0
def lnC (ar : Int) : Int := if ar = 0 ∨ ar = 1 then 0 else 2
def fusS (σ : Sg) (n : Int) : Sg := if σ.dead then σ else { σ with fuse := max n (-1) }
/-- What a crash leaves. -/
def crS (σ : Sg) (tk0 tz0 tk1 tz1 : Int) : Sg :=
  let k0 := (betw tk0 ((σ.x0.length - σ.s0 : Nat) : Int)).toNat
  let z0 := (betw tz0 ((σ.x0.length - σ.s0 - k0 : Nat) : Int)).toNat
  let k1 := (betw tk1 ((σ.x1.length - σ.s1 : Nat) : Int)).toNat
  let z1 := (betw tz1 ((σ.x1.length - σ.s1 - k1 : Nat) : Int)).toNat
  { σ with x0 := torn σ.x0 σ.s0 k0 z0, x1 := torn σ.x1 σ.s1 k1 z1, s0 := (torn σ.x0 σ.s0 k0 z0).length, s1 := (torn σ.x1 σ.s1 k1 z1).length, dead := false, fuse := -1 }
section
variable {w : World} {B K R : Nat} {v0 v1 : Value} {v : Nat → Value} {σ : Sg}
theorem dLen (h : DskS w B K v0 v1 σ) (ar : Int) : Calls Try.prog 14 #[.pointer (some ⟨K, 0, none⟩), .int .i64 ar] w fun e w' => ∃ ev, e = .returned (.tuple #[.int .i64 (lnV σ ar), ev]) ∧ EvD w' w.heap.size ev (lnC ar) ∧ Below w.heap.size w w' := by
  by_cases h0 : ar = 0
  · subst h0
    refine (Len0_ok h (stOf_any _)).mono ?_
    rintro e w' ⟨he, rfl⟩
    exact ⟨_, by simpa [lnV] using he, by simpa [lnC] using EvD.nil _ _, Below.refl _ _⟩
  · by_cases h1 : ar = 1
    · subst h1
      refine (Len1_ok h (stOf_any _)).mono ?_
      rintro e w' ⟨he, rfl⟩
      exact ⟨_, by simpa [lnV] using he, by simpa [lnC] using EvD.nil _ _, Below.refl _ _⟩
    · refine (Len_bad ar h (stOf_any _) h0 h1).mono ?_
      rintro e w' ⟨he, hf, hb⟩
      have e1 : lnV σ ar = 0 := by simp [lnV, h0, h1]
      have e2 : lnC ar = 2 := by simp [lnC, h0, h1]
      rw [e1, e2]
      exact ⟨_, he, EvD.mk hf rfl, hb⟩
theorem dSynced (h : DskS w B K v0 v1 σ) (ar : Int) : Calls Try.prog 40 #[.pointer (some ⟨K, 0, none⟩), .int .i64 ar] w fun e w' => ∃ ev, e = .returned (.tuple #[.int .i64 (snV σ ar), ev]) ∧ EvD w' w.heap.size ev (lnC ar) ∧ Below w.heap.size w w' := by
  by_cases h0 : ar = 0
  · subst h0
    refine (Synced0_ok h (stOf_any _)).mono ?_
    rintro e w' ⟨he, rfl⟩
    exact ⟨_, by simpa [snV] using he, by simpa [lnC] using EvD.nil _ _, Below.refl _ _⟩
  · by_cases h1 : ar = 1
    · subst h1
      refine (Synced1_ok h (stOf_any _)).mono ?_
      rintro e w' ⟨he, rfl⟩
      exact ⟨_, by simpa [snV] using he, by simpa [lnC] using EvD.nil _ _, Below.refl _ _⟩
    · refine (Synced_bad ar h (stOf_any _) h0 h1).mono ?_
      rintro e w' ⟨he, hf, hb⟩
      have e1 : snV σ ar = 0 := by simp [snV, h0, h1]
      have e2 : lnC ar = 2 := by simp [lnC, h0, h1]
      rw [e1, e2]
      exact ⟨_, he, EvD.mk hf rfl, hb⟩
theorem drewB (w : World) (k : Nat) : Below w.heap.size w (w.drewN k) := ((Off.refl (fun _ => False) w).drewN k).below (Nat.le_refl _) (fun _ p => p.elim)
theorem rSize (h : RkS w B R v σ) (ar : Int) : Calls Try.prog 41 #[.pointer (some ⟨R, 0, none⟩), .int .i64 ar] w fun e w' => e = .returned (.tuple #[.int .i64 (lnV σ ar), .int .i64 (lnC ar)]) ∧ Below w.heap.size w w' := by
  by_cases h0 : ar = 0
  · subst h0
    refine (rSize0_ok h).mono ?_
    rintro e w' ⟨he, k, rfl⟩
    have hs := rx_sum0 σ
    rw [← Int.natCast_add, hs] at he
    exact ⟨by simpa [lnV, lnC] using he, drewB _ _⟩
  · by_cases h1 : ar = 1
    · subst h1
      refine (rSize1_ok h).mono ?_
      rintro e w' ⟨he, k, rfl⟩
      have hs := rx_sum1 σ
      rw [← Int.natCast_add, hs] at he
      exact ⟨by simpa [lnV, lnC] using he, drewB _ _⟩
    · refine (rSize_bad ar h0 h1 h).mono ?_
      rintro e w' ⟨he, rfl⟩
      have e1 : lnV σ ar = 0 := by simp [lnV, h0, h1]
      have e2 : lnC ar = 2 := by simp [lnC, h0, h1]
      rw [e1, e2]
      exact ⟨he, Below.refl _ _⟩
theorem rSafe (h : RkS w B R v σ) (ok : σ.Ok) (ar : Int) : Calls Try.prog 42 #[.pointer (some ⟨R, 0, none⟩), .int .i64 ar] w fun e w' => e = .returned (.tuple #[.int .i64 (snV σ ar), .int .i64 (lnC ar)]) ∧ Below w.heap.size w w' := by
  by_cases h0 : ar = 0
  · subst h0
    refine (rSafe0_ok h).mono ?_
    rintro e w' ⟨he, rfl⟩
    have hs : (rx σ 0).length = σ.s0 := by have := ok.s0; simp [rx]; omega
    rw [hs] at he
    exact ⟨by simpa [snV, lnC] using he, Below.refl _ _⟩
  · by_cases h1 : ar = 1
    · subst h1
      refine (rSafe1_ok h).mono ?_
      rintro e w' ⟨he, rfl⟩
      have hs : (rx σ 2).length = σ.s1 := by have := ok.s1; simp [rx]; omega
      rw [hs] at he
      exact ⟨by simpa [snV, lnC] using he, Below.refl _ _⟩
    · refine (rSafe_bad ar h0 h1 h).mono ?_
      rintro e w' ⟨he, rfl⟩
      have e1 : snV σ ar = 0 := by simp [snV, h0, h1]
      have e2 : lnC ar = 2 := by simp [lnC, h0, h1]
      rw [e1, e2]
      exact ⟨he, Below.refl _ _⟩
theorem dFuse (h : DskS w B K v0 v1 σ) (n : Int) (hn : n ≤ 9223372036854775807) : Calls Try.prog 10 #[.pointer (some ⟨K, 0, none⟩), .int .i64 n] w fun e w' => e = .returned (.tuple #[]) ∧ DskS w' B K v0 v1 (fusS σ n) ∧ DStep w w' K v0 v1 v0 v1 := by
  unfold fusS
  cases hd : σ.dead with
  | true =>
    have h' := h
    unfold DskS at h'
    rw [hd] at h'
    refine (Fuse_dead n h').mono ?_
    rintro e w' ⟨he, rfl⟩
    exact ⟨he, h, DStep.refl _ _ _ _⟩
  | false =>
    have h' := h
    unfold DskS at h'
    rw [hd] at h'
    refine (Fuse_ok n h' hn).mono ?_
    rintro e w' ⟨he, hk, hs⟩
    refine ⟨he, ?_, hs⟩
    simp only [DskS]
    exact hk
theorem rFuse (h : RkS w B R v σ) (n : Int) (hn : -9223372036854775808 ≤ n ∧ n ≤ 9223372036854775807) : Calls Try.prog 43 #[.pointer (some ⟨R, 0, none⟩), .int .i64 n] w fun e w' => e = .returned (.tuple #[]) ∧ RkS w' B R v (fusS σ n) ∧ RStep w w' R v v := by
  refine (rFuse_any n h hn).mono ?_
  rintro e w' ⟨he, hk, hs⟩
  refine ⟨he, ?_, hs⟩
  unfold fusS
  cases hd : σ.dead with
  | true =>
    have h3 : RkS w' B R v σ := by
      unfold RkS
      rw [hd] at hk ⊢
      simpa using hk
    exact h3
  | false =>
    rw [hd] at hk
    have e1 : (if n < 0 then -1 else n) = max n (-1) := by split <;> omega
    simp only [Bool.false_eq_true, if_false, e1] at hk
    simp only [RkS]
    exact hk
end
end Go.Proofs.Ytlgjjemfckmidaa

/-
  Both disks: Crash.
-/
namespace Go.Proofs.Ytlgjjemfckmidaa
open Go.RowKit

theorem betw_back (n : Int) (m : Nat) : ((betw n (m : Int)).toNat : Int) = betw n (m : Int) := by unfold betw; omega
theorem torn_parts (xs : List Int) (s k z : Nat) : xs.take s ++ (xs.drop s).take k ++ List.replicate z 0 = torn xs s k z := by
  unfold torn; rw [List.take_add]
section
variable {w : World} {B K R : Nat} {v0 v1 : Value} {v : Nat → Value} {σ : Sg}
theorem dCrash (h : DskS w B K v0 v1 σ) (ok : σ.Ok) (tk0 tz0 tk1 tz1 : Int) : Calls Try.prog 23 #[.pointer (some ⟨K, 0, none⟩), .agg #[.int .i64 tk0, .int .i64 tz0, .int .i64 tk1, .int .i64 tz1]] w fun e w' => e = .returned (.tuple #[]) ∧ ∃ v0' v1', DskS w' B K v0' v1' (crS σ tk0 tz0 tk1 tz1) ∧ DStep w w' K v0 v1 v0' v1' := by
  have s0 := ok.s0
  have s1 := ok.s1
  obtain ⟨k0, hk0⟩ : ∃ k, (betw tk0 ((σ.x0.length - σ.s0 : Nat) : Int)).toNat = k := ⟨_, rfl⟩
  obtain ⟨k1, hk1⟩ : ∃ k, (betw tk1 ((σ.x1.length - σ.s1 : Nat) : Int)).toNat = k := ⟨_, rfl⟩
  obtain ⟨z0, hz0⟩ : ∃ k, (betw tz0 ((σ.x0.length - σ.s0 - k0 : Nat) : Int)).toNat = k := ⟨_, rfl⟩
  obtain ⟨z1, hz1⟩ : ∃ k, (betw tz1 ((σ.x1.length - σ.s1 - k1 : Nat) : Int)).toNat = k := ⟨_, rfl⟩
  have b0 : betw tk0 ((σ.x0.length : Int) - σ.s0) = (k0 : Int) := by rw [← hk0, betw_back]; congr 1; omega
  have b1 : betw tk1 ((σ.x1.length : Int) - σ.s1) = (k1 : Int) := by rw [← hk1, betw_back]; congr 1; omega
  have l0 : (k0 : Int) ≤ (σ.x0.length : Int) - σ.s0 := by rw [← b0]; unfold betw; omega
  have l1 : (k1 : Int) ≤ (σ.x1.length : Int) - σ.s1 := by rw [← b1]; unfold betw; omega
  have c0 : betw tz0 ((σ.x0.length : Int) - σ.s0 - k0) = (z0 : Int) := by rw [← hz0, betw_back]; congr 1; omega
  have c1 : betw tz1 ((σ.x1.length : Int) - σ.s1 - k1) = (z1 : Int) := by rw [← hz1, betw_back]; congr 1; omega
  refine (Crash_ok h (stOf_any _) b0 c0 b1 c1).mono ?_
  rintro e w' ⟨he, v0', v1', hd, hs⟩
  refine ⟨he, v0', v1', ?_, hs⟩
  simp only [DskS, crS, hk0, hk1, hz0, hz1]
  exact hd
theorem rCrash (h : RkS w B R v σ) (ok : σ.Ok) (tk0 tz0 tk1 tz1 : Int) : Calls Try.prog 44 #[.pointer (some ⟨R, 0, none⟩), .agg #[.int .i64 tk0, .int .i64 tz0, .int .i64 tk1, .int .i64 tz1]] w fun e w' => e = .returned (.tuple #[]) ∧ ∃ v', RkS w' B R v' (crS σ tk0 tz0 tk1 tz1) ∧ RStep w w' R v v' := by
  have s0 := ok.s0
  have s1 := ok.s1
  have m0 : (rx σ 1).length = σ.x0.length - σ.s0 := by simp [rx]
  have m1 : (rx σ 3).length = σ.x1.length - σ.s1 := by simp [rx]
  obtain ⟨k0, hk0⟩ : ∃ k, (betw tk0 ((σ.x0.length - σ.s0 : Nat) : Int)).toNat = k := ⟨_, rfl⟩
  obtain ⟨k1, hk1⟩ : ∃ k, (betw tk1 ((σ.x1.length - σ.s1 : Nat) : Int)).toNat = k := ⟨_, rfl⟩
  obtain ⟨z0, hz0⟩ : ∃ k, (betw tz0 ((σ.x0.length - σ.s0 - k0 : Nat) : Int)).toNat = k := ⟨_, rfl⟩
  obtain ⟨z1, hz1⟩ : ∃ k, (betw tz1 ((σ.x1.length - σ.s1 - k1 : Nat) : Int)).toNat = k := ⟨_, rfl⟩
  have b0 : betw tk0 ((rx σ 1).length : Int) = (k0 : Int) := by rw [← hk0, betw_back, m0]
  have b1 : betw tk1 ((rx σ 3).length : Int) = (k1 : Int) := by rw [← hk1, betw_back, m1]
  have l0 : (k0 : Int) ≤ ((σ.x0.length - σ.s0 : Nat) : Int) := by rw [← b0, m0]; unfold betw; omega
  have l1 : (k1 : Int) ≤ ((σ.x1.length - σ.s1 : Nat) : Int) := by rw [← b1, m1]; unfold betw; omega
  have c0 : betw tz0 (((rx σ 1).length : Int) - (k0 : Int)) = (z0 : Int) := by rw [← hz0, betw_back, m0]; congr 1; omega
  have c1 : betw tz1 (((rx σ 3).length : Int) - (k1 : Int)) = (z1 : Int) := by rw [← hz1, betw_back, m1]; congr 1; omega
  have q0 := rx_sum0 σ
  have q1 := rx_sum1 σ
  have o0 := ok.l0
  have o1 := ok.l1
  refine (rCrash_any h (by omega) (by omega) b0 c0 b1 c1).mono ?_
  rintro e w' ⟨he, v', hr, hs⟩
  refine ⟨he, v', ?_, hs⟩
  simp only [RkS, crS, hk0, hk1, hz0, hz1]
  refine hr.congr (fun q hq => ?_)
  match q, hq with
  | 0, _ => simp only [upd, rx]; simp; rw [← List.append_assoc, torn_parts]
  | 1, _ => simp [upd, rx]
  | 2, _ => simp only [upd, rx]; simp; rw [← List.append_assoc, torn_parts]
  | 3, _ => simp [upd, rx]
end
end Go.Proofs.Ytlgjjemfckmidaa

/-
  Image, with the two lists apart.
-/
namespace Go.Proofs.Ytlgjjemfckmidaa
open Go.RowKit

set_option maxRecDepth 100000 in
set_option maxHeartbeats 2000000 in
theorem safe_two {w : World} {B K : Nat} {v0 v1 : Value} {x0 x1 : List Int} {s0 s1 : Nat} {st fu na ns nc : Int} (h : Dsk w B K v0 v1 x0 x1 s0 s1 st fu na ns nc) :
    Calls Try.prog 28 #[.pointer (some ⟨K, 0, none⟩)] w fun e w' => ∃ a0 n0 c0 a1 n1 c1, e = .returned (.agg #[.slice a0 n0 c0, .slice a1 n1 c1]) ∧ Row w' w.heap.size (.slice a0 n0 c0) (x0.take s0) ∧ Row w' w.heap.size (.slice a1 n1 c1) (x1.take s1) ∧ (∃ N, (∀ g, (Value.slice a0 n0 c0).ownBlock = some g → g < N) ∧ (∀ g, (Value.slice a1 n1 c1).ownBlock = some g → N ≤ g)) ∧ Below w.heap.size w w' := by
  have HA : Hid (Dsk ((w.alloc (.cells #[.slice none 0 0, .slice none 0 0] 26)).alloc (.cells #[.slice none 0 0, .slice none 0 0] 26)) B K v0 v1 x0 x1 s0 s1 st fu na ns nc) := h.off (P := fun _ => False) (((Off.refl _ _).alloc _).alloc _) (fun _ _ => id)
  have k1 : ((w.alloc (.cells #[.slice none 0 0, .slice none 0 0] 26)).alloc (.cells #[.slice none 0 0, .slice none 0 0] 26)).cell? ⟨K, 1, none⟩ = some (.int .i64 s0) := HA.out.a0.c1
  have hK := h.hK
  have HN : Hid (¬ Foot K v0 v1 (w.heap.size + 1)) := fun e => by have := (h.foot_lt e).2; omega
  clear h
  go_enter Try.func28, Try.ntmps28
  go_wp2_with fail
  refine wp_loop_rounds 3 ?_
  rw [rounds_succ]
  go_wp2_with fail
  go_region_with (go_at_call 64; refine (read0_rel HA.out ?_).mono ?_; (first | exact Off.refl _ _ | exact (Off.refl _ _).drew | exact (Off.refl _ _).drewN _ | exact ((Off.refl _ _).drew).drew); rintro e w1 ⟨a0, n0, c0, rfl, r1, b1⟩; have hb1 := bcell b1)
  have hWA : ((w.alloc (.cells #[.slice none 0 0, .slice none 0 0] 26)).alloc (.cells #[.slice none 0 0, .slice none 0 0] 26)).heap.size = w.heap.size + 2 := by simp
  have HB1 : Hid (Below w.heap.size w (w1.setCell ⟨w.heap.size + 1, 0, none⟩ (.slice a0 n0 c0))) := (((Below.refl _ _).alloc (Nat.le_refl _) _).alloc (by simp) _).trans ((b1.mono (by simp; omega)).setCell (by simp) _)
  have HO1 : Hid (Off (· = w.heap.size + 1) w1 (w1.setCell ⟨w.heap.size + 1, 0, none⟩ (.slice a0 n0 c0))) := (Off.refl (· = w.heap.size + 1) _).setCell (p := ⟨w.heap.size + 1, 0, none⟩) rfl _
  have HA1 : Hid (Dsk (w1.setCell ⟨w.heap.size + 1, 0, none⟩ (.slice a0 n0 c0)) B K v0 v1 x0 x1 s0 s1 st fu na ns nc) := (HA.out.below b1).off HO1.out (fun k hk e => HN.out (by rw [← e]; exact hk))
  have HR0 : Hid (Row (w1.setCell ⟨w.heap.size + 1, 0, none⟩ (.slice a0 n0 c0)) ((w.alloc (.cells #[.slice none 0 0, .slice none 0 0] 26)).alloc (.cells #[.slice none 0 0, .slice none 0 0] 26)).heap.size (.slice a0 n0 c0) (x0.take s0)) := r1.set (fun e => by have h9 : ((w.alloc (.cells #[.slice none 0 0, .slice none 0 0] 26)).alloc (.cells #[.slice none 0 0, .slice none 0 0] 26)).heap.size ≤ w.heap.size + 1 := (r1.lt e).1; omega)
  have q0 : (w1.setCell ⟨w.heap.size + 1, 0, none⟩ (.slice a0 n0 c0)).cell? ⟨w.heap.size + 1, 0, none⟩ = some (.slice a0 n0 c0) := World.cell?_setCell_same _ _ _ (u := .slice none 0 0) (by rw [hb1.1 _ _ (by rw [hWA]; omega)]; simp)
  have q1 : (w1.setCell ⟨w.heap.size + 1, 0, none⟩ (.slice a0 n0 c0)).cell? ⟨w.heap.size + 1, 1, none⟩ = some (.slice none 0 0) := by rw [World.cell?_setCell_other _ _ _ _ (by simp), hb1.1 _ _ (by rw [hWA]; omega)]; simp
  have q2 : (w1.setCell ⟨w.heap.size + 1, 0, none⟩ (.slice a0 n0 c0)).cell? ⟨w.heap.size, 0, none⟩ = some (.slice none 0 0) := by rw [World.cell?_setCell_other _ _ _ _ (by simp), hb1.1 _ _ (by rw [hWA]; omega)]; simp
  have q3 : (w1.setCell ⟨w.heap.size + 1, 0, none⟩ (.slice a0 n0 c0)).cell? ⟨w.heap.size, 1, none⟩ = some (.slice none 0 0) := by rw [World.cell?_setCell_other _ _ _ _ (by simp), hb1.1 _ _ (by rw [hWA]; omega)]; simp
  have q4 : ∀ o, (w1.setCell ⟨w.heap.size + 1, 0, none⟩ (.slice a0 n0 c0)).frozen? ⟨w.heap.size + 1, o, none⟩ = false := fun o => by simp [hb1.2 _ _ (show w.heap.size + 1 < ((w.alloc (.cells #[.slice none 0 0, .slice none 0 0] 26)).alloc (.cells #[.slice none 0 0, .slice none 0 0] 26)).heap.size by rw [hWA]; omega)]
  have q5 : ∀ o, (w1.setCell ⟨w.heap.size + 1, 0, none⟩ (.slice a0 n0 c0)).frozen? ⟨w.heap.size, o, none⟩ = false := fun o => by simp [hb1.2 _ _ (show w.heap.size < ((w.alloc (.cells #[.slice none 0 0, .slice none 0 0] 26)).alloc (.cells #[.slice none 0 0, .slice none 0 0] 26)).heap.size by rw [hWA]; omega)]
  have hs1 : w.heap.size + 2 ≤ (w1.setCell ⟨w.heap.size + 1, 0, none⟩ (.slice a0 n0 c0)).heap.size := by have := b1.size; simp at this; simp; omega
  clear r1 b1 hb1 HO1
  generalize (w1.setCell ⟨w.heap.size + 1, 0, none⟩ (.slice a0 n0 c0)) = W1 at HB1 HA1 HR0 q0 q1 q2 q3 q4 q5 hs1 ⊢
  have hlt1 : w.heap.size + 1 < W1.heap.size := by omega
  have k3 : W1.cell? ⟨K, 3, none⟩ = some (.int .i64 s1) := HA1.out.a1.c1
  go_wp2_with fail
  rw [rounds_succ]
  go_wp2_with fail
  go_region_with (go_at_call 64; refine (read1_rel HA1.out ?_).mono ?_; (first | exact Off.refl _ _ | exact (Off.refl _ _).drew | exact (Off.refl _ _).drewN _ | exact ((Off.refl _ _).drew).drew); rintro e w2 ⟨a1, n1, c1, rfl, r2, b2⟩; have hb2 := bcell b2; have hc2 := fun o => hb2.1 (w.heap.size + 1) o hlt1; have hf2 := fun o => hb2.2 (w.heap.size + 1) o hlt1)
  have HB2 : Hid (Below w.heap.size w (w2.setCell ⟨w.heap.size + 1, 1, none⟩ (.slice a1 n1 c1))) := HB1.out.trans ((b2.mono (by omega)).setCell (by simp) _)
  have HR0' : Hid (Row (w2.setCell ⟨w.heap.size + 1, 1, none⟩ (.slice a1 n1 c1)) ((w.alloc (.cells #[.slice none 0 0, .slice none 0 0] 26)).alloc (.cells #[.slice none 0 0, .slice none 0 0] 26)).heap.size (.slice a0 n0 c0) (x0.take s0)) := (HR0.out.below b2).set (fun e => by have h9 : ((w.alloc (.cells #[.slice none 0 0, .slice none 0 0] 26)).alloc (.cells #[.slice none 0 0, .slice none 0 0] 26)).heap.size ≤ w.heap.size + 1 := (HR0.out.lt e).1; omega)
  have HR1 : Hid (Row (w2.setCell ⟨w.heap.size + 1, 1, none⟩ (.slice a1 n1 c1)) W1.heap.size (.slice a1 n1 c1) (x1.take s1)) := r2.set (fun e => by have h9 : W1.heap.size ≤ w.heap.size + 1 := (r2.lt e).1; omega)
  have p0 : (w2.setCell ⟨w.heap.size + 1, 1, none⟩ (.slice a1 n1 c1)).cell? ⟨w.heap.size + 1, 0, none⟩ = some (.slice a0 n0 c0) := by rw [World.cell?_setCell_other _ _ _ _ (by simp), hb2.1 _ _ (by omega)]; exact q0
  have p1 : (w2.setCell ⟨w.heap.size + 1, 1, none⟩ (.slice a1 n1 c1)).cell? ⟨w.heap.size + 1, 1, none⟩ = some (.slice a1 n1 c1) := World.cell?_setCell_same _ _ _ (u := .slice none 0 0) (by rw [hb2.1 _ _ (by omega)]; exact q1)
  have p2 : (w2.setCell ⟨w.heap.size + 1, 1, none⟩ (.slice a1 n1 c1)).cell? ⟨w.heap.size, 0, none⟩ = some (.slice none 0 0) := by rw [World.cell?_setCell_other _ _ _ _ (by simp), hb2.1 _ _ (by omega)]; exact q2
  have p3 : (w2.setCell ⟨w.heap.size + 1, 1, none⟩ (.slice a1 n1 c1)).cell? ⟨w.heap.size, 1, none⟩ = some (.slice none 0 0) := by rw [World.cell?_setCell_other _ _ _ _ (by simp), hb2.1 _ _ (by omega)]; exact q3
  have p5 : ∀ o, (w2.setCell ⟨w.heap.size + 1, 1, none⟩ (.slice a1 n1 c1)).frozen? ⟨w.heap.size, o, none⟩ = false := fun o => by simp [hb2.2 _ _ (show w.heap.size < W1.heap.size by omega), q5]
  have HAP : Hid (∃ N, (∀ g, (Value.slice a0 n0 c0).ownBlock = some g → g < N) ∧ (∀ g, (Value.slice a1 n1 c1).ownBlock = some g → N ≤ g)) := ⟨W1.heap.size, fun g e => (HR0.out.lt e).2, fun g e => (HR1.out.lt e).1⟩
  clear r2 b2 hb2 hc2 hf2 HB1 HR0 HA1 q0 q1 q2 q3 q4 q5 k3
  generalize (w2.setCell ⟨w.heap.size + 1, 1, none⟩ (.slice a1 n1 c1)) = W2 at HB2 HR0' HR1 p0 p1 p2 p3 p5 ⊢
  have HF : Hid (Off (· = w.heap.size) W2 ((W2.setCell ⟨w.heap.size, 0, none⟩ (.slice a0 n0 c0)).setCell ⟨w.heap.size, 1, none⟩ (.slice a1 n1 c1))) := ((Off.refl (· = w.heap.size) W2).setCell (p := ⟨w.heap.size, 0, none⟩) rfl _).setCell (p := ⟨w.heap.size, 1, none⟩) rfl _
  have z1 : ∀ u u' : Value, ((W2.setCell ⟨w.heap.size, 0, none⟩ u).setCell ⟨w.heap.size, 1, none⟩ u').cell? ⟨w.heap.size, 0, none⟩ = some u := fun u u' => by rw [World.cell?_setCell_other _ _ _ _ (by simp)]; exact World.cell?_setCell_same _ _ _ p2
  have z2 : ∀ u u' : Value, ((W2.setCell ⟨w.heap.size, 0, none⟩ u).setCell ⟨w.heap.size, 1, none⟩ u').cell? ⟨w.heap.size, 1, none⟩ = some u' := fun u u' => World.cell?_setCell_same _ _ _ (u := .slice none 0 0) (by rw [World.cell?_setCell_other _ _ _ _ (by simp)]; exact p3)
  go_wp2_with fail
  rw [rounds_succ]
  go_wp2_with fail
  refine bodyPost_ret (v := .agg #[.slice a0 n0 c0, .slice a1 n1 c1]) (by simp [results, Try.results28, go_sem, z1, z2]) rfl ⟨a0, n0, c0, a1, n1, c1, rfl, ?_, ?_, HAP.out, ?_⟩
  · have h8 : ∀ e, (Value.slice a0 n0 c0).ownBlock = some e → w.heap.size + 2 ≤ e := fun e he => by have h9 : ((w.alloc (.cells #[.slice none 0 0, .slice none 0 0] 26)).alloc (.cells #[.slice none 0 0, .slice none 0 0] 26)).heap.size ≤ e := (HR0'.out.lt he).1; omega
    exact ((HR0'.out.set (p := ⟨w.heap.size, 0, none⟩) (fun e => by have := h8 _ e; simp only at this; omega)).set (p := ⟨w.heap.size, 1, none⟩) (fun e => by have := h8 _ e; simp only at this; omega)).base (by omega)
  · have h8 : ∀ e, (Value.slice a1 n1 c1).ownBlock = some e → w.heap.size + 2 ≤ e := fun e he => by have h9 : W1.heap.size ≤ e := (HR1.out.lt he).1; omega
    exact ((HR1.out.set (p := ⟨w.heap.size, 0, none⟩) (fun e => by have := h8 _ e; simp only at this; omega)).set (p := ⟨w.heap.size, 1, none⟩) (fun e => by have := h8 _ e; simp only at this; omega)).base (by omega)
  · exact (HB2.out.setCell (Nat.le_refl _) _).setCell (Nat.le_refl _) _
set_option maxRecDepth 100000 in
set_option maxHeartbeats 2000000 in
theorem Image_two {w : World} {B K : Nat} {v0 v1 : Value} {x0 x1 : List Int} {s0 s1 : Nat} {st fu na ns nc : Int} (h : Dsk w B K v0 v1 x0 x1 s0 s1 st fu na ns nc) (hst : st = 1 ∨ st = 2) :
    Calls Try.prog 12 #[.pointer (some ⟨K, 0, none⟩)] w fun e w' => ∃ a0 n0 c0 a1 n1 c1, e = .returned (.agg #[.slice a0 n0 c0, .slice a1 n1 c1]) ∧ Row w' w.heap.size (.slice a0 n0 c0) (x0.take s0) ∧ Row w' w.heap.size (.slice a1 n1 c1) (x1.take s1) ∧ (∃ N, (∀ g, (Value.slice a0 n0 c0).ownBlock = some g → g < N) ∧ (∀ g, (Value.slice a1 n1 c1).ownBlock = some g → N ≤ g)) ∧ Below w.heap.size w w' := by
  have HA : Hid (Dsk (w.alloc (.cells #[.slice none 0 0, .slice none 0 0] 26)) B K v0 v1 x0 x1 s0 s1 st fu na ns nc) := h.off (P := fun _ => False) ((Off.refl _ _).alloc _) (fun _ _ => id)
  have HS : Hid (st = 1 ∨ st = 2) := hst
  clear h hst
  go_enter Try.func12, Try.ntmps12
  go_wp2_with fail
  refine (made_ok HA.out HS.out).mono ?_
  rintro e w1 ⟨rfl, rfl⟩
  go_wp2_with fail
  refine (safe_two HA.out).mono ?_
  rintro e w2 ⟨a0, n0, c0, a1, n1, c1, rfl, r0, r1, ap, b2⟩
  have HAP : Hid (∃ N, (∀ g, (Value.slice a0 n0 c0).ownBlock = some g → g < N) ∧ (∀ g, (Value.slice a1 n1 c1).ownBlock = some g → N ≤ g)) := ap
  clear ap
  have hWI : (w.alloc (.cells #[.slice none 0 0, .slice none 0 0] 26)).heap.size = w.heap.size + 1 := by simp
  have p2 : w2.cell? ⟨w.heap.size, 0, none⟩ = some (.slice none 0 0) := by rw [(bcell b2).1 _ _ (by rw [hWI]; omega)]; simp
  have p3 : w2.cell? ⟨w.heap.size, 1, none⟩ = some (.slice none 0 0) := by rw [(bcell b2).1 _ _ (by rw [hWI]; omega)]; simp
  have p5 : ∀ o, w2.frozen? ⟨w.heap.size, o, none⟩ = false := fun o => by rw [(bcell b2).2 _ _ (by rw [hWI]; omega)]; simp
  have HR0 : Hid (Row w2 (w.heap.size + 1) (.slice a0 n0 c0) (x0.take s0)) := hWI ▸ r0
  have HR1 : Hid (Row w2 (w.heap.size + 1) (.slice a1 n1 c1) (x1.take s1)) := hWI ▸ r1
  have HB2 : Hid (Below w.heap.size w w2) := ((Below.refl _ _).alloc (Nat.le_refl _) _).trans (b2.mono (by rw [hWI]; omega))
  have z1 : ∀ u u' : Value, ((w2.setCell ⟨w.heap.size, 0, none⟩ u).setCell ⟨w.heap.size, 1, none⟩ u').cell? ⟨w.heap.size, 0, none⟩ = some u := fun u u' => by rw [World.cell?_setCell_other _ _ _ _ (by simp)]; exact World.cell?_setCell_same _ _ _ p2
  have z2 : ∀ u u' : Value, ((w2.setCell ⟨w.heap.size, 0, none⟩ u).setCell ⟨w.heap.size, 1, none⟩ u').cell? ⟨w.heap.size, 1, none⟩ = some u' := fun u u' => World.cell?_setCell_same _ _ _ (u := .slice none 0 0) (by rw [World.cell?_setCell_other _ _ _ _ (by simp)]; exact p3)
  clear r0 r1 b2
  go_wp2_with fail
  refine bodyPost_ret (v := .agg #[.slice a0 n0 c0, .slice a1 n1 c1]) (by simp [results, Try.results12, go_sem, z1, z2]) rfl ⟨a0, n0, c0, a1, n1, c1, rfl, ?_, ?_, HAP.out, ?_⟩
  · have h8 : ∀ e, (Value.slice a0 n0 c0).ownBlock = some e → w.heap.size + 1 ≤ e := fun e he => (HR0.out.lt he).1
    exact ((HR0.out.set (p := ⟨w.heap.size, 0, none⟩) (fun e => by have := h8 _ e; simp only at this; omega)).set (p := ⟨w.heap.size, 1, none⟩) (fun e => by have := h8 _ e; simp only at this; omega)).base (by omega)
  · have h8 : ∀ e, (Value.slice a1 n1 c1).ownBlock = some e → w.heap.size + 1 ≤ e := fun e he => (HR1.out.lt he).1
    exact ((HR1.out.set (p := ⟨w.heap.size, 0, none⟩) (fun e => by have := h8 _ e; simp only at this; omega)).set (p := ⟨w.heap.size, 1, none⟩) (fun e => by have := h8 _ e; simp only at this; omega)).base (by omega)
  · exact (HB2.out.setCell (Nat.le_refl _) _).setCell (Nat.le_refl _) _
end Go.Proofs.Ytlgjjemfckmidaa
