/-
  Sync and Cut of both disks: one number, one new state. (Typed by gen/mkpr2.py.)
-/
import Derived.Test.YtlgjjemfckmidaaPrWrites
namespace Go.Proofs.Ytlgjjemfckmidaa
open Go.RowKit

def cutC (σ : Sg) (ar n : Int) : Int := if ar = 0 then (if n < 0 ∨ (σ.x0.length : Int) < n then 2 else if σ.goes then 0 else 8) else if ar = 1 then (if n < 0 ∨ (σ.x1.length : Int) < n then 2 else if σ.goes then 0 else 8) else 2
def cutS (σ : Sg) (ar n : Int) : Sg := if ar = 0 then (if n < 0 ∨ (σ.x0.length : Int) < n then σ else if σ.goes then { σ.wr with x0 := σ.x0.take n.toNat, s0 := min σ.s0 n.toNat, nc := oneMore σ.nc } else σ.kill) else if ar = 1 then (if n < 0 ∨ (σ.x1.length : Int) < n then σ else if σ.goes then { σ.wr with x1 := σ.x1.take n.toNat, s1 := min σ.s1 n.toNat, nc := oneMore σ.nc } else σ.kill) else σ
section
variable {w : World} {B K R : Nat} {v0 v1 : Value} {v : Nat → Value} {σ : Sg}
theorem dSync0 (h : DskS w B K v0 v1 σ) : Calls Try.prog 22 #[.pointer (some ⟨K, 0, none⟩), .int .i64 0] w fun e w' => ∃ ev v0' v1', e = .returned ev ∧ EvD w' w.heap.size ev (synC σ 0) ∧ DskS w' B K v0' v1' (synS σ 0) ∧ DStep w w' K v0 v1 v0' v1' := by
  have hbn := h.bn
  have e1 : synC σ 0 = if σ.goes then 0 else 8 := by simp [synC]
  have e2 : synS σ 0 = if σ.goes then { σ.wr with s0 := σ.x0.length, ns := oneMore σ.ns } else σ.kill := by simp [synS]
  rw [e1, e2]
  by_cases hg : σ.goes = true
  · rw [if_pos hg, if_pos hg]
    obtain ⟨hd, hz⟩ := (goes_iff σ).1 hg
    unfold DskS at h ⊢
    rw [hd] at h
    refine (Sync0_ok h hz).mono ?_
    rintro e w' ⟨he, hd', hs⟩
    refine ⟨_, v0, v1, he, EvD.nil _ _, ?_, hs⟩
    simp only [Sg.wr, hd]
    rw [fz_left, ct_more _ ⟨hbn.2.2.2.2.1, hbn.2.2.2.2.2.1⟩] at hd'
    exact hd'
  · rw [if_neg hg, if_neg hg]
    refine (Sync0_deadN h (stOf_any _) (goes_not σ hg)).mono ?_
    rintro e w' ⟨he, hf, hd', hs⟩
    exact ⟨_, v0, v1, he, EvD.mk hf rfl, hd', hs⟩
theorem rSync0 (h : RkS w B R v σ) (ok : σ.Ok) : Calls Try.prog 36 #[.pointer (some ⟨R, 0, none⟩), .int .i64 0] w fun e w' => e = .returned (.int .i64 (synC σ 0)) ∧ ∃ v', RkS w' B R v' (synS σ 0) ∧ RStep w w' R v v' := by
  have e1 : synC σ 0 = if σ.goes then 0 else 8 := by simp [synC]
  have e2 : synS σ 0 = if σ.goes then { σ.wr with s0 := σ.x0.length, ns := oneMore σ.ns } else σ.kill := by simp [synS]
  have hsum := rx_sum0 σ
  have hl := ok.l0
  rw [e1, e2]
  by_cases hg : σ.goes = true
  · rw [if_pos hg, if_pos hg]
    obtain ⟨hd, hz⟩ := (goes_iff σ).1 hg
    have h' : Rk w B R v (rx σ) false σ.fuse σ.na σ.ns σ.nc := by unfold RkS at h; rw [hd] at h; exact h
    refine (rSync0_ok h' hz (by omega)).mono ?_
    rintro e w' ⟨he, y, hr, hs⟩
    refine ⟨he, _, ?_, hs⟩
    have hr2 := hr.congr (rx_both0 σ { σ.wr with s0 := σ.x0.length, ns := oneMore σ.ns } _ _ (by simp [rx, Sg.wr]) (by simp [rx, Sg.wr]) rfl rfl)
    simp only [RkS, Sg.wr, hd]
    exact hr2
  · rw [if_neg hg, if_neg hg]
    refine (rSync0_dead h (by simpa [Sg.goes] using hg)).mono ?_
    rintro e w' ⟨he, hr, hs⟩
    exact ⟨he, v, hr, hs⟩
theorem dCut0 (h : DskS w B K v0 v1 σ) (n : Int) : Calls Try.prog 26 #[.pointer (some ⟨K, 0, none⟩), .int .i64 0, .int .i64 n] w fun e w' => ∃ ev v0' v1', e = .returned ev ∧ EvD w' w.heap.size ev (cutC σ 0 n) ∧ DskS w' B K v0' v1' (cutS σ 0 n) ∧ DStep w w' K v0 v1 v0' v1' := by
  have hbn := h.bn
  have e1 : cutC σ 0 n = if n < 0 ∨ (σ.x0.length : Int) < n then 2 else if σ.goes then 0 else 8 := by simp [cutC]
  have e2 : cutS σ 0 n = if n < 0 ∨ (σ.x0.length : Int) < n then σ else if σ.goes then { σ.wr with x0 := σ.x0.take n.toNat, s0 := min σ.s0 n.toNat, nc := oneMore σ.nc } else σ.kill := by simp [cutS]
  rw [e1, e2]
  by_cases ho : n < 0 ∨ (σ.x0.length : Int) < n
  · rw [if_pos ho, if_pos ho]
    refine (Cut0_outN h (stOf_any _) ho).mono ?_
    rintro e w' ⟨he, hf, hbl⟩
    exact ⟨_, v0, v1, he, EvD.mk hf rfl, h.below hbl, DStep.of_below _ _ _ hbl⟩
  · rw [if_neg ho, if_neg ho]
    by_cases hg : σ.goes = true
    · rw [if_pos hg, if_pos hg]
      obtain ⟨hd, hz⟩ := (goes_iff σ).1 hg
      unfold DskS at h ⊢
      rw [hd] at h
      refine (Cut0_ok n.toNat h hz (by omega) (by omega)).mono ?_
      rintro e w' ⟨he, v', hd', hs⟩
      refine ⟨_, v', v1, he, EvD.nil _ _, ?_, hs⟩
      simp only [Sg.wr, hd]
      rw [fz_left, ct_more _ ⟨hbn.2.2.2.2.2.2.1, hbn.2.2.2.2.2.2.2⟩] at hd'
      exact hd'
    · rw [if_neg hg, if_neg hg]
      refine (Cut0_deadN h (stOf_any _) (goes_not σ hg) (by omega)).mono ?_
      rintro e w' ⟨he, hf, hd', hs⟩
      exact ⟨_, v0, v1, he, EvD.mk hf rfl, hd', hs⟩
theorem rCut0 (h : RkS w B R v σ) (ok : σ.Ok) (n : Int) : Calls Try.prog 37 #[.pointer (some ⟨R, 0, none⟩), .int .i64 0, .int .i64 n] w fun e w' => e = .returned (.int .i64 (cutC σ 0 n)) ∧ ∃ v', RkS w' B R v' (cutS σ 0 n) ∧ RStep w w' R v v' := by
  have e1 : cutC σ 0 n = if n < 0 ∨ (σ.x0.length : Int) < n then 2 else if σ.goes then 0 else 8 := by simp [cutC]
  have e2 : cutS σ 0 n = if n < 0 ∨ (σ.x0.length : Int) < n then σ else if σ.goes then { σ.wr with x0 := σ.x0.take n.toNat, s0 := min σ.s0 n.toNat, nc := oneMore σ.nc } else σ.kill := by simp [cutS]
  have hsum := rx_sum0 σ
  have hl := ok.l0
  have hls : (rx σ 0).length = σ.s0 := by have := ok.s0; simp [rx]; omega
  rw [e1, e2]
  by_cases ho : n < 0 ∨ (σ.x0.length : Int) < n
  · rw [if_pos ho, if_pos ho]
    refine (rCut0_out n h (by omega)).mono ?_
    rintro e w' ⟨he, hw⟩
    exact ⟨he, v, rkS_drew h hw⟩
  · rw [if_neg ho, if_neg ho]
    by_cases hg : σ.goes = true
    · rw [if_pos hg, if_pos hg]
      obtain ⟨hd, hz⟩ := (goes_iff σ).1 hg
      have h' : Rk w B R v (rx σ) false σ.fuse σ.na σ.ns σ.nc := by unfold RkS at h; rw [hd] at h; exact h
      obtain ⟨k, rfl⟩ : ∃ k : Nat, n = (k : Int) := ⟨n.toNat, by omega⟩
      rw [Int.toNat_natCast]
      by_cases hlow : k ≤ σ.s0
      · refine (rCut0_low k h' hz (by omega)).mono ?_
        rintro e w' ⟨he, v', hr, hs⟩
        refine ⟨he, v', ?_, hs⟩
        have hr2 := hr.congr (rx_both0 σ { σ.wr with x0 := σ.x0.take k, s0 := min σ.s0 k, nc := oneMore σ.nc } _ _ (by simp only [rx, Sg.wr]; simp; rw [List.take_take, List.take_take]; congr 1; omega) (by simp only [rx, Sg.wr]; simp; omega) rfl rfl)
        simp only [RkS, Sg.wr, hd]
        exact hr2
      · obtain ⟨j, rfl⟩ : ∃ j, k = σ.s0 + j := ⟨k - σ.s0, by omega⟩
        have hc := rCut0_high j h' hz (by omega) (by omega)
        rw [hls, ← Int.natCast_add] at hc
        refine hc.mono ?_
        rintro e w' ⟨he, v', hr, hs⟩
        refine ⟨he, v', ?_, hs⟩
        have hr2 := hr.congr (rx_put0 σ { σ.wr with x0 := σ.x0.take (σ.s0 + j), s0 := min σ.s0 (σ.s0 + j), nc := oneMore σ.nc } (by simp only [rx, Sg.wr]; simp; rw [List.take_take]; congr 1; omega) _ (by simp only [rx, Sg.wr]; simp; rw [List.drop_take]; congr 1; omega) rfl rfl)
        simp only [RkS, Sg.wr, hd]
        exact hr2
    · rw [if_neg hg, if_neg hg]
      obtain ⟨k, rfl⟩ : ∃ k : Nat, n = (k : Int) := ⟨n.toNat, by omega⟩
      refine (rCut0_dead k h (by simpa [Sg.goes] using hg) (by omega)).mono ?_
      rintro e w' ⟨he, hr, hs⟩
      exact ⟨he, v, hr, hs⟩
theorem dSync1 (h : DskS w B K v0 v1 σ) : Calls Try.prog 22 #[.pointer (some ⟨K, 0, none⟩), .int .i64 1] w fun e w' => ∃ ev v0' v1', e = .returned ev ∧ EvD w' w.heap.size ev (synC σ 1) ∧ DskS w' B K v0' v1' (synS σ 1) ∧ DStep w w' K v0 v1 v0' v1' := by
  have hbn := h.bn
  have e1 : synC σ 1 = if σ.goes then 0 else 8 := by simp [synC]
  have e2 : synS σ 1 = if σ.goes then { σ.wr with s1 := σ.x1.length, ns := oneMore σ.ns } else σ.kill := by simp [synS]
  rw [e1, e2]
  by_cases hg : σ.goes = true
  · rw [if_pos hg, if_pos hg]
    obtain ⟨hd, hz⟩ := (goes_iff σ).1 hg
    unfold DskS at h ⊢
    rw [hd] at h
    refine (Sync1_ok h hz).mono ?_
    rintro e w' ⟨he, hd', hs⟩
    refine ⟨_, v0, v1, he, EvD.nil _ _, ?_, hs⟩
    simp only [Sg.wr, hd]
    rw [fz_left, ct_more _ ⟨hbn.2.2.2.2.1, hbn.2.2.2.2.2.1⟩] at hd'
    exact hd'
  · rw [if_neg hg, if_neg hg]
    refine (Sync1_deadN h (stOf_any _) (goes_not σ hg)).mono ?_
    rintro e w' ⟨he, hf, hd', hs⟩
    exact ⟨_, v0, v1, he, EvD.mk hf rfl, hd', hs⟩
theorem rSync1 (h : RkS w B R v σ) (ok : σ.Ok) : Calls Try.prog 36 #[.pointer (some ⟨R, 0, none⟩), .int .i64 1] w fun e w' => e = .returned (.int .i64 (synC σ 1)) ∧ ∃ v', RkS w' B R v' (synS σ 1) ∧ RStep w w' R v v' := by
  have e1 : synC σ 1 = if σ.goes then 0 else 8 := by simp [synC]
  have e2 : synS σ 1 = if σ.goes then { σ.wr with s1 := σ.x1.length, ns := oneMore σ.ns } else σ.kill := by simp [synS]
  have hsum := rx_sum1 σ
  have hl := ok.l1
  rw [e1, e2]
  by_cases hg : σ.goes = true
  · rw [if_pos hg, if_pos hg]
    obtain ⟨hd, hz⟩ := (goes_iff σ).1 hg
    have h' : Rk w B R v (rx σ) false σ.fuse σ.na σ.ns σ.nc := by unfold RkS at h; rw [hd] at h; exact h
    refine (rSync1_ok h' hz (by omega)).mono ?_
    rintro e w' ⟨he, y, hr, hs⟩
    refine ⟨he, _, ?_, hs⟩
    have hr2 := hr.congr (rx_both1 σ { σ.wr with s1 := σ.x1.length, ns := oneMore σ.ns } _ _ (by simp [rx, Sg.wr]) (by simp [rx, Sg.wr]) rfl rfl)
    simp only [RkS, Sg.wr, hd]
    exact hr2
  · rw [if_neg hg, if_neg hg]
    refine (rSync1_dead h (by simpa [Sg.goes] using hg)).mono ?_
    rintro e w' ⟨he, hr, hs⟩
    exact ⟨he, v, hr, hs⟩
theorem dCut1 (h : DskS w B K v0 v1 σ) (n : Int) : Calls Try.prog 26 #[.pointer (some ⟨K, 0, none⟩), .int .i64 1, .int .i64 n] w fun e w' => ∃ ev v0' v1', e = .returned ev ∧ EvD w' w.heap.size ev (cutC σ 1 n) ∧ DskS w' B K v0' v1' (cutS σ 1 n) ∧ DStep w w' K v0 v1 v0' v1' := by
  have hbn := h.bn
  have e1 : cutC σ 1 n = if n < 0 ∨ (σ.x1.length : Int) < n then 2 else if σ.goes then 0 else 8 := by simp [cutC]
  have e2 : cutS σ 1 n = if n < 0 ∨ (σ.x1.length : Int) < n then σ else if σ.goes then { σ.wr with x1 := σ.x1.take n.toNat, s1 := min σ.s1 n.toNat, nc := oneMore σ.nc } else σ.kill := by simp [cutS]
  rw [e1, e2]
  by_cases ho : n < 0 ∨ (σ.x1.length : Int) < n
  · rw [if_pos ho, if_pos ho]
    refine (Cut1_outN h (stOf_any _) ho).mono ?_
    rintro e w' ⟨he, hf, hbl⟩
    exact ⟨_, v0, v1, he, EvD.mk hf rfl, h.below hbl, DStep.of_below _ _ _ hbl⟩
  · rw [if_neg ho, if_neg ho]
    by_cases hg : σ.goes = true
    · rw [if_pos hg, if_pos hg]
      obtain ⟨hd, hz⟩ := (goes_iff σ).1 hg
      unfold DskS at h ⊢
      rw [hd] at h
      refine (Cut1_ok n.toNat h hz (by omega) (by omega)).mono ?_
      rintro e w' ⟨he, v', hd', hs⟩
      refine ⟨_, v0, v', he, EvD.nil _ _, ?_, hs⟩
      simp only [Sg.wr, hd]
      rw [fz_left, ct_more _ ⟨hbn.2.2.2.2.2.2.1, hbn.2.2.2.2.2.2.2⟩] at hd'
      exact hd'
    · rw [if_neg hg, if_neg hg]
      refine (Cut1_deadN h (stOf_any _) (goes_not σ hg) (by omega)).mono ?_
      rintro e w' ⟨he, hf, hd', hs⟩
      exact ⟨_, v0, v1, he, EvD.mk hf rfl, hd', hs⟩
theorem rCut1 (h : RkS w B R v σ) (ok : σ.Ok) (n : Int) : Calls Try.prog 37 #[.pointer (some ⟨R, 0, none⟩), .int .i64 1, .int .i64 n] w fun e w' => e = .returned (.int .i64 (cutC σ 1 n)) ∧ ∃ v', RkS w' B R v' (cutS σ 1 n) ∧ RStep w w' R v v' := by
  have e1 : cutC σ 1 n = if n < 0 ∨ (σ.x1.length : Int) < n then 2 else if σ.goes then 0 else 8 := by simp [cutC]
  have e2 : cutS σ 1 n = if n < 0 ∨ (σ.x1.length : Int) < n then σ else if σ.goes then { σ.wr with x1 := σ.x1.take n.toNat, s1 := min σ.s1 n.toNat, nc := oneMore σ.nc } else σ.kill := by simp [cutS]
  have hsum := rx_sum1 σ
  have hl := ok.l1
  have hls : (rx σ 2).length = σ.s1 := by have := ok.s1; simp [rx]; omega
  rw [e1, e2]
  by_cases ho : n < 0 ∨ (σ.x1.length : Int) < n
  · rw [if_pos ho, if_pos ho]
    refine (rCut1_out n h (by omega)).mono ?_
    rintro e w' ⟨he, hw⟩
    exact ⟨he, v, rkS_drew h hw⟩
  · rw [if_neg ho, if_neg ho]
    by_cases hg : σ.goes = true
    · rw [if_pos hg, if_pos hg]
      obtain ⟨hd, hz⟩ := (goes_iff σ).1 hg
      have h' : Rk w B R v (rx σ) false σ.fuse σ.na σ.ns σ.nc := by unfold RkS at h; rw [hd] at h; exact h
      obtain ⟨k, rfl⟩ : ∃ k : Nat, n = (k : Int) := ⟨n.toNat, by omega⟩
      rw [Int.toNat_natCast]
      by_cases hlow : k ≤ σ.s1
      · refine (rCut1_low k h' hz (by omega)).mono ?_
        rintro e w' ⟨he, v', hr, hs⟩
        refine ⟨he, v', ?_, hs⟩
        have hr2 := hr.congr (rx_both1 σ { σ.wr with x1 := σ.x1.take k, s1 := min σ.s1 k, nc := oneMore σ.nc } _ _ (by simp only [rx, Sg.wr]; simp; rw [List.take_take, List.take_take]; congr 1; omega) (by simp only [rx, Sg.wr]; simp; omega) rfl rfl)
        simp only [RkS, Sg.wr, hd]
        exact hr2
      · obtain ⟨j, rfl⟩ : ∃ j, k = σ.s1 + j := ⟨k - σ.s1, by omega⟩
        have hc := rCut1_high j h' hz (by omega) (by omega)
        rw [hls, ← Int.natCast_add] at hc
        refine hc.mono ?_
        rintro e w' ⟨he, v', hr, hs⟩
        refine ⟨he, v', ?_, hs⟩
        have hr2 := hr.congr (rx_put1 σ { σ.wr with x1 := σ.x1.take (σ.s1 + j), s1 := min σ.s1 (σ.s1 + j), nc := oneMore σ.nc } (by simp only [rx, Sg.wr]; simp; rw [List.take_take]; congr 1; omega) _ (by simp only [rx, Sg.wr]; simp; rw [List.drop_take]; congr 1; omega) rfl rfl)
        simp only [RkS, Sg.wr, hd]
        exact hr2
    · rw [if_neg hg, if_neg hg]
      obtain ⟨k, rfl⟩ : ∃ k : Nat, n = (k : Int) := ⟨n.toNat, by omega⟩
      refine (rCut1_dead k h (by simpa [Sg.goes] using hg) (by omega)).mono ?_
      rintro e w' ⟨he, hr, hs⟩
      exact ⟨he, v, hr, hs⟩
end
end Go.Proofs.Ytlgjjemfckmidaa
