import Derived.Test.YtlgjjemfckmidaaPrPlay1
import Derived.Deep.RegionHeld3
/-
  The law's 'plays': Sync, Cut.
-/
namespace Go.Proofs.Ytlgjjemfckmidaa
open Go.RowKit

theorem synS_ok {σ : Sg} (ok : σ.Ok) (ar : Int) : (synS σ ar).Ok := by
  have h0 := ok.s0
  have h1 := ok.s1
  have l0 := ok.l0
  have l1 := ok.l1
  unfold synS
  repeat' split
  all_goals first | exact ok | exact ⟨Nat.le_refl _, h1, l0, l1⟩ | exact ⟨h0, Nat.le_refl _, l0, l1⟩ | exact ⟨h0, h1, l0, l1⟩
theorem cutS_ok {σ : Sg} (ok : σ.Ok) (ar n : Int) : (cutS σ ar n).Ok := by
  have h0 := ok.s0
  have h1 := ok.s1
  have l0 := ok.l0
  have l1 := ok.l1
  unfold cutS
  repeat' split
  all_goals first | exact ok | exact ⟨h0, h1, l0, l1⟩ | (refine ⟨?_, ?_, ?_, ?_⟩ <;> simp [Sg.wr] <;> omega)
set_option maxRecDepth 100000 in
set_option maxHeartbeats 4000000 in
theorem plays_sync {w : World} {B K R : Nat} {v0 v1 : Value} {v : Nat → Value} {σ : Sg} {Q : Nat} {ρ : Nat → Nat} {vb vw : Value} {es : List Ent} (h : Jt w B K R v0 v1 v σ Q ρ vb vw es) (ar at_ n t0 t1 t2 t3 : Int) (po : Option Addr) (pl pc : Nat) (_hm : es.length + 4 ≤ 1099511627776) :
    Calls Try.prog 17 #[.agg #[.pointer (some ⟨K, 0, none⟩), .pointer (some ⟨R, 0, none⟩)], .agg #[.int .i64 2, .int .i64 ar, .int .i64 at_, .int .i64 n, .slice po pl pc, .int .i64 t0, .int .i64 t1, .int .i64 t2, .int .i64 t3], .pointer (some ⟨Q, 0, none⟩)] w fun e w' => e = .returned (.bool true) ∧ ∃ v0' v1' v' σ' ρ' vb' vw' es', Jt w' B K R v0' v1' v' σ' Q ρ' vb' vw' es' ∧ es'.length ≤ es.length + 4 ∧ Below B w w' ∧ Keep w w' K R v0 v1 v ρ v0' v1' v' ρ' := by
  obtain ⟨T, hT⟩ : ∃ y, (w.alloc (.cells #[.pointer (some ⟨K, 0, none⟩), .pointer (some ⟨R, 0, none⟩)] 45)).alloc (.cells #[.int .i64 2, .int .i64 ar, .int .i64 at_, .int .i64 n, .slice po pl pc, .int .i64 t0, .int .i64 t1, .int .i64 t2, .int .i64 t3] 34) = y := ⟨_, rfl⟩
  have HW : Hid ((w.alloc (.cells #[.pointer (some ⟨K, 0, none⟩), .pointer (some ⟨R, 0, none⟩)] 45)).alloc (.cells #[.int .i64 2, .int .i64 ar, .int .i64 at_, .int .i64 n, .slice po pl pc, .int .i64 t0, .int .i64 t1, .int .i64 t2, .int .i64 t3] 34) = T) := hT
  have bT : Below w.heap.size w T := by rw [← hT]; exact ((Below.refl _ _).alloc (Nat.le_refl _) _).alloc (by simp) _
  have sT : T.heap.size = w.heap.size + 2 := by rw [← hT]; simp
  have hb0 : ∀ o, T.cell? ⟨w.heap.size, o, none⟩ = (#[.pointer (some ⟨K, 0, none⟩), .pointer (some ⟨R, 0, none⟩)] : Array Value)[o]? := fun o => by
    rw [← hT, World.cell?_alloc_lt _ _ ⟨w.heap.size, o, none⟩ (by simp)]; exact cell_new _ _ _ _ _
  have hb1 : ∀ o, T.cell? ⟨w.heap.size + 1, o, none⟩ = (#[.int .i64 2, .int .i64 ar, .int .i64 at_, .int .i64 n, .slice po pl pc, .int .i64 t0, .int .i64 t1, .int .i64 t2, .int .i64 t3] : Array Value)[o]? := fun o => by
    rw [← hT]; simp
  have HJ : Hid (Jt T B K R v0 v1 v σ Q ρ vb vw es ∧ Below w.heap.size w T ∧ T.heap.size = w.heap.size + 2 ∧ B ≤ w.heap.size ∧ (∀ k, (Foot K v0 v1 k ∨ RFoot R v k) → k < w.heap.size)) := ⟨h.below bT, bT, sT, h.hB, fun k hk => h.pr.foot_lt hk⟩
  have HB : Hid ((∀ o, T.cell? ⟨w.heap.size, o, none⟩ = (#[.pointer (some ⟨K, 0, none⟩), .pointer (some ⟨R, 0, none⟩)] : Array Value)[o]?) ∧ (∀ o, T.cell? ⟨w.heap.size + 1, o, none⟩ = (#[.int .i64 2, .int .i64 ar, .int .i64 at_, .int .i64 n, .slice po pl pc, .int .i64 t0, .int .i64 t1, .int .i64 t2, .int .i64 t3] : Array Value)[o]?)) := ⟨hb0, hb1⟩
  have hdc : ∀ x, Below T.heap.size T x → Calls Try.prog 22 #[.pointer (some ⟨K, 0, none⟩), .int .i64 ar] x fun e x' => ∃ ev v0' v1', e = .returned ev ∧ Hid (EvD x' T.heap.size ev (synC σ ar) ∧ DskS x' B K v0' v1' (synS σ ar) ∧ DStep T x' K v0 v1 v0' v1') ∧ (∀ o, x'.cell? ⟨w.heap.size, o, none⟩ = T.cell? ⟨w.heap.size, o, none⟩) ∧ (∀ o, x'.cell? ⟨w.heap.size + 1, o, none⟩ = T.cell? ⟨w.heap.size + 1, o, none⟩) := fun x hx => (dSync (HJ.out.1.below hx).pr.d ar).mono fun e x' ⟨ev, v0', v1', he, h1, h2, h3⟩ => by
    have st : DStep T x' K v0 v1 v0' v1' := (DStep.of_below K v0 v1 hx).trans h3
    have hn : ∀ b, w.heap.size ≤ b → ¬ Foot K v0 v1 b := fun b hb p => by have := HJ.out.2.2.2.2 _ (Or.inl p); omega
    have hs := HJ.out.2.2.1
    refine ⟨ev, v0', v1', he, ⟨?_, h2, st⟩, fun o => st.off.cell (p := ⟨w.heap.size, o, none⟩) (by simp only; omega) (hn _ (Nat.le_refl _)), fun o => st.off.cell (p := ⟨w.heap.size + 1, o, none⟩) (by simp only; omega) (hn _ (by simp only; omega))⟩
    rcases h1 with q | ⟨b, q1, q2, q3, q4⟩
    · exact Or.inl q
    · exact Or.inr ⟨b, q1, q2, q3, Nat.le_trans hx.size q4⟩
  have hrc : ∀ (x : World) (ev v0' v1' : Value), Hid (EvD x T.heap.size ev (synC σ ar) ∧ DskS x B K v0' v1' (synS σ ar) ∧ DStep T x K v0 v1 v0' v1') → Calls Try.prog 36 #[.pointer (some ⟨R, 0, none⟩), .int .i64 ar] x fun e x' => e = .returned (.int .i64 (synC σ ar)) ∧ Hid (EvD x' T.heap.size ev (synC σ ar) ∧ ∃ v', Pr x' B K R v0' v1' v' (synS σ ar) ∧ PStep T x' K R v0 v1 v v0' v1' v') ∧ (∀ o, x'.cell? ⟨w.heap.size, o, none⟩ = x.cell? ⟨w.heap.size, o, none⟩) ∧ (∀ o, x'.cell? ⟨w.heap.size + 1, o, none⟩ = x.cell? ⟨w.heap.size + 1, o, none⟩) := fun x ev v0' v1' hx => by
    obtain ⟨r1, _, go1⟩ := HJ.out.1.pr.step (τ := synS σ ar) hx.out.2.1 hx.out.2.2
    refine (rSync r1 HJ.out.1.ok ar).mono ?_
    rintro e x' ⟨he, v', r2, tt2⟩
    have hs := HJ.out.2.2.1
    have hz := hx.out.2.2.off.size
    have hn : ∀ b, w.heap.size ≤ b → ¬ RFoot R v b := fun b hb p => by have := HJ.out.2.2.2.2 _ (Or.inr p); omega
    refine ⟨he, ⟨?_, v', go1 x' v' r2 tt2⟩, fun o => tt2.off.cell (p := ⟨w.heap.size, o, none⟩) (by simp only; omega) (hn _ (Nat.le_refl _)), fun o => tt2.off.cell (p := ⟨w.heap.size + 1, o, none⟩) (by simp only; omega) (hn _ (by simp only; omega))⟩
    exact hx.out.1.off tt2.off (fun b hb => hn b (by omega))
  obtain ⟨cc, hcc⟩ : ∃ y, synC σ ar = y := ⟨_, rfl⟩
  rw [hcc] at hdc hrc
  clear hcc
  have hq1 : T.cell? ⟨w.heap.size + 1, 1, none⟩ = some (.int .i64 ar) := HB.out.2 1
  have hq3 : T.cell? ⟨w.heap.size + 1, 3, none⟩ = some (.int .i64 n) := HB.out.2 3
  have hq5 : T.cell? ⟨w.heap.size, 0, none⟩ = some (.pointer (some ⟨K, 0, none⟩)) := HB.out.1 0
  have hq6 : T.cell? ⟨w.heap.size, 1, none⟩ = some (.pointer (some ⟨R, 0, none⟩)) := HB.out.1 1
  clear h hT bT sT hb0 hb1
  go_enter Try.func17, Try.ntmps17
  go_wp2_with fail
  rw [HW.out]
  go_region_held3 (fun x => x.cell? ⟨w.heap.size, 0, none⟩ = some (.pointer (some ⟨K, 0, none⟩)) ∧ x.cell? ⟨w.heap.size, 1, none⟩ = some (.pointer (some ⟨R, 0, none⟩)) ∧ x.cell? ⟨w.heap.size + 1, 1, none⟩ = some (.int .i64 ar) ∧ x.cell? ⟨w.heap.size + 1, 3, none⟩ = some (.int .i64 n)) (simp [*]) (first | (go_at_call 22; refine (hdc _ ?_).mono ?_; (first | exact Below.refl _ _ | exact Below.drew (Below.refl _ _) | assumption | exact Below.drew (by assumption)); rintro e wx ⟨ev, v0', v1', rfl, hx1, hx2, hx3⟩) | (go_at_call 36; refine (hrc _ _ _ _ (by assumption)).mono ?_; rintro e wy ⟨rfl, hy1, hy2, hy3⟩) | (go_at_call 33; refine (refused_any hy1.out.1).mono ?_; rintro e wz ⟨rfl, hz1⟩; rw [hz1]))
  all_goals
    go_wp2_with fail
    go_ret
    obtain ⟨v', p1, s1⟩ := hy1.out.2
    obtain ⟨j, bb⟩ := HJ.out.1.play p1 s1 (synS_ok HJ.out.1.ok ar)
    exact ⟨rfl, _, _, v', _, ρ, vb, vw, es, j, by omega, (HJ.out.2.1.mono HJ.out.2.2.2.1).trans bb, Keep.step ρ HJ.out.2.1 s1⟩
set_option maxRecDepth 100000 in
set_option maxHeartbeats 4000000 in
theorem plays_cut {w : World} {B K R : Nat} {v0 v1 : Value} {v : Nat → Value} {σ : Sg} {Q : Nat} {ρ : Nat → Nat} {vb vw : Value} {es : List Ent} (h : Jt w B K R v0 v1 v σ Q ρ vb vw es) (ar at_ n t0 t1 t2 t3 : Int) (po : Option Addr) (pl pc : Nat) (_hm : es.length + 4 ≤ 1099511627776) :
    Calls Try.prog 17 #[.agg #[.pointer (some ⟨K, 0, none⟩), .pointer (some ⟨R, 0, none⟩)], .agg #[.int .i64 3, .int .i64 ar, .int .i64 at_, .int .i64 n, .slice po pl pc, .int .i64 t0, .int .i64 t1, .int .i64 t2, .int .i64 t3], .pointer (some ⟨Q, 0, none⟩)] w fun e w' => e = .returned (.bool true) ∧ ∃ v0' v1' v' σ' ρ' vb' vw' es', Jt w' B K R v0' v1' v' σ' Q ρ' vb' vw' es' ∧ es'.length ≤ es.length + 4 ∧ Below B w w' ∧ Keep w w' K R v0 v1 v ρ v0' v1' v' ρ' := by
  obtain ⟨T, hT⟩ : ∃ y, (w.alloc (.cells #[.pointer (some ⟨K, 0, none⟩), .pointer (some ⟨R, 0, none⟩)] 45)).alloc (.cells #[.int .i64 3, .int .i64 ar, .int .i64 at_, .int .i64 n, .slice po pl pc, .int .i64 t0, .int .i64 t1, .int .i64 t2, .int .i64 t3] 34) = y := ⟨_, rfl⟩
  have HW : Hid ((w.alloc (.cells #[.pointer (some ⟨K, 0, none⟩), .pointer (some ⟨R, 0, none⟩)] 45)).alloc (.cells #[.int .i64 3, .int .i64 ar, .int .i64 at_, .int .i64 n, .slice po pl pc, .int .i64 t0, .int .i64 t1, .int .i64 t2, .int .i64 t3] 34) = T) := hT
  have bT : Below w.heap.size w T := by rw [← hT]; exact ((Below.refl _ _).alloc (Nat.le_refl _) _).alloc (by simp) _
  have sT : T.heap.size = w.heap.size + 2 := by rw [← hT]; simp
  have hb0 : ∀ o, T.cell? ⟨w.heap.size, o, none⟩ = (#[.pointer (some ⟨K, 0, none⟩), .pointer (some ⟨R, 0, none⟩)] : Array Value)[o]? := fun o => by
    rw [← hT, World.cell?_alloc_lt _ _ ⟨w.heap.size, o, none⟩ (by simp)]; exact cell_new _ _ _ _ _
  have hb1 : ∀ o, T.cell? ⟨w.heap.size + 1, o, none⟩ = (#[.int .i64 3, .int .i64 ar, .int .i64 at_, .int .i64 n, .slice po pl pc, .int .i64 t0, .int .i64 t1, .int .i64 t2, .int .i64 t3] : Array Value)[o]? := fun o => by
    rw [← hT]; simp
  have HJ : Hid (Jt T B K R v0 v1 v σ Q ρ vb vw es ∧ Below w.heap.size w T ∧ T.heap.size = w.heap.size + 2 ∧ B ≤ w.heap.size ∧ (∀ k, (Foot K v0 v1 k ∨ RFoot R v k) → k < w.heap.size)) := ⟨h.below bT, bT, sT, h.hB, fun k hk => h.pr.foot_lt hk⟩
  have HB : Hid ((∀ o, T.cell? ⟨w.heap.size, o, none⟩ = (#[.pointer (some ⟨K, 0, none⟩), .pointer (some ⟨R, 0, none⟩)] : Array Value)[o]?) ∧ (∀ o, T.cell? ⟨w.heap.size + 1, o, none⟩ = (#[.int .i64 3, .int .i64 ar, .int .i64 at_, .int .i64 n, .slice po pl pc, .int .i64 t0, .int .i64 t1, .int .i64 t2, .int .i64 t3] : Array Value)[o]?)) := ⟨hb0, hb1⟩
  have hdc : ∀ x, Below T.heap.size T x → Calls Try.prog 26 #[.pointer (some ⟨K, 0, none⟩), .int .i64 ar, .int .i64 n] x fun e x' => ∃ ev v0' v1', e = .returned ev ∧ Hid (EvD x' T.heap.size ev (cutC σ ar n) ∧ DskS x' B K v0' v1' (cutS σ ar n) ∧ DStep T x' K v0 v1 v0' v1') ∧ (∀ o, x'.cell? ⟨w.heap.size, o, none⟩ = T.cell? ⟨w.heap.size, o, none⟩) ∧ (∀ o, x'.cell? ⟨w.heap.size + 1, o, none⟩ = T.cell? ⟨w.heap.size + 1, o, none⟩) := fun x hx => (dCut (HJ.out.1.below hx).pr.d ar n).mono fun e x' ⟨ev, v0', v1', he, h1, h2, h3⟩ => by
    have st : DStep T x' K v0 v1 v0' v1' := (DStep.of_below K v0 v1 hx).trans h3
    have hn : ∀ b, w.heap.size ≤ b → ¬ Foot K v0 v1 b := fun b hb p => by have := HJ.out.2.2.2.2 _ (Or.inl p); omega
    have hs := HJ.out.2.2.1
    refine ⟨ev, v0', v1', he, ⟨?_, h2, st⟩, fun o => st.off.cell (p := ⟨w.heap.size, o, none⟩) (by simp only; omega) (hn _ (Nat.le_refl _)), fun o => st.off.cell (p := ⟨w.heap.size + 1, o, none⟩) (by simp only; omega) (hn _ (by simp only; omega))⟩
    rcases h1 with q | ⟨b, q1, q2, q3, q4⟩
    · exact Or.inl q
    · exact Or.inr ⟨b, q1, q2, q3, Nat.le_trans hx.size q4⟩
  have hrc : ∀ (x : World) (ev v0' v1' : Value), Hid (EvD x T.heap.size ev (cutC σ ar n) ∧ DskS x B K v0' v1' (cutS σ ar n) ∧ DStep T x K v0 v1 v0' v1') → Calls Try.prog 37 #[.pointer (some ⟨R, 0, none⟩), .int .i64 ar, .int .i64 n] x fun e x' => e = .returned (.int .i64 (cutC σ ar n)) ∧ Hid (EvD x' T.heap.size ev (cutC σ ar n) ∧ ∃ v', Pr x' B K R v0' v1' v' (cutS σ ar n) ∧ PStep T x' K R v0 v1 v v0' v1' v') ∧ (∀ o, x'.cell? ⟨w.heap.size, o, none⟩ = x.cell? ⟨w.heap.size, o, none⟩) ∧ (∀ o, x'.cell? ⟨w.heap.size + 1, o, none⟩ = x.cell? ⟨w.heap.size + 1, o, none⟩) := fun x ev v0' v1' hx => by
    obtain ⟨r1, _, go1⟩ := HJ.out.1.pr.step (τ := cutS σ ar n) hx.out.2.1 hx.out.2.2
    refine (rCut r1 HJ.out.1.ok ar n).mono ?_
    rintro e x' ⟨he, v', r2, tt2⟩
    have hs := HJ.out.2.2.1
    have hz := hx.out.2.2.off.size
    have hn : ∀ b, w.heap.size ≤ b → ¬ RFoot R v b := fun b hb p => by have := HJ.out.2.2.2.2 _ (Or.inr p); omega
    refine ⟨he, ⟨?_, v', go1 x' v' r2 tt2⟩, fun o => tt2.off.cell (p := ⟨w.heap.size, o, none⟩) (by simp only; omega) (hn _ (Nat.le_refl _)), fun o => tt2.off.cell (p := ⟨w.heap.size + 1, o, none⟩) (by simp only; omega) (hn _ (by simp only; omega))⟩
    exact hx.out.1.off tt2.off (fun b hb => hn b (by omega))
  obtain ⟨cc, hcc⟩ : ∃ y, cutC σ ar n = y := ⟨_, rfl⟩
  rw [hcc] at hdc hrc
  clear hcc
  have hq1 : T.cell? ⟨w.heap.size + 1, 1, none⟩ = some (.int .i64 ar) := HB.out.2 1
  have hq3 : T.cell? ⟨w.heap.size + 1, 3, none⟩ = some (.int .i64 n) := HB.out.2 3
  have hq5 : T.cell? ⟨w.heap.size, 0, none⟩ = some (.pointer (some ⟨K, 0, none⟩)) := HB.out.1 0
  have hq6 : T.cell? ⟨w.heap.size, 1, none⟩ = some (.pointer (some ⟨R, 0, none⟩)) := HB.out.1 1
  clear h hT bT sT hb0 hb1
  go_enter Try.func17, Try.ntmps17
  go_wp2_with fail
  rw [HW.out]
  go_region_held3 (fun x => x.cell? ⟨w.heap.size, 0, none⟩ = some (.pointer (some ⟨K, 0, none⟩)) ∧ x.cell? ⟨w.heap.size, 1, none⟩ = some (.pointer (some ⟨R, 0, none⟩)) ∧ x.cell? ⟨w.heap.size + 1, 1, none⟩ = some (.int .i64 ar) ∧ x.cell? ⟨w.heap.size + 1, 3, none⟩ = some (.int .i64 n)) (simp [*]) (first | (go_at_call 26; refine (hdc _ ?_).mono ?_; (first | exact Below.refl _ _ | exact Below.drew (Below.refl _ _) | assumption | exact Below.drew (by assumption)); rintro e wx ⟨ev, v0', v1', rfl, hx1, hx2, hx3⟩) | (go_at_call 37; refine (hrc _ _ _ _ (by assumption)).mono ?_; rintro e wy ⟨rfl, hy1, hy2, hy3⟩) | (go_at_call 33; refine (refused_any hy1.out.1).mono ?_; rintro e wz ⟨rfl, hz1⟩; rw [hz1]))
  all_goals
    go_wp2_with fail
    go_ret
    obtain ⟨v', p1, s1⟩ := hy1.out.2
    obtain ⟨j, bb⟩ := HJ.out.1.play p1 s1 (cutS_ok HJ.out.1.ok ar n)
    exact ⟨rfl, _, _, v', _, ρ, vb, vw, es, j, by omega, (HJ.out.2.1.mono HJ.out.2.2.2.1).trans bb, Keep.step ρ HJ.out.2.1 s1⟩
/-- As many zeros as are asked for. -/
def fz1 (n : Int) : Nat := (max 0 (min n 16777217)).toNat
set_option maxRecDepth 100000 in
set_option maxHeartbeats 2000000 in
theorem fill_zeros (n : Int) (w : World) : Calls Try.prog 25 #[.int .i64 n] w fun e w' => e = .returned (.slice (some ⟨w.heap.size, 0, none⟩) (fz1 n) (fz1 n)) ∧ Row w' w.heap.size (.slice (some ⟨w.heap.size, 0, none⟩) (fz1 n) (fz1 n)) (List.replicate (fz1 n) 0) ∧ Below w.heap.size w w' := by
  have hk : fz1 n ≤ 16777217 := by unfold fz1; omega
  obtain ⟨w1, hmk, hR, hB1⟩ := run_make_bytes (w := w) (fz1 n) (by omega)
  have HR : Hid (Row w1 w.heap.size (.slice (some ⟨w.heap.size, 0, none⟩) (fz1 n) (fz1 n)) (List.replicate (fz1 n) 0) ∧ Below w.heap.size w w1) := ⟨hR, hB1⟩
  obtain ⟨z, hz⟩ : ∃ z, fz1 n = z := ⟨_, rfl⟩
  rw [hz] at hmk HR hk ⊢
  clear hR hB1
  by_cases h1 : n < 0
  · have hm0 : (Instr.makeSlice 25 (.int .i64 0) (.int .i64 0)).run Try.prog w = .ok (.slice (some ⟨w.heap.size, 0, none⟩) z z) w1 := by rw [← show ((z : Nat) : Int) = 0 by rw [← hz]; unfold fz1; omega]; exact hmk
    clear hmk hz
    go_enter Try.func25, Try.ntmps25
    go_wp2
    go_ret
    exact ⟨rfl, HR.out⟩
  · by_cases h2 : 16777217 < n
    · have hm0 : (Instr.makeSlice 25 (.int .i64 16777217) (.int .i64 16777217)).run Try.prog w = .ok (.slice (some ⟨w.heap.size, 0, none⟩) z z) w1 := by rw [← show ((z : Nat) : Int) = 16777217 by rw [← hz]; unfold fz1; omega]; exact hmk
      clear hmk hz
      go_enter Try.func25, Try.ntmps25
      go_wp2
      go_ret
      exact ⟨rfl, HR.out⟩
    · have hm0 : (Instr.makeSlice 25 (.int .i64 n) (.int .i64 n)).run Try.prog w = .ok (.slice (some ⟨w.heap.size, 0, none⟩) z z) w1 := by
        have e : ((z : Nat) : Int) = n := by rw [← hz]; unfold fz1; omega
        rw [e] at hmk; exact hmk
      clear hmk hz
      go_enter Try.func25, Try.ntmps25
      go_wp2
      go_ret
      exact ⟨rfl, HR.out⟩
set_option maxRecDepth 100000 in
set_option maxHeartbeats 4000000 in
theorem plays_fill {w : World} {B K R : Nat} {v0 v1 : Value} {v : Nat → Value} {σ : Sg} {Q : Nat} {ρ : Nat → Nat} {vb vw : Value} {es : List Ent} (h : Jt w B K R v0 v1 v σ Q ρ vb vw es) (ar at_ n t0 t1 t2 t3 : Int) (po : Option Addr) (pl pc : Nat) (_hm : es.length + 4 ≤ 1099511627776) :
    Calls Try.prog 17 #[.agg #[.pointer (some ⟨K, 0, none⟩), .pointer (some ⟨R, 0, none⟩)], .agg #[.int .i64 9, .int .i64 ar, .int .i64 at_, .int .i64 n, .slice po pl pc, .int .i64 t0, .int .i64 t1, .int .i64 t2, .int .i64 t3], .pointer (some ⟨Q, 0, none⟩)] w fun e w' => e = .returned (.bool true) ∧ ∃ v0' v1' v' σ' ρ' vb' vw' es', Jt w' B K R v0' v1' v' σ' Q ρ' vb' vw' es' ∧ es'.length ≤ es.length + 4 ∧ Below B w w' ∧ Keep w w' K R v0 v1 v ρ v0' v1' v' ρ' := by
  obtain ⟨T, hT⟩ : ∃ y, (w.alloc (.cells #[.pointer (some ⟨K, 0, none⟩), .pointer (some ⟨R, 0, none⟩)] 45)).alloc (.cells #[.int .i64 9, .int .i64 ar, .int .i64 at_, .int .i64 n, .slice po pl pc, .int .i64 t0, .int .i64 t1, .int .i64 t2, .int .i64 t3] 34) = y := ⟨_, rfl⟩
  have HW : Hid ((w.alloc (.cells #[.pointer (some ⟨K, 0, none⟩), .pointer (some ⟨R, 0, none⟩)] 45)).alloc (.cells #[.int .i64 9, .int .i64 ar, .int .i64 at_, .int .i64 n, .slice po pl pc, .int .i64 t0, .int .i64 t1, .int .i64 t2, .int .i64 t3] 34) = T) := hT
  have bT : Below w.heap.size w T := by rw [← hT]; exact ((Below.refl _ _).alloc (Nat.le_refl _) _).alloc (by simp) _
  have sT : T.heap.size = w.heap.size + 2 := by rw [← hT]; simp
  have hb0 : ∀ o, T.cell? ⟨w.heap.size, o, none⟩ = (#[.pointer (some ⟨K, 0, none⟩), .pointer (some ⟨R, 0, none⟩)] : Array Value)[o]? := fun o => by
    rw [← hT, World.cell?_alloc_lt _ _ ⟨w.heap.size, o, none⟩ (by simp)]; exact cell_new _ _ _ _ _
  have hb1 : ∀ o, T.cell? ⟨w.heap.size + 1, o, none⟩ = (#[.int .i64 9, .int .i64 ar, .int .i64 at_, .int .i64 n, .slice po pl pc, .int .i64 t0, .int .i64 t1, .int .i64 t2, .int .i64 t3] : Array Value)[o]? := fun o => by
    rw [← hT]; simp
  have HJ : Hid (Jt T B K R v0 v1 v σ Q ρ vb vw es ∧ Below w.heap.size w T ∧ T.heap.size = w.heap.size + 2 ∧ B ≤ w.heap.size ∧ (∀ k, (Foot K v0 v1 k ∨ RFoot R v k) → k < w.heap.size)) := ⟨h.below bT, bT, sT, h.hB, fun k hk => h.pr.foot_lt hk⟩
  have HB : Hid ((∀ o, T.cell? ⟨w.heap.size, o, none⟩ = (#[.pointer (some ⟨K, 0, none⟩), .pointer (some ⟨R, 0, none⟩)] : Array Value)[o]?) ∧ (∀ o, T.cell? ⟨w.heap.size + 1, o, none⟩ = (#[.int .i64 9, .int .i64 ar, .int .i64 at_, .int .i64 n, .slice po pl pc, .int .i64 t0, .int .i64 t1, .int .i64 t2, .int .i64 t3] : Array Value)[o]?)) := ⟨hb0, hb1⟩
  have hfc : ∀ x, Below T.heap.size T x → Calls Try.prog 25 #[.int .i64 n] x fun e x' => ∃ g, e = .returned (.slice (some ⟨g, 0, none⟩) (fz1 n) (fz1 n)) ∧ Hid (T.heap.size ≤ g ∧ g < x'.heap.size ∧ Byts x' (some ⟨g, 0, none⟩) (fz1 n) (List.replicate (fz1 n) 0) ∧ Below T.heap.size T x') ∧ (∀ o, x'.cell? ⟨w.heap.size, o, none⟩ = T.cell? ⟨w.heap.size, o, none⟩) ∧ (∀ o, x'.cell? ⟨w.heap.size + 1, o, none⟩ = T.cell? ⟨w.heap.size + 1, o, none⟩) := fun x hx => (fill_zeros n x).mono fun e x' ⟨he, h1, h2⟩ => by
    have hb := hx.trans (h2.mono hx.size)
    have hs := HJ.out.2.2.1
    exact ⟨_, he, ⟨hx.size, (h1.lt rfl).2, h1.asByts0, hb⟩, fun o => hb.cell (p := ⟨w.heap.size, o, none⟩) (by simp only; omega), fun o => hb.cell (p := ⟨w.heap.size + 1, o, none⟩) (by simp only; omega)⟩
  have hk : fz1 n ≤ 16777217 := by unfold fz1; omega
  have hac : ∀ (x : World) (g : Nat), Hid (T.heap.size ≤ g ∧ g < x.heap.size ∧ Byts x (some ⟨g, 0, none⟩) (fz1 n) (List.replicate (fz1 n) 0) ∧ Below T.heap.size T x) → Calls Try.prog 35 #[.agg #[.pointer (some ⟨K, 0, none⟩), .pointer (some ⟨R, 0, none⟩)], .int .i64 ar, .slice (some ⟨g, 0, none⟩) (fz1 n) (fz1 n)] x fun e x' => e = .returned (.bool true) ∧ Hid (∃ v0' v1' v', Pr x' B K R v0' v1' v' (appS σ ar (List.replicate (fz1 n) 0)) ∧ PStep T x' K R v0 v1 v v0' v1' v') ∧ (∀ o, x'.cell? ⟨w.heap.size, o, none⟩ = T.cell? ⟨w.heap.size, o, none⟩) ∧ (∀ o, x'.cell? ⟨w.heap.size + 1, o, none⟩ = T.cell? ⟨w.heap.size + 1, o, none⟩) := fun x g hg => by
    obtain ⟨g1, g2, g3, g4⟩ := hg.out
    have hs := HJ.out.2.2.1
    have hn : ∀ b, w.heap.size ≤ b → ¬ (Foot K v0 v1 b ∨ RFoot R v b) := fun b hb p => by have := HJ.out.2.2.2.2 _ p; omega
    refine (appends_any (HJ.out.1.below g4).pr HJ.out.1.ok ar g3 (fun e => by cases e) (by omega) (fun _ b o e => by simp only [Option.some.injEq, Addr.mk.injEq] at e; exact hn b (by omega))).mono ?_
    rintro e x' ⟨he, v0', v1', v', p1, s1⟩
    have st : PStep T x' K R v0 v1 v v0' v1' v' := (PStep.of_below K R v0 v1 v g4).trans s1
    exact ⟨he, ⟨v0', v1', v', p1, st⟩, fun o => st.off.cell (p := ⟨w.heap.size, o, none⟩) (by simp only; omega) (hn _ (Nat.le_refl _)), fun o => st.off.cell (p := ⟨w.heap.size + 1, o, none⟩) (by simp only; omega) (hn _ (by simp only; omega))⟩
  obtain ⟨z, hz⟩ : ∃ z, fz1 n = z := ⟨_, rfl⟩
  rw [hz] at hfc hac
  clear hz hk
  have hq1 : T.cell? ⟨w.heap.size + 1, 1, none⟩ = some (.int .i64 ar) := HB.out.2 1
  have hq3 : T.cell? ⟨w.heap.size + 1, 3, none⟩ = some (.int .i64 n) := HB.out.2 3
  have hq5 : T.cell? ⟨w.heap.size, 0, none⟩ = some (.pointer (some ⟨K, 0, none⟩)) := HB.out.1 0
  have hq6 : T.cell? ⟨w.heap.size, 1, none⟩ = some (.pointer (some ⟨R, 0, none⟩)) := HB.out.1 1
  clear h hT bT sT hb0 hb1
  go_enter Try.func17, Try.ntmps17
  go_wp2_with fail
  rw [HW.out]
  go_region_held3 (fun x => x.cell? ⟨w.heap.size, 0, none⟩ = some (.pointer (some ⟨K, 0, none⟩)) ∧ x.cell? ⟨w.heap.size, 1, none⟩ = some (.pointer (some ⟨R, 0, none⟩)) ∧ x.cell? ⟨w.heap.size + 1, 1, none⟩ = some (.int .i64 ar) ∧ x.cell? ⟨w.heap.size + 1, 3, none⟩ = some (.int .i64 n)) (simp [*]) (first | (go_at_call 25; refine (hfc _ ?_).mono ?_; (first | exact Below.refl _ _ | exact Below.drew (Below.refl _ _) | assumption | exact Below.drew (by assumption)); rintro e wx ⟨gx, rfl, hx1, hx2, hx3⟩) | (go_at_call 35; refine (hac _ _ (by assumption)).mono ?_; rintro e wy ⟨rfl, hy1, hy2, hy3⟩))
  all_goals
    go_wp2_with fail
    go_ret
    obtain ⟨v0', v1', v', p1, s1⟩ := hy1.out
    obtain ⟨j, bb⟩ := HJ.out.1.play p1 s1 (appS_ok HJ.out.1.ok ar _)
    exact ⟨rfl, v0', v1', v', _, ρ, vb, vw, es, j, by omega, (HJ.out.2.1.mono HJ.out.2.2.2.1).trans bb, Keep.step ρ HJ.out.2.1 s1⟩
theorem rLen_any {w : World} {B R : Nat} {v : Nat → Value} {σ : Sg} (h : RkS w B R v σ) (ar : Int) : Calls Try.prog 39 #[.pointer (some ⟨R, 0, none⟩), .int .i64 ar] w fun e w' => e = .returned (.int .i64 (lnV σ ar)) ∧ ∃ k, w' = w.drewN k := by
  by_cases h0 : ar = 0
  · subst h0
    refine (rLen0 h).mono ?_
    rintro e w' ⟨he, hk⟩
    have hs := rx_sum0 σ
    rw [← Int.natCast_add, hs] at he
    exact ⟨by simpa [lnV] using he, hk⟩
  · by_cases h1 : ar = 1
    · subst h1
      refine (rLen1 h).mono ?_
      rintro e w' ⟨he, hk⟩
      have hs := rx_sum1 σ
      rw [← Int.natCast_add, hs] at he
      exact ⟨by simpa [lnV] using he, hk⟩
    · refine (rLen_bad ar h0 h1 h).mono ?_
      rintro e w' ⟨he, rfl⟩
      have e1 : lnV σ ar = 0 := by simp [lnV, h0, h1]
      rw [e1]
      exact ⟨he, 0, (World.drewN_zero _).symm⟩
set_option maxRecDepth 100000 in
set_option maxHeartbeats 4000000 in
theorem plays_all {w : World} {B K R : Nat} {v0 v1 : Value} {v : Nat → Value} {σ : Sg} {Q : Nat} {ρ : Nat → Nat} {vb vw : Value} {es : List Ent} (h : Jt w B K R v0 v1 v σ Q ρ vb vw es) (ar at_ n t0 t1 t2 t3 : Int) (po : Option Addr) (pl pc : Nat) (_hm : es.length + 4 ≤ 1099511627776) :
    Calls Try.prog 17 #[.agg #[.pointer (some ⟨K, 0, none⟩), .pointer (some ⟨R, 0, none⟩)], .agg #[.int .i64 10, .int .i64 ar, .int .i64 at_, .int .i64 n, .slice po pl pc, .int .i64 t0, .int .i64 t1, .int .i64 t2, .int .i64 t3], .pointer (some ⟨Q, 0, none⟩)] w fun e w' => e = .returned (.bool true) ∧ ∃ v0' v1' v' σ' ρ' vb' vw' es', Jt w' B K R v0' v1' v' σ' Q ρ' vb' vw' es' ∧ es'.length ≤ es.length + 4 ∧ Below B w w' ∧ Keep w w' K R v0 v1 v ρ v0' v1' v' ρ' := by
  obtain ⟨T, hT⟩ : ∃ y, (w.alloc (.cells #[.pointer (some ⟨K, 0, none⟩), .pointer (some ⟨R, 0, none⟩)] 45)).alloc (.cells #[.int .i64 10, .int .i64 ar, .int .i64 at_, .int .i64 n, .slice po pl pc, .int .i64 t0, .int .i64 t1, .int .i64 t2, .int .i64 t3] 34) = y := ⟨_, rfl⟩
  have HW : Hid ((w.alloc (.cells #[.pointer (some ⟨K, 0, none⟩), .pointer (some ⟨R, 0, none⟩)] 45)).alloc (.cells #[.int .i64 10, .int .i64 ar, .int .i64 at_, .int .i64 n, .slice po pl pc, .int .i64 t0, .int .i64 t1, .int .i64 t2, .int .i64 t3] 34) = T) := hT
  have bT : Below w.heap.size w T := by rw [← hT]; exact ((Below.refl _ _).alloc (Nat.le_refl _) _).alloc (by simp) _
  have sT : T.heap.size = w.heap.size + 2 := by rw [← hT]; simp
  have hb0 : ∀ o, T.cell? ⟨w.heap.size, o, none⟩ = (#[.pointer (some ⟨K, 0, none⟩), .pointer (some ⟨R, 0, none⟩)] : Array Value)[o]? := fun o => by
    rw [← hT, World.cell?_alloc_lt _ _ ⟨w.heap.size, o, none⟩ (by simp)]; exact cell_new _ _ _ _ _
  have hb1 : ∀ o, T.cell? ⟨w.heap.size + 1, o, none⟩ = (#[.int .i64 10, .int .i64 ar, .int .i64 at_, .int .i64 n, .slice po pl pc, .int .i64 t0, .int .i64 t1, .int .i64 t2, .int .i64 t3] : Array Value)[o]? := fun o => by
    rw [← hT]; simp
  have HJ : Hid (Jt T B K R v0 v1 v σ Q ρ vb vw es ∧ Below w.heap.size w T ∧ T.heap.size = w.heap.size + 2 ∧ B ≤ w.heap.size ∧ (∀ k, (Foot K v0 v1 k ∨ RFoot R v k) → k < w.heap.size)) := ⟨h.below bT, bT, sT, h.hB, fun k hk => h.pr.foot_lt hk⟩
  have HB : Hid ((∀ o, T.cell? ⟨w.heap.size, o, none⟩ = (#[.pointer (some ⟨K, 0, none⟩), .pointer (some ⟨R, 0, none⟩)] : Array Value)[o]?) ∧ (∀ o, T.cell? ⟨w.heap.size + 1, o, none⟩ = (#[.int .i64 10, .int .i64 ar, .int .i64 at_, .int .i64 n, .slice po pl pc, .int .i64 t0, .int .i64 t1, .int .i64 t2, .int .i64 t3] : Array Value)[o]?)) := ⟨hb0, hb1⟩
  have HZB : Hid (∀ g, w.heap.size ≤ g → ρ g = 0) := h.bk.new
  have hfc : ∀ x, Below T.heap.size T x → Calls Try.prog 39 #[.pointer (some ⟨R, 0, none⟩), .int .i64 ar] x fun e x' => e = .returned (.int .i64 (lnV σ ar)) ∧ Hid (Below T.heap.size T x') ∧ (∀ o, x'.cell? ⟨w.heap.size, o, none⟩ = T.cell? ⟨w.heap.size, o, none⟩) ∧ (∀ o, x'.cell? ⟨w.heap.size + 1, o, none⟩ = T.cell? ⟨w.heap.size + 1, o, none⟩) := fun x hx => (rLen_any (HJ.out.1.below hx).pr.r ar).mono fun e x' ⟨he, k, hk⟩ => by
    have hb : Below T.heap.size T x' := by rw [hk]; exact hx.trans ((drewB x k).mono hx.size)
    have hs := HJ.out.2.2.1
    exact ⟨he, hb, fun o => hb.cell (p := ⟨w.heap.size, o, none⟩) (by simp only; omega), fun o => hb.cell (p := ⟨w.heap.size + 1, o, none⟩) (by simp only; omega)⟩
  have hac : ∀ (x : World), Hid (Below T.heap.size T x) → Calls Try.prog 38 #[.agg #[.pointer (some ⟨K, 0, none⟩), .pointer (some ⟨R, 0, none⟩)], .int .i64 ar, .int .i64 0, .int .i64 (lnV σ ar), .pointer (some ⟨Q, 0, none⟩)] x fun e x' => e = .returned (.bool true) ∧ Hid (∃ ρ' vb' vw' es', Jt x' B K R v0 v1 v σ Q ρ' vb' vw' es' ∧ es'.length = es.length + 2 ∧ Below B T x' ∧ Off (fun k => ρ k = 1 ∨ ρ k = 2 ∨ ρ k = 3) T x' ∧ (∀ k, k < T.heap.size → ρ' k = ρ k)) ∧ (∀ o, x'.cell? ⟨w.heap.size, o, none⟩ = T.cell? ⟨w.heap.size, o, none⟩) ∧ (∀ o, x'.cell? ⟨w.heap.size + 1, o, none⟩ = T.cell? ⟨w.heap.size + 1, o, none⟩) := fun x hx => by
    refine (reads_any (HJ.out.1.below hx.out) ar 0 (lnV σ ar) (by omega) (by omega)).mono ?_
    rintro e x' ⟨he, ρ', vb', vw', es', j, l, bb, oo, pp⟩
    have hs := HJ.out.2.2.1
    have hxs := hx.out.size
    have hzb := HZB.out
    have of : Off (fun k => ρ k = 1 ∨ ρ k = 2 ∨ ρ k = 3) T x' := (Off.of_below hx.out).trans oo
    exact ⟨he, ⟨ρ', vb', vw', es', j, l, (hx.out.mono HJ.out.1.hB).trans bb, of, fun k hk => pp k (by omega)⟩, fun o => of.cell (p := ⟨w.heap.size, o, none⟩) (by simp only; omega) (by have := hzb w.heap.size (Nat.le_refl _); simp only; omega), fun o => of.cell (p := ⟨w.heap.size + 1, o, none⟩) (by simp only; omega) (by have := hzb (w.heap.size + 1) (by omega); simp only; omega)⟩
  obtain ⟨z, hz⟩ : ∃ z, lnV σ ar = z := ⟨_, rfl⟩
  rw [hz] at hfc hac
  clear hz
  have hq1 : T.cell? ⟨w.heap.size + 1, 1, none⟩ = some (.int .i64 ar) := HB.out.2 1
  have hq3 : T.cell? ⟨w.heap.size + 1, 3, none⟩ = some (.int .i64 n) := HB.out.2 3
  have hq5 : T.cell? ⟨w.heap.size, 0, none⟩ = some (.pointer (some ⟨K, 0, none⟩)) := HB.out.1 0
  have hq6 : T.cell? ⟨w.heap.size, 1, none⟩ = some (.pointer (some ⟨R, 0, none⟩)) := HB.out.1 1
  clear h hT bT sT hb0 hb1
  go_enter Try.func17, Try.ntmps17
  go_wp2_with fail
  rw [HW.out]
  go_region_held3 (fun x => x.cell? ⟨w.heap.size, 0, none⟩ = some (.pointer (some ⟨K, 0, none⟩)) ∧ x.cell? ⟨w.heap.size, 1, none⟩ = some (.pointer (some ⟨R, 0, none⟩)) ∧ x.cell? ⟨w.heap.size + 1, 1, none⟩ = some (.int .i64 ar) ∧ x.cell? ⟨w.heap.size + 1, 3, none⟩ = some (.int .i64 n)) (simp [*]) (first | (go_at_call 39; refine (hfc _ ?_).mono ?_; (first | exact Below.refl _ _ | exact Below.drew (Below.refl _ _) | assumption | exact Below.drew (by assumption)); rintro e wx ⟨rfl, hx1, hx2, hx3⟩) | (go_at_call 38; refine (hac _ (by assumption)).mono ?_; rintro e wy ⟨rfl, hy1, hy2, hy3⟩))
  all_goals
    go_wp2_with fail
    go_ret
    obtain ⟨ρ', vb', vw', es', j, l, bb, oo, pp⟩ := hy1.out
    exact ⟨rfl, v0, v1, v, σ, ρ', vb', vw', es', j, by omega, (HJ.out.2.1.mono HJ.out.2.2.2.1).trans bb, Keep.book HJ.out.2.1 oo pp⟩
end Go.Proofs.Ytlgjjemfckmidaa

/-
  The law's 'plays', whatever the call.
-/
namespace Go.Proofs.Ytlgjjemfckmidaa
open Go.RowKit

theorem plays_any {w : World} {B K R : Nat} {v0 v1 : Value} {v : Nat → Value} {σ : Sg} {Q : Nat} {ρ : Nat → Nat} {vb vw : Value} {es : List Ent} (h : Jt w B K R v0 v1 v σ Q ρ vb vw es) (y : Opv) (hb : Byts w y.po y.pl y.bs) (hpo : y.po = none → y.pc = 0) (hpl : y.pl + 90 ≤ 140737488355328) (hfar : 0 < y.pl → ∀ b o, y.po = some ⟨b, o, none⟩ → ¬ (Foot K v0 v1 b ∨ RFoot R v b))
    (hat : -9223372036854775808 ≤ y.at_ ∧ y.at_ ≤ 9223372036854775807) (hn : -9223372036854775808 ≤ y.n ∧ y.n ≤ 9223372036854775807) (hm : es.length + 4 ≤ 1099511627776) :
    Calls Try.prog 17 #[.agg #[.pointer (some ⟨K, 0, none⟩), .pointer (some ⟨R, 0, none⟩)], .agg #[.int .i64 y.kd, .int .i64 y.ar, .int .i64 y.at_, .int .i64 y.n, .slice y.po y.pl y.pc, .int .i64 y.t0, .int .i64 y.t1, .int .i64 y.t2, .int .i64 y.t3], .pointer (some ⟨Q, 0, none⟩)] w fun e w' => e = .returned (.bool true) ∧ ∃ v0' v1' v' σ' ρ' vb' vw' es', Jt w' B K R v0' v1' v' σ' Q ρ' vb' vw' es' ∧ es'.length ≤ es.length + 4 ∧ Below B w w' ∧ Keep w w' K R v0 v1 v ρ v0' v1' v' ρ' := by
  obtain ⟨kd, ar, at_, n, po, pl, pc, t0, t1, t2, t3, bs⟩ := y
  by_cases h1 : kd = 1
  · subst h1; exact plays_append h ar at_ n t0 t1 t2 t3 po pl pc bs hb hpo hpl hfar hm
  by_cases h2 : kd = 2
  · subst h2; exact plays_sync h ar at_ n t0 t1 t2 t3 po pl pc hm
  by_cases h3 : kd = 3
  · subst h3; exact plays_cut h ar at_ n t0 t1 t2 t3 po pl pc hm
  by_cases h4 : kd = 4
  · subst h4; exact plays_read h ar at_ n t0 t1 t2 t3 po pl pc hat hm
  by_cases h5 : kd = 5
  · subst h5; exact plays_len h ar at_ n t0 t1 t2 t3 po pl pc hm
  by_cases h6 : kd = 6
  · subst h6; exact plays_fuse h ar at_ n t0 t1 t2 t3 po pl pc hn hm
  by_cases h7 : kd = 7
  · subst h7; exact plays_crash h ar at_ n t0 t1 t2 t3 po pl pc hm
  by_cases h8 : kd = 8
  · subst h8; exact plays_told h ar at_ n t0 t1 t2 t3 po pl pc hm
  by_cases h9 : kd = 9
  · subst h9; exact plays_fill h ar at_ n t0 t1 t2 t3 po pl pc hm
  by_cases h10 : kd = 10
  · subst h10; exact plays_all h ar at_ n t0 t1 t2 t3 po pl pc hm
  exact plays_none h ar at_ n t0 t1 t2 t3 po pl pc kd ⟨h1, h2, h3, h4, h5, h6, h7, h8, h9, h10⟩ hm
end Go.Proofs.Ytlgjjemfckmidaa
