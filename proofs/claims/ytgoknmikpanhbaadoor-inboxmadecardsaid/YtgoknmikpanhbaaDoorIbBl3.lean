/-
  The loose pair: Take, TakeTexts, take, takeList of what is empty.
-/
import Derived.Test.YtgoknmikpanhbaaDoorIbBl2
import Derived.Test.YtgoknmikpanhbaaDoorIbTexts
import Derived.Deep.DeepCutAuto
namespace Go.Proofs.YtgoknmikpanhbaaDoor
open Go.RowKit

/-- What an operation leaves. -/
def LQ (W : World) (X K : Nat) (bv mk ke rm : Value) (n : Nat) (w w' : World) : Prop := LS W X K bv mk ke rm n w' ∧ Kp w w'
theorem run_make_texts {w : World} : ∃ w', (Instr.makeSlice 37 (.int .i64 0) (.int .i64 0)).run Tryd.prog w = .ok (.slice (some ⟨w.heap.size, 0, none⟩) 0 0) w' ∧ Below w.heap.size w w' := by
  have h : (Tryd.prog.info? 9).map (fun i => (i.zero, i.size, i.bytes)) = some (some (.string ⟨#[]⟩), 1, 16) := by kernel_rfl
  obtain ⟨i, hi, e⟩ := Option.map_eq_some_iff.1 h
  simp only [Prod.mk.injEq] at e
  obtain ⟨hz, hs, hby⟩ := e
  obtain ⟨w', h1, h2, h3⟩ := run_make_full (P := Tryd.prog) w w.heap.size 37 9 i _ 1 Tryd.underlying37 hi hz hs .i64 .i64 0 (by rw [hby]; omega) (by unfold maxLen; omega) (Nat.le_refl _)
  exact ⟨w', h1, (Off.of_grown h3).below (Nat.le_refl _) (fun k e => by cases e)⟩
section
variable {W w w' : World} {X K n : Nat} {bv mk ke rm : Value}
set_option maxRecDepth 100000 in
set_option maxHeartbeats 2000000 in
theorem take0 (h : LS W X K bv mk ke rm n w) (hn : n ≤ 900) (a : Option Addr) (c : Nat) : Calls Tryd.prog 51 #[.pointer (some ⟨K, 0, none⟩), .slice a 0 c] w fun e w' => e = .returned (.tuple #[]) ∧ Hid (LQ W X K bv mk ke rm (n + 1) w w') := by
  obtain ⟨w1, hm0, _, hB1⟩ := run_make_bytes (w := w) 0 (by omega)
  have hmk : (Instr.makeSlice 22 (.int .i64 0) (.int .i64 0)).run Tryd.prog w = .ok (.slice (some ⟨w.heap.size, 0, none⟩) 0 0) w1 := hm0
  obtain ⟨v0, v1, a0, n0, c0, w2, a1, n1, c1, w4, k0, r1, k1, k2, k3, r2, k4, k5, R⟩ := ls_take (h.below hB1) hn (a, 0, c) (some ⟨w.heap.size, 0, none⟩, 0, 0)
  have HZ : Hid (LQ W X K bv mk ke rm (n + 1) w (w4.setCell ⟨K, 1, none⟩ (.slice a1 n1 c1))) := ⟨R.out.1, (Kp.of_below hB1).trans R.out.2⟩
  clear R h hm0 hB1
  go_enter Tryd.func51, Tryd.ntmps51
  go_wp2_with fail
  refine wp_loop_rounds 1 ?_
  rw [rounds_succ]
  go_wp2_with (at_builtin; first | refine wpList_append_run rfl (.tmp 26) (.tmp 28) 60 _ rfl r1 ?_ | refine wpList_append_run rfl (.tmp 36) (.tmp 38) 60 _ rfl r2 ?_)
  go_end0
  exact ⟨rfl, HZ⟩
set_option maxRecDepth 100000 in
set_option maxHeartbeats 2000000 in
theorem texts0 (h : LS W X K bv mk ke rm n w) (hn : n ≤ 900) (a : Option Addr) (c : Nat) : Calls Tryd.prog 39 #[.pointer (some ⟨K, 0, none⟩), .slice a 0 c] w fun e w' => e = .returned (.tuple #[]) ∧ Hid (LQ W X K bv mk ke rm (n + 1) w w') := by
  obtain ⟨w1, hmk, hB1⟩ := run_make_texts (w := w)
  obtain ⟨v0, v1, a0, n0, c0, w2, a1, n1, c1, w4, k0, r1, k1, k2, k3, r2, k4, k5, R⟩ := ls_texts (h.below hB1) hn (a, 0, c) (some ⟨w.heap.size, 0, none⟩, 0, 0)
  have HZ : Hid (LQ W X K bv mk ke rm (n + 1) w (w4.setCell ⟨K, 5, none⟩ (.slice a1 n1 c1))) := ⟨R.out.1, (Kp.of_below hB1).trans R.out.2⟩
  clear R h hB1
  go_enter Tryd.func39, Tryd.ntmps39
  go_wp2_with fail
  refine wp_loop_rounds 1 ?_
  rw [rounds_succ]
  go_wp2_with (at_builtin; first | refine wpList_append_run rfl (.tmp 26) (.tmp 28) 62 _ rfl r1 ?_ | refine wpList_append_run rfl (.tmp 36) (.tmp 38) 62 _ rfl r2 ?_)
  go_end0
  exact ⟨rfl, HZ⟩
set_option maxRecDepth 100000 in
set_option maxHeartbeats 2000000 in
theorem takeList0 (h : LS W X K bv mk ke rm n w) (hn : n ≤ 900) (a : Option Addr) (c : Nat) : Calls Tryd.prog 41 #[.pointer (some ⟨X, 0, none⟩), .slice a 0 c] w fun e w' => e = .returned (.tuple #[]) ∧ Hid (LQ W X K bv mk ke rm (n + 1) w w') := by
  obtain ⟨v0, v1, a0, n0, c0, w2, a1, n1, c1, w4, k0, r1, k1, k2, k3, r2, k4, k5, R⟩ := ls_list h hn (a, 0, c) (none, 0, 0)
  have HZ : Hid (LQ W X K bv mk ke rm (n + 1) w (w4.setCell ⟨X, 7, none⟩ (.slice a1 n1 c1))) := ⟨R.out.1, R.out.2⟩
  clear R h
  go_enter Tryd.func41, Tryd.ntmps41
  go_wp2_with fail
  refine wp_loop_rounds 1 ?_
  rw [rounds_succ]
  go_wp2_with fail
  refine wp_loop_rounds 1 ?_
  rw [rounds_succ]
  go_wp2_with (at_builtin; first | refine wpList_append_run rfl (.tmp 39) (.tmp 41) 65 _ rfl r1 ?_ | refine wpList_append_run rfl (.tmp 49) (.tmp 51) 65 _ rfl r2 ?_)
  go_end0
  exact ⟨rfl, HZ⟩
set_option maxRecDepth 100000 in
set_option maxHeartbeats 2000000 in
theorem tk0 (h : LS W X K bv mk ke rm n w) (hn : n ≤ 800) (a : Option Addr) (c : Nat) (a' : Option Addr) (c' : Nat) (a'' : Option Addr) (c'' : Nat) : Calls Tryd.prog 38 #[.pointer (some ⟨X, 0, none⟩), .agg #[.string ⟨#[]⟩, .slice a 0 c, .int .i64 0, .int .i64 0, .slice a' 0 c', .string ⟨#[]⟩, .slice a'' 0 c'']] w fun e w' => e = .returned (.tuple #[]) ∧ Hid (LQ W X K bv mk ke rm (n + 3) w w') := by
  obtain ⟨V, hV⟩ : ∃ V, w.alloc (.cells #[.string ⟨#[]⟩, .slice a 0 c, .int .i64 0, .int .i64 0, .slice a' 0 c', .string ⟨#[]⟩, .slice a'' 0 c''] 24) = V := ⟨_, rfl⟩
  have hb : Below w.heap.size w V := by rw [← hV]; exact (Below.refl _ _).alloc (Nat.le_refl _) _
  have hy : V.heap[w.heap.size]? = some (.cells #[.string ⟨#[]⟩, .slice a 0 c, .int .i64 0, .int .i64 0, .slice a' 0 c', .string ⟨#[]⟩, .slice a'' 0 c''] 24 (0, 0)) := by rw [← hV]; exact heap_alloc_new _ _
  have HV : Hid (LS W X K bv mk ke rm n V ∧ Below w.heap.size w V) := ⟨h.below hb, hb⟩
  have nL : ¬ LTy 24 := fun g => by rcases g with g | g | g | g | g <;> exact absurd g (by decide)
  have HY : Hid (∀ z, Kp V z → z.cell? ⟨w.heap.size, 1, none⟩ = some (.slice a 0 c) ∧ z.cell? ⟨w.heap.size, 4, none⟩ = some (.slice a' 0 c') ∧ z.cell? ⟨w.heap.size, 6, none⟩ = some (.slice a'' 0 c'')) := fun z hz => by
    have := hz.2 _ _ _ hy nL
    exact ⟨hcell this 1, hcell this 4, hcell this 6⟩
  have HT : Hid (∀ (v1 : World) (m : Nat) (p : Option Addr) (q : Nat), m ≤ 802 → LQ W X K bv mk ke rm m V v1 → ∀ z, Below v1.heap.size v1 z → Calls Tryd.prog 51 #[.pointer (some ⟨K, 0, none⟩), .slice p 0 q] z fun e w' => e = .returned (.tuple #[]) ∧ Hid (LQ W X K bv mk ke rm (m + 1) V w')) := fun v1 m p q hm hq z hz =>
    (take0 (hq.1.below hz) (by omega) p q).mono fun e w' ⟨e1, e2⟩ => ⟨e1, e2.out.1, hq.2.trans ((Kp.of_below hz).trans e2.out.2)⟩
  have HD : Hid (∀ {m : Nat} {z : World} (k : Nat), LQ W X K bv mk ke rm m V z → LQ W X K bv mk ke rm m V (z.drewN k)) := fun {m z} k hq => ⟨hq.1.below (below_drewN (Below.refl _ _) k), hq.2.trans (Kp.of_below (below_drewN (Below.refl _ _) k))⟩
  have hc0 := HV.out.1.cells
  have x5 := hc0.2.2.2.1
  have lx := hc0.2.2.2.2
  have y1 := (HY.out V ⟨Nat.le_refl _, fun _ _ _ h _ => h⟩).1
  have ly := cell_lt y1
  have HQ0 : Hid (LQ W X K bv mk ke rm n V V) := ⟨HV.out.1, Nat.le_refl _, fun _ _ _ h _ => h⟩
  clear h hb hy nL hc0
  go_enter Tryd.func38, Tryd.ntmps38
  go_upto_region 1 with fail
  clear hV
  go_cut [] (fun wx => Hid (LQ W X K bv mk ke rm (n + 1) V wx))
  case first =>
    clear HY HV
    go_region_law (go_simp; go_at_call 51; refine (HT.out V n _ _ (by omega) HQ0.out _ ?_).mono ?_; (first | exact Below.refl _ _ | exact Below.drew (Below.refl _ _)); rintro _ w1 ⟨rfl, H1⟩)
    all_goals
      go_wp2_with fail
      go_meet
      first | exact H1 | exact HD.out 1 H1.out
  case rest =>
    have H1 := hcut
    clear hcut x5 lx y1 ly HQ0
    have hc1 := H1.out.1.cells
    have x5 := hc1.2.2.2.1
    have lx := hc1.2.2.2.2
    have y4 := (HY.out _ H1.out.2).2.1
    have ly := cell_lt y4
    clear hc1
    go_upto_region 2 with fail
    go_cut [] (fun wx => Hid (LQ W X K bv mk ke rm (n + 2) V wx))
    case first =>
      clear HY HV
      go_region_law (go_simp; go_at_call 51; refine (HT.out _ (n + 1) _ _ (by omega) H1.out _ ?_).mono ?_; (first | exact Below.refl _ _ | exact Below.drew (Below.refl _ _)); rintro _ w2 ⟨rfl, H2⟩)
      all_goals
        go_wp2_with fail
        go_meet
        first | exact H2 | exact HD.out 1 H2.out
    case rest =>
      have H2 := hcut
      clear hcut x5 lx y4 ly H1
      have hc2 := H2.out.1.cells
      have x5 := hc2.2.2.2.1
      have lx := hc2.2.2.2.2
      have y6 := (HY.out _ H2.out.2).2.2
      have ly := cell_lt y6
      clear hc2
      go_wp2_with fail
      go_region_law (go_simp; go_at_call 51; refine (HT.out _ (n + 2) _ _ (by omega) H2.out _ ?_).mono ?_; (first | exact Below.refl _ _ | exact Below.drew (Below.refl _ _)); rintro _ w3 ⟨rfl, H3⟩)
      all_goals
        have H9 : Hid (∀ k, LQ W X K bv mk ke rm (n + 3) w (w3.drewN k)) := fun k => ⟨(HD.out k H3.out).1, (Kp.of_below HV.out.2).trans (HD.out k H3.out).2⟩
        have H8 : Hid (LQ W X K bv mk ke rm (n + 3) w w3) := ⟨H3.out.1, (Kp.of_below HV.out.2).trans H3.out.2⟩
        go_wp2_with fail
        go_end0
        first | exact ⟨rfl, H8⟩ | exact ⟨rfl, H9.out 1⟩ | exact ⟨rfl, H9.out _⟩
end
end Go.Proofs.YtgoknmikpanhbaaDoor
