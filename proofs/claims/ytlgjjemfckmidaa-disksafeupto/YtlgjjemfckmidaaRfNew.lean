/-
  The document's disk: New, From, Len.
-/
import Derived.Test.YtlgjjemfckmidaaRfCut
namespace Go.Proofs.Ytlgjjemfckmidaa
open Go.RowKit

theorem rk_new (w : World) : Rk (w.alloc (.cells #[.slice none 0 0, .slice none 0 0, .slice none 0 0, .slice none 0 0, .bool false, .int .i64 (-1), .int .i64 0, .int .i64 0, .int .i64 0] 97)) w.heap.size w.heap.size (fun _ => .slice none 0 0) (fun _ => []) false (-1) 0 0 0 := by
  refine ⟨fun q hq => ?_, by simp, by simp, by simp, by simp, by simp, fun q => (by simp), fun q _ => Row.nil _ _, fun q _ e => (by cases e), fun p q _ _ _ g e => (by cases e), fun q _ => (by simp), Nat.le_refl _, by simp, by omega⟩
  match q, hq with
  | 0, _ => simp
  | 1, _ => simp
  | 2, _ => simp
  | 3, _ => simp
set_option maxHeartbeats 1000000 in
theorem rNew_any (w : World) : Calls Try.prog 19 #[] w fun e w' => e = .returned (.pointer (some ⟨w.heap.size, 0, none⟩)) ∧ Rk w' w.heap.size w.heap.size (fun _ => .slice none 0 0) (fun _ => []) false (-1) 0 0 0 ∧ Below w.heap.size w w' := by
  have HK : Hid (Rk (w.alloc (.cells #[.slice none 0 0, .slice none 0 0, .slice none 0 0, .slice none 0 0, .bool false, .int .i64 (-1), .int .i64 0, .int .i64 0, .int .i64 0] 97)) w.heap.size w.heap.size (fun _ => .slice none 0 0) (fun _ => []) false (-1) 0 0 0) := rk_new w
  go_enter Try.func19, Try.ntmps19
  go_wp2
  go_ret
  exact ⟨rfl, HK.out, (Below.refl _ _).alloc (Nat.le_refl _) _⟩
section
variable {w : World} {B R : Nat} {v : Nat → Value} {x : Nat → List Int} {dead : Bool} {left na ns nc : Int}
set_option maxHeartbeats 1000000 in
theorem rLen0 (h : Rk w B R v x dead left na ns nc) : Calls Try.prog 39 #[.pointer (some ⟨R, 0, none⟩), .int .i64 0] w fun e w' => e = .returned (.int .i64 (((x 0).length : Int) + ((x 1).length : Int))) ∧ ∃ k, w' = w.drewN k := by
  have HS : Hid (Calls Try.prog 41 #[.pointer (some ⟨R, 0, none⟩), .int .i64 0] w fun e w' => e = .returned (.tuple #[.int .i64 (((x 0).length : Int) + ((x 1).length : Int)), .int .i64 0]) ∧ ∃ k, w' = w.drewN k) := rSize0_ok h
  clear h
  go_enter Try.func39, Try.ntmps39
  go_wp2_with fail
  refine HS.out.mono ?_
  rintro e w1 ⟨rfl, k1, rfl⟩
  go_wp2_with fail
  go_ret
  exact ⟨rfl, k1, rfl⟩
set_option maxHeartbeats 1000000 in
theorem rLen1 (h : Rk w B R v x dead left na ns nc) : Calls Try.prog 39 #[.pointer (some ⟨R, 0, none⟩), .int .i64 1] w fun e w' => e = .returned (.int .i64 (((x 2).length : Int) + ((x 3).length : Int))) ∧ ∃ k, w' = w.drewN k := by
  have HS : Hid (Calls Try.prog 41 #[.pointer (some ⟨R, 0, none⟩), .int .i64 1] w fun e w' => e = .returned (.tuple #[.int .i64 (((x 2).length : Int) + ((x 3).length : Int)), .int .i64 0]) ∧ ∃ k, w' = w.drewN k) := rSize1_ok h
  clear h
  go_enter Try.func39, Try.ntmps39
  go_wp2_with fail
  refine HS.out.mono ?_
  rintro e w1 ⟨rfl, k1, rfl⟩
  go_wp2_with fail
  go_ret
  exact ⟨rfl, k1, rfl⟩
set_option maxHeartbeats 1000000 in
theorem rLen_bad (ar : Int) (h0 : ar ≠ 0) (h1 : ar ≠ 1) (h : Rk w B R v x dead left na ns nc) : Calls Try.prog 39 #[.pointer (some ⟨R, 0, none⟩), .int .i64 ar] w fun e w' => e = .returned (.int .i64 0) ∧ w' = w := by
  have HS : Hid (Calls Try.prog 41 #[.pointer (some ⟨R, 0, none⟩), .int .i64 ar] w fun e w' => e = .returned (.tuple #[.int .i64 0, .int .i64 2]) ∧ w' = w) := rSize_bad ar h0 h1 h
  clear h
  go_enter Try.func39, Try.ntmps39
  go_wp2_with fail
  refine HS.out.mono ?_
  rintro e w1 ⟨rfl, hw⟩
  rw [hw]
  clear hw
  go_wp2_with fail
  go_ret
  exact ⟨rfl, rfl⟩
end
set_option maxRecDepth 100000 in
set_option maxHeartbeats 4000000 in
theorem rFrom_ok {w : World} {p0 p1 : Option Addr} {m0 m1 c0 c1 : Nat} {b0 b1 : List Int} (h0 : Byts w p0 m0 b0) (h1 : Byts w p1 m1 b1) (z0 : p0 = none → c0 = 0) (z1 : p1 = none → c1 = 0) (l0 : m0 ≤ 16777216) (l1 : m1 ≤ 16777216) :
    Calls Try.prog 32 #[.agg #[.slice p0 m0 c0, .slice p1 m1 c1]] w fun e w' => e = .returned (.tuple #[.pointer (some ⟨w.heap.size + 1, 0, none⟩), .int .i64 0, .int .i64 0]) ∧ ∃ v, Rk w' (w.heap.size + 1) (w.heap.size + 1) v (upd (upd (fun _ => []) 0 b0) 2 b1) false (-1) 0 0 0 ∧ Below w.heap.size w w' := by
  obtain ⟨T, hT⟩ : ∃ y, w.alloc (.cells #[.slice p0 m0 c0, .slice p1 m1 c1] 26) = y := ⟨_, rfl⟩
  have HW : Hid (w.alloc (.cells #[.slice p0 m0 c0, .slice p1 m1 c1] 26) = T) := hT
  have sT : T.heap.size = w.heap.size + 1 := by rw [← hT]; simp
  have bT : Below w.heap.size w T := by rw [← hT]; exact (Below.refl _ _).alloc (Nat.le_refl _) _
  have t0 : T.cell? ⟨w.heap.size, 0, none⟩ = some (.slice p0 m0 c0) := by rw [← hT]; simp
  have t1 : T.cell? ⟨w.heap.size, 1, none⟩ = some (.slice p1 m1 c1) := by rw [← hT]; simp
  have HN : Hid (Calls Try.prog 19 #[] T fun e w' => e = .returned (.pointer (some ⟨w.heap.size + 1, 0, none⟩)) ∧ Rk w' (w.heap.size + 1) (w.heap.size + 1) (fun _ => .slice none 0 0) (fun _ => []) false (-1) 0 0 0 ∧ Below (w.heap.size + 1) T w') := by
    have := rNew_any T
    rw [sT] at this
    exact this
  have HB : Hid (Byts T p0 m0 b0 ∧ Byts T p1 m1 b1 ∧ (p0 = none → c0 = 0) ∧ (p1 = none → c1 = 0)) := ⟨h0.below bT, h1.below bT, z0, z1⟩
  have HT : Hid (Below w.heap.size w T ∧ T.heap.size = w.heap.size + 1 ∧ T.cell? ⟨w.heap.size, 0, none⟩ = some (.slice p0 m0 c0) ∧ T.cell? ⟨w.heap.size, 1, none⟩ = some (.slice p1 m1 c1)) := ⟨bT, sT, t0, t1⟩
  have g0 : ¬ (16777216 : Int) < m0 := by omega
  have g1 : ¬ (16777216 : Int) < m1 := by omega
  clear h0 h1 z0 z1 hT sT bT t0 t1
  go_enter Try.func32, Try.ntmps32
  go_wp2_with fail
  rw [HW.out]
  refine HN.out.mono ?_
  rintro e w1 ⟨rfl, hk, hb⟩
  have HK : Hid (Rk w1 (w.heap.size + 1) (w.heap.size + 1) (fun _ => .slice none 0 0) (fun _ => []) false (-1) 0 0 0 ∧ Below (w.heap.size + 1) T w1) := ⟨hk, hb⟩
  clear hk hb HN
  have u0 : w1.cell? ⟨w.heap.size, 0, none⟩ = some (.slice p0 m0 c0) := by rw [HK.out.2.cell (p := ⟨w.heap.size, 0, none⟩) (Nat.lt_succ_self _)]; exact HT.out.2.2.1
  have u1 : w1.cell? ⟨w.heap.size, 1, none⟩ = some (.slice p1 m1 c1) := by rw [HK.out.2.cell (p := ⟨w.heap.size, 1, none⟩) (Nat.lt_succ_self _)]; exact HT.out.2.2.2
  have y0 : Byts w1 p0 m0 b0 := HB.out.1.below (by rw [HT.out.2.1]; exact HK.out.2)
  have y1 : Byts w1 p1 m1 b1 := HB.out.2.1.below (by rw [HT.out.2.1]; exact HK.out.2)
  have HY : Hid (Byts w1 p0 m0 b0 ∧ Byts w1 p1 m1 b1) := ⟨y0, y1⟩
  clear y0 y1
  have hlw : w.heap.size < w1.heap.size := by have := HK.out.1.hR; omega
  go_wp2_with fail
  refine wp_loop_rounds 3 ?_
  rw [rounds_succ]
  go_wp2_with fail
  go_region_law (refine step_copy (w0 := w1) rfl (.tmp 20) (.tmp 23) rfl rfl rfl HY.out.1 HB.out.2.2.1 (by omega) (by first | exact (Off.refl _ _).alloc _ | exact ((Off.refl _ _).alloc _).drew | exact ((Off.refl _ _).drew).alloc _) (Nat.le_refl _) (by exact heap_alloc_new _ _) ?_; intro a' n' c' w3 hR hO; have d1 : w3.cell? ⟨w.heap.size + 1, 0, none⟩ = some (.slice none 0 0) := (hO.cell (p := ⟨w.heap.size + 1, 0, none⟩) HK.out.1.hR).trans (HK.out.1.cell 0 (by decide)); have d2 : w3.frozen? ⟨w.heap.size + 1, 0, none⟩ = false := (hO.frozen (p := ⟨w.heap.size + 1, 0, none⟩) HK.out.1.hR).trans (HK.out.1.fr 0))
  all_goals
    have HK1 : Hid (Rk (w3.setCell ⟨w.heap.size + 1, 0, none⟩ (.slice a' n' c')) (w.heap.size + 1) (w.heap.size + 1) (upd (fun _ => .slice none 0 0) 0 (.slice a' n' c')) (upd (fun _ => []) 0 b0) false (-1) 0 0 0 ∧ Below (w.heap.size + 1) T (w3.setCell ⟨w.heap.size + 1, 0, none⟩ (.slice a' n' c'))) := by
      have hs1 : w.heap.size + 1 ≤ w1.heap.size := by omega
      obtain ⟨h1, h2⟩ := HK.out.1.put (q := 0) (by decide) (w' := w3) (y := .slice a' n' c') (zs := b0) (Off.of_below hO) (hR.base hs1) (fun g e => Or.inr (hR.lt e).1) (by have := HY.out.1.len; omega)
      exact ⟨h1, (HK.out.2.trans (hO.mono hs1)).setCell (Nat.le_refl _) _⟩
    clear hR hO d1 d2 u0 u1 HY HK hlw
    obtain ⟨w4, hw4⟩ : ∃ y, w3.setCell ⟨w.heap.size + 1, 0, none⟩ (.slice a' n' c') = y := ⟨_, rfl⟩
    have HE4 : Hid (w3.setCell ⟨w.heap.size + 1, 0, none⟩ (.slice a' n' c') = w4) := hw4
    rw [hw4] at HK1
    clear hw4
    go_wp2_with fail
    rw [HE4.out]
    clear HE4
    rw [rounds_succ]
    have u0 : w4.cell? ⟨w.heap.size, 0, none⟩ = some (.slice p0 m0 c0) := by rw [HK1.out.2.cell (p := ⟨w.heap.size, 0, none⟩) (Nat.lt_succ_self _)]; exact HT.out.2.2.1
    have u1 : w4.cell? ⟨w.heap.size, 1, none⟩ = some (.slice p1 m1 c1) := by rw [HK1.out.2.cell (p := ⟨w.heap.size, 1, none⟩) (Nat.lt_succ_self _)]; exact HT.out.2.2.2
    have HY1 : Hid (Byts w4 p1 m1 b1) := HB.out.2.1.below (by rw [HT.out.2.1]; exact HK1.out.2)
    have hlw : w.heap.size < w4.heap.size := by have := HK1.out.1.hR; omega
    go_wp2_with fail
    go_region_law (refine step_copy (w0 := w4) rfl (.tmp 20) (.tmp 23) rfl rfl rfl HY1.out HB.out.2.2.2 (by omega) (by first | exact (Off.refl _ _).alloc _ | exact ((Off.refl _ _).alloc _).drew | exact ((Off.refl _ _).drew).alloc _) (Nat.le_refl _) (by exact heap_alloc_new _ _) ?_; intro a5 n5 c5 w5 hR5 hO5; have d1 : w5.cell? ⟨w.heap.size + 1, 2, none⟩ = some (.slice none 0 0) := (hO5.cell (p := ⟨w.heap.size + 1, 2, none⟩) HK1.out.1.hR).trans (HK1.out.1.cell 2 (by decide)); have d2 : w5.frozen? ⟨w.heap.size + 1, 2, none⟩ = false := (hO5.frozen (p := ⟨w.heap.size + 1, 2, none⟩) HK1.out.1.hR).trans (HK1.out.1.fr 2))
    all_goals
      have HK2 : Hid (Rk (w5.setCell ⟨w.heap.size + 1, 2, none⟩ (.slice a5 n5 c5)) (w.heap.size + 1) (w.heap.size + 1) (upd (upd (fun _ => .slice none 0 0) 0 (.slice a' n' c')) 2 (.slice a5 n5 c5)) (upd (upd (fun _ => []) 0 b0) 2 b1) false (-1) 0 0 0 ∧ Below w.heap.size w (w5.setCell ⟨w.heap.size + 1, 2, none⟩ (.slice a5 n5 c5))) := by
        have hs1 : w.heap.size + 1 ≤ w4.heap.size := by omega
        obtain ⟨h1, h2⟩ := HK1.out.1.put (q := 2) (by decide) (w' := w5) (y := .slice a5 n5 c5) (zs := b1) (Off.of_below hO5) (hR5.base hs1) (fun g e => Or.inr (hR5.lt e).1) (by have := HY1.out.len; omega)
        exact ⟨h1, HT.out.1.trans (((HK1.out.2.trans (hO5.mono hs1)).setCell (Nat.le_refl _) _).mono (Nat.le_succ _))⟩
      clear hR5 hO5 d1 d2 u0 u1 HY1 HK1 hlw
      obtain ⟨w6, hw6⟩ : ∃ y, w5.setCell ⟨w.heap.size + 1, 2, none⟩ (.slice a5 n5 c5) = y := ⟨_, rfl⟩
      have HE6 : Hid (w5.setCell ⟨w.heap.size + 1, 2, none⟩ (.slice a5 n5 c5) = w6) := hw6
      rw [hw6] at HK2
      clear hw6
      go_wp2_with fail
      rw [HE6.out]
      clear HE6
      rw [rounds_succ]
      go_wp2_with fail
      exact bodyPost_ret (v := .tuple #[.pointer (some ⟨w.heap.size + 1, 0, none⟩), .int .i64 0, .int .i64 0]) (by simp [results, Try.results32, go_sem]) rfl ⟨rfl, by first | exact ⟨_, HK2.out⟩ | exact ⟨⟨_, HK2.out.1⟩, HK2.out.2⟩⟩
end Go.Proofs.Ytlgjjemfckmidaa
