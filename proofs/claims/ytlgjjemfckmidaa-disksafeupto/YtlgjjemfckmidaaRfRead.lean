/-
  Read of the document's disk. (Typed by gen/mkref4.py.)
-/
import Derived.Test.YtlgjjemfckmidaaRfCut
import Derived.Laws.Runes
namespace Go.Proofs.Ytlgjjemfckmidaa
open Go.RowKit

theorem Byts.piece {w : World} {g cap n : Nat} {xs : List Int} {B : Nat} (h : Row w B (.slice (some ⟨g, 0, none⟩) n cap) xs) (p k : Nat) (hp : p + k ≤ n) : Byts w (some ⟨g, p, none⟩) k ((xs.drop p).take k) := by
  obtain ⟨hn, hc⟩ := h.cell
  refine ⟨by rw [List.length_take, List.length_drop]; omega, fun j hj => ⟨g, p, rfl, (h.lt (g := g) rfl).2, ?_⟩⟩
  rw [hc (p + j) (by omega)]
  congr 2
  rw [List.getD_eq_getElem?_getD, List.getD_eq_getElem?_getD, List.getElem?_take, if_pos hj, List.getElem?_drop]
set_option maxRecDepth 100000 in
set_option maxHeartbeats 4000000 in
theorem rRead0_out {w : World} {B R : Nat} {v : Nat → Value} {x : Nat → List Int} {dead : Bool} {left na ns nc : Int} (p n : Int) (h : Rk w B R v x dead left na ns nc) (hp : -9223372036854775808 ≤ p ∧ p ≤ 9223372036854775807) (hn : p < 0 ∨ n < 0 ∨ ((x 0).length : Int) + ((x 1).length : Int) < p ∨ ((x 0).length : Int) + ((x 1).length : Int) - p < n) : Calls Try.prog 72 #[.pointer (some ⟨R, 0, none⟩), .int .i64 0, .int .i64 p, .int .i64 n] w fun e w' => e = .returned (.tuple #[.slice none 0 0, .int .i64 2]) ∧ ∃ k, w' = w.drewN k := by
  have HS : Hid (∀ k, Calls Try.prog 70 #[.pointer (some ⟨R, 0, none⟩), .int .i64 0] (w.drewN k) fun e w' => e = .returned (.int .i64 (((x 0).length : Int) + ((x 1).length : Int))) ∧ ∃ k, w' = w.drewN k) := fun k => (rsize0 (h.drewN k)).mono (fun e w' ⟨h1, k2, h2⟩ => ⟨h1, k + k2, by rw [h2]; simp⟩)
  have hll := h.len 0 (by decide)
  have hll2 := h.len 1 (by decide)
  obtain ⟨n0, hn0⟩ : ∃ n, (x 0).length = n := ⟨_, rfl⟩
  obtain ⟨n1, hn1⟩ : ∃ n, (x 1).length = n := ⟨_, rfl⟩
  rw [hn0, hn1] at HS hn
  rw [hn0] at hll
  rw [hn1] at hll2
  clear h hn0 hn1
  by_cases h1 : p < 0
  · clear hn
    go_enter Try.func72, Try.ntmps72
    go_wp2_with fail
    exact bodyPost_ret (v := .tuple #[.slice none 0 0, .int .i64 2]) (by simp [results, Try.results72, go_sem]) rfl ⟨rfl, 0, rfl⟩
  · by_cases h2 : n < 0
    · clear hn
      go_enter Try.func72, Try.ntmps72
      go_wp2_with fail
      exact bodyPost_ret (v := .tuple #[.slice none 0 0, .int .i64 2]) (by simp [results, Try.results72, go_sem]) rfl ⟨rfl, 0, rfl⟩
    · by_cases h3 : (n0 : Int) + n1 < p
      · clear hn
        go_enter Try.func72, Try.ntmps72
        go_wp2_with fail
        refine (HS.out 0).mono ?_
        rintro e w1 ⟨rfl, k1, rfl⟩
        go_wp2_with fail
        exact bodyPost_ret (v := .tuple #[.slice none 0 0, .int .i64 2]) (by simp [results, Try.results72, go_sem]) rfl ⟨rfl, k1, rfl⟩
      · have h4 : (n0 : Int) + n1 - p < n := by omega
        have hwr : IntKind.i64.wrap ((n0 : Int) + (n1 : Int) - p) = (n0 : Int) + n1 - p := wrap_small _ (by omega) (by omega)
        clear hn
        go_enter Try.func72, Try.ntmps72
        go_wp2_with fail
        refine (HS.out 0).mono ?_
        rintro e w1 ⟨rfl, k1, rfl⟩
        go_wp2_with fail
        refine (HS.out k1).mono ?_
        rintro e w2 ⟨rfl, k2, rfl⟩
        go_wp2_with fail
        exact bodyPost_ret (v := .tuple #[.slice none 0 0, .int .i64 2]) (by simp [results, Try.results72, go_sem]) rfl ⟨rfl, k2, rfl⟩
set_option maxRecDepth 100000 in
set_option maxHeartbeats 4000000 in
theorem rRead0_dead {w : World} {B R : Nat} {v : Nat → Value} {x : Nat → List Int} {left na ns nc : Int} (p n : Nat) (h : Rk w B R v x true left na ns nc) (hn : p + n ≤ (x 0).length + (x 1).length) : Calls Try.prog 72 #[.pointer (some ⟨R, 0, none⟩), .int .i64 0, .int .i64 (p : Int), .int .i64 (n : Int)] w fun e w' => e = .returned (.tuple #[.slice none 0 0, .int .i64 8]) ∧ ∃ k, w' = w.drewN k := by
  have HS : Hid (∀ k, Calls Try.prog 70 #[.pointer (some ⟨R, 0, none⟩), .int .i64 0] (w.drewN k) fun e w' => e = .returned (.int .i64 (((x 0).length : Int) + ((x 1).length : Int))) ∧ ∃ k, w' = w.drewN k) := fun k => (rsize0 (h.drewN k)).mono (fun e w' ⟨h1, k2, h2⟩ => ⟨h1, k + k2, by rw [h2]; simp⟩)
  have c4 := h.c4
  have hll := h.len 0 (by decide)
  have hll2 := h.len 1 (by decide)
  obtain ⟨n0, hn0⟩ : ∃ n, (x 0).length = n := ⟨_, rfl⟩
  obtain ⟨n1, hn1⟩ : ∃ n, (x 1).length = n := ⟨_, rfl⟩
  rw [hn0, hn1] at HS hn
  rw [hn0] at hll
  rw [hn1] at hll2
  clear h hn0 hn1
  have h3 : ¬ (n0 : Int) + n1 < (p : Int) := by omega
  have h4 : ¬ (n0 : Int) + n1 - (p : Int) < (n : Int) := by omega
  have hwr : IntKind.i64.wrap ((n0 : Int) + (n1 : Int) - (p : Int)) = (n0 : Int) + n1 - p := wrap_small _ (by omega) (by omega)
  go_enter Try.func72, Try.ntmps72
  go_wp2_with fail
  refine (HS.out 0).mono ?_
  rintro e w1 ⟨rfl, k1, rfl⟩
  go_wp2_with fail
  refine (HS.out k1).mono ?_
  rintro e w2 ⟨rfl, k2, rfl⟩
  go_wp2_with fail
  exact bodyPost_ret (v := .tuple #[.slice none 0 0, .int .i64 8]) (by simp [results, Try.results72, go_sem]) rfl ⟨rfl, k2, rfl⟩
set_option maxRecDepth 100000 in
set_option maxHeartbeats 4000000 in
theorem rRead0_ok {w : World} {B R : Nat} {v : Nat → Value} {x : Nat → List Int} {left na ns nc : Int} (p n : Nat) (h : Rk w B R v x false left na ns nc) (hn : p + n ≤ (x 0).length + (x 1).length) : Calls Try.prog 72 #[.pointer (some ⟨R, 0, none⟩), .int .i64 0, .int .i64 (p : Int), .int .i64 (n : Int)] w fun e w' => ∃ a c, e = .returned (.tuple #[.slice a n c, .int .i64 0]) ∧ Byts w' a n (((x 0 ++ x 1).drop p).take n) ∧ Below w.heap.size w w' ∧ Hid (∀ b o, a = some ⟨b, o, none⟩ → w.heap.size ≤ b) := by
  have HS : Hid (∀ k, Calls Try.prog 70 #[.pointer (some ⟨R, 0, none⟩), .int .i64 0] (w.drewN k) fun e w' => e = .returned (.int .i64 (((x 0).length : Int) + ((x 1).length : Int))) ∧ ∃ k, w' = w.drewN k) := fun k => (rsize0 (h.drewN k)).mono (fun e w' ⟨h1, k2, h2⟩ => ⟨h1, k + k2, by rw [h2]; simp⟩)
  have HH : Hid (Rk w B R v x false left na ns nc) := h
  have c4 := h.c4
  have hll := h.len 0 (by decide)
  have hll2 := h.len 1 (by decide)
  obtain ⟨at0, ct0, et0, _, _, hpt0⟩ := (h.row 0 (by decide)).slice
  obtain ⟨at1, ct1, et1, _, _, hpt1⟩ := (h.row 1 (by decide)).slice
  have HT : Hid (v 0 = .slice at0 (x 0).length ct0 ∧ (at0 = none → ct0 = 0) ∧ v 1 = .slice at1 (x 1).length ct1 ∧ (at1 = none → ct1 = 0)) := ⟨et0, fun e => (hpt0 e).2, et1, fun e => (hpt1 e).2⟩
  obtain ⟨n0, hn0⟩ : ∃ n, (x 0).length = n := ⟨_, rfl⟩
  obtain ⟨n1, hn1⟩ : ∃ n, (x 1).length = n := ⟨_, rfl⟩
  have HN : Hid ((x 0).length = n0 ∧ (x 1).length = n1) := ⟨hn0, hn1⟩
  rw [hn0, hn1] at HS hn HT
  rw [hn0] at hll
  rw [hn1] at hll2
  clear h hn0 hn1 et0 et1 hpt0 hpt1
  have h3 : ¬ (n0 : Int) + n1 < (p : Int) := by omega
  have h4 : ¬ (n0 : Int) + n1 - (p : Int) < (n : Int) := by omega
  have hwr : IntKind.i64.wrap ((n0 : Int) + (n1 : Int) - (p : Int)) = (n0 : Int) + n1 - p := wrap_small _ (by omega) (by omega)
  have hwr2 : IntKind.i64.wrap ((p : Int) + (n : Int)) = (p : Int) + n := wrap_small _ (by omega) (by omega)
  go_enter Try.func72, Try.ntmps72
  go_wp2_with fail
  refine (HS.out 0).mono ?_
  rintro e w1 ⟨rfl, k1, rfl⟩
  go_wp2_with fail
  refine (HS.out k1).mono ?_
  rintro e w2 ⟨rfl, k2, rfl⟩
  have hr := HH.out.drewN k2
  have HO : Hid (Below w.heap.size w (w.drewN k2)) := ((Off.refl (fun _ => False) w).drewN k2).below (Nat.le_refl _) (fun _ p => p.elim)
  obtain ⟨w3, hw3⟩ : ∃ y, w.drewN k2 = y := ⟨_, rfl⟩
  rw [hw3] at hr HO ⊢
  clear hw3
  have d4 := hr.c4
  have k0 := hr.cell 0 (by decide)
  have k5 := hr.cell 1 (by decide)
  rw [HT.out.1] at k0
  rw [HT.out.2.2.1] at k5
  have r0 := hr.row 0 (by decide)
  have r1 := hr.row 1 (by decide)
  rw [HT.out.1] at r0
  rw [HT.out.2.2.1] at r1
  have HY : Hid (Byts w3 at0 n0 (x 0) ∧ Byts w3 at1 n1 (x 1)) := ⟨r0.asByts0, r1.asByts0⟩
  have hRl : R < w3.heap.size := hr.hR
  clear hr r0 r1
  go_wp2_with fail
  go_region_law (first | (refine step_copy (w0 := w3) rfl (.tmp 47) (.tmp 54) rfl rfl rfl HY.out.1 HT.out.2.1 (by omega) (by first | exact (Off.refl _ _).alloc _ | exact ((Off.refl _ _).alloc _).drew | exact ((Off.refl _ _).drew).alloc _) (Nat.le_refl _) (by exact heap_alloc_new _ _) ?_; intro a' n' c' w4 hR hO; have m5 : w4.cell? ⟨R, 1, none⟩ = some (.slice at1 n1 ct1) := (hO.cell (p := ⟨R, 1, none⟩) hRl).trans k5) | (refine step_app (w0 := w4) rfl (.tmp 55) (.tmp 62) rfl rfl rfl hR (HY.out.2.below hO) HT.out.2.2.2 (by have := HN.out; omega) hO.size (by first | exact Off.refl _ _ | exact (Off.refl _ _).drew | exact (Off.refl _ _).drewN _) ?_; intro a5 n5 c5 w5 hR5 hO5 hA5))
  all_goals
    have hlen : (x 0 ++ x 1).length = n0 + n1 := by rw [List.length_append]; have := HN.out; omega
    have HZ : Hid (Row w5 w3.heap.size (.slice a5 n5 c5) (x 0 ++ x 1) ∧ Below w.heap.size w w5) := ⟨hR5, HO.out.trans ((hO.mono HO.out.size).trans (hO5.below (Nat.le_trans HO.out.size hO.size) (fun k e => by have := (hR.lt e).1; have := HO.out.size; omega)))⟩
    rcases hR5.form with ⟨e5, e6⟩ | ⟨g, cap, e5, _, _, hc1, _⟩
    · cases e5
      have hz : n0 + n1 = 0 := by rw [← hlen, e6]; rfl
      obtain rfl : p = 0 := by omega
      obtain rfl : n = 0 := by omega
      clear hR hO hR5 hO5 hA5 m5 e6
      go_wp2_with fail
      exact bodyPost_ret (v := .tuple #[.slice none 0 0, .int .i64 0]) (by simp [results, Try.results72, go_sem]) rfl ⟨_, _, rfl, ⟨by simp, fun j hj => by omega⟩, by first | exact HZ.out.2 | exact HZ.out.2.drew | exact HZ.out.2.drewN _, fun b o e => by cases e⟩
    · cases e5
      have hgb : ∀ q : Nat, Hid (∀ b o, some (⟨g, q, none⟩ : Addr) = some ⟨b, o, none⟩ → w.heap.size ≤ b) := fun q b o e => by
        simp only [Option.some.injEq, Addr.mk.injEq, and_true] at e
        have h5 := (HZ.out.1.lt (g := g) rfl).1
        have h6 := HO.out.size
        omega
      rw [hlen] at hc1 HZ ⊢
      have b1 : (p : Int) + n ≤ (c5 : Int) := by omega
      have b2 : (p : Int) ≤ (p : Int) + n := by omega
      clear hR hO hR5 hO5 hA5 m5
      go_wp2_with fail
      all_goals
        by_cases hcp : c5 = p
        · obtain rfl : n = 0 := by omega
          subst hcp
          first
            | (exfalso; omega)
            | exact bodyPost_ret (v := .tuple #[.slice (some ⟨g, 0, none⟩) 0 0, .int .i64 0]) (by simp [results, Try.results72, go_sem]) rfl ⟨_, ⟨_, rfl⟩, ⟨by simp, fun j hj => by omega⟩, by first | exact HZ.out.2 | exact HZ.out.2.drew | exact HZ.out.2.drewN _, hgb 0⟩
        · first
            | (exfalso; omega)
            | exact bodyPost_ret (v := .tuple #[.slice (some ⟨g, p, none⟩) n (c5 - p), .int .i64 0]) (by simp [results, Try.results72, go_sem]) rfl ⟨_, ⟨_, rfl⟩, by first | exact Byts.piece HZ.out.1 p n (by omega) | exact (Byts.piece HZ.out.1 p n (by omega)).off (P := fun _ => False) ((Off.refl _ _).drew) (fun _ _ _ => id) | exact (Byts.piece HZ.out.1 p n (by omega)).drew _, by first | exact HZ.out.2 | exact HZ.out.2.drew | exact HZ.out.2.drewN _, hgb p⟩
set_option maxRecDepth 100000 in
set_option maxHeartbeats 4000000 in
theorem rRead1_out {w : World} {B R : Nat} {v : Nat → Value} {x : Nat → List Int} {dead : Bool} {left na ns nc : Int} (p n : Int) (h : Rk w B R v x dead left na ns nc) (hp : -9223372036854775808 ≤ p ∧ p ≤ 9223372036854775807) (hn : p < 0 ∨ n < 0 ∨ ((x 2).length : Int) + ((x 3).length : Int) < p ∨ ((x 2).length : Int) + ((x 3).length : Int) - p < n) : Calls Try.prog 72 #[.pointer (some ⟨R, 0, none⟩), .int .i64 1, .int .i64 p, .int .i64 n] w fun e w' => e = .returned (.tuple #[.slice none 0 0, .int .i64 2]) ∧ ∃ k, w' = w.drewN k := by
  have HS : Hid (∀ k, Calls Try.prog 70 #[.pointer (some ⟨R, 0, none⟩), .int .i64 1] (w.drewN k) fun e w' => e = .returned (.int .i64 (((x 2).length : Int) + ((x 3).length : Int))) ∧ ∃ k, w' = w.drewN k) := fun k => (rsize1 (h.drewN k)).mono (fun e w' ⟨h1, k2, h2⟩ => ⟨h1, k + k2, by rw [h2]; simp⟩)
  have hll := h.len 2 (by decide)
  have hll2 := h.len 3 (by decide)
  obtain ⟨n0, hn0⟩ : ∃ n, (x 2).length = n := ⟨_, rfl⟩
  obtain ⟨n1, hn1⟩ : ∃ n, (x 3).length = n := ⟨_, rfl⟩
  rw [hn0, hn1] at HS hn
  rw [hn0] at hll
  rw [hn1] at hll2
  clear h hn0 hn1
  by_cases h1 : p < 0
  · clear hn
    go_enter Try.func72, Try.ntmps72
    go_wp2_with fail
    exact bodyPost_ret (v := .tuple #[.slice none 0 0, .int .i64 2]) (by simp [results, Try.results72, go_sem]) rfl ⟨rfl, 0, rfl⟩
  · by_cases h2 : n < 0
    · clear hn
      go_enter Try.func72, Try.ntmps72
      go_wp2_with fail
      exact bodyPost_ret (v := .tuple #[.slice none 0 0, .int .i64 2]) (by simp [results, Try.results72, go_sem]) rfl ⟨rfl, 0, rfl⟩
    · by_cases h3 : (n0 : Int) + n1 < p
      · clear hn
        go_enter Try.func72, Try.ntmps72
        go_wp2_with fail
        refine (HS.out 0).mono ?_
        rintro e w1 ⟨rfl, k1, rfl⟩
        go_wp2_with fail
        exact bodyPost_ret (v := .tuple #[.slice none 0 0, .int .i64 2]) (by simp [results, Try.results72, go_sem]) rfl ⟨rfl, k1, rfl⟩
      · have h4 : (n0 : Int) + n1 - p < n := by omega
        have hwr : IntKind.i64.wrap ((n0 : Int) + (n1 : Int) - p) = (n0 : Int) + n1 - p := wrap_small _ (by omega) (by omega)
        clear hn
        go_enter Try.func72, Try.ntmps72
        go_wp2_with fail
        refine (HS.out 0).mono ?_
        rintro e w1 ⟨rfl, k1, rfl⟩
        go_wp2_with fail
        refine (HS.out k1).mono ?_
        rintro e w2 ⟨rfl, k2, rfl⟩
        go_wp2_with fail
        exact bodyPost_ret (v := .tuple #[.slice none 0 0, .int .i64 2]) (by simp [results, Try.results72, go_sem]) rfl ⟨rfl, k2, rfl⟩
set_option maxRecDepth 100000 in
set_option maxHeartbeats 4000000 in
theorem rRead1_dead {w : World} {B R : Nat} {v : Nat → Value} {x : Nat → List Int} {left na ns nc : Int} (p n : Nat) (h : Rk w B R v x true left na ns nc) (hn : p + n ≤ (x 2).length + (x 3).length) : Calls Try.prog 72 #[.pointer (some ⟨R, 0, none⟩), .int .i64 1, .int .i64 (p : Int), .int .i64 (n : Int)] w fun e w' => e = .returned (.tuple #[.slice none 0 0, .int .i64 8]) ∧ ∃ k, w' = w.drewN k := by
  have HS : Hid (∀ k, Calls Try.prog 70 #[.pointer (some ⟨R, 0, none⟩), .int .i64 1] (w.drewN k) fun e w' => e = .returned (.int .i64 (((x 2).length : Int) + ((x 3).length : Int))) ∧ ∃ k, w' = w.drewN k) := fun k => (rsize1 (h.drewN k)).mono (fun e w' ⟨h1, k2, h2⟩ => ⟨h1, k + k2, by rw [h2]; simp⟩)
  have c4 := h.c4
  have hll := h.len 2 (by decide)
  have hll2 := h.len 3 (by decide)
  obtain ⟨n0, hn0⟩ : ∃ n, (x 2).length = n := ⟨_, rfl⟩
  obtain ⟨n1, hn1⟩ : ∃ n, (x 3).length = n := ⟨_, rfl⟩
  rw [hn0, hn1] at HS hn
  rw [hn0] at hll
  rw [hn1] at hll2
  clear h hn0 hn1
  have h3 : ¬ (n0 : Int) + n1 < (p : Int) := by omega
  have h4 : ¬ (n0 : Int) + n1 - (p : Int) < (n : Int) := by omega
  have hwr : IntKind.i64.wrap ((n0 : Int) + (n1 : Int) - (p : Int)) = (n0 : Int) + n1 - p := wrap_small _ (by omega) (by omega)
  go_enter Try.func72, Try.ntmps72
  go_wp2_with fail
  refine (HS.out 0).mono ?_
  rintro e w1 ⟨rfl, k1, rfl⟩
  go_wp2_with fail
  refine (HS.out k1).mono ?_
  rintro e w2 ⟨rfl, k2, rfl⟩
  go_wp2_with fail
  exact bodyPost_ret (v := .tuple #[.slice none 0 0, .int .i64 8]) (by simp [results, Try.results72, go_sem]) rfl ⟨rfl, k2, rfl⟩
set_option maxRecDepth 100000 in
set_option maxHeartbeats 4000000 in
theorem rRead1_ok {w : World} {B R : Nat} {v : Nat → Value} {x : Nat → List Int} {left na ns nc : Int} (p n : Nat) (h : Rk w B R v x false left na ns nc) (hn : p + n ≤ (x 2).length + (x 3).length) : Calls Try.prog 72 #[.pointer (some ⟨R, 0, none⟩), .int .i64 1, .int .i64 (p : Int), .int .i64 (n : Int)] w fun e w' => ∃ a c, e = .returned (.tuple #[.slice a n c, .int .i64 0]) ∧ Byts w' a n (((x 2 ++ x 3).drop p).take n) ∧ Below w.heap.size w w' ∧ Hid (∀ b o, a = some ⟨b, o, none⟩ → w.heap.size ≤ b) := by
  have HS : Hid (∀ k, Calls Try.prog 70 #[.pointer (some ⟨R, 0, none⟩), .int .i64 1] (w.drewN k) fun e w' => e = .returned (.int .i64 (((x 2).length : Int) + ((x 3).length : Int))) ∧ ∃ k, w' = w.drewN k) := fun k => (rsize1 (h.drewN k)).mono (fun e w' ⟨h1, k2, h2⟩ => ⟨h1, k + k2, by rw [h2]; simp⟩)
  have HH : Hid (Rk w B R v x false left na ns nc) := h
  have c4 := h.c4
  have hll := h.len 2 (by decide)
  have hll2 := h.len 3 (by decide)
  obtain ⟨at0, ct0, et0, _, _, hpt0⟩ := (h.row 2 (by decide)).slice
  obtain ⟨at1, ct1, et1, _, _, hpt1⟩ := (h.row 3 (by decide)).slice
  have HT : Hid (v 2 = .slice at0 (x 2).length ct0 ∧ (at0 = none → ct0 = 0) ∧ v 3 = .slice at1 (x 3).length ct1 ∧ (at1 = none → ct1 = 0)) := ⟨et0, fun e => (hpt0 e).2, et1, fun e => (hpt1 e).2⟩
  obtain ⟨n0, hn0⟩ : ∃ n, (x 2).length = n := ⟨_, rfl⟩
  obtain ⟨n1, hn1⟩ : ∃ n, (x 3).length = n := ⟨_, rfl⟩
  have HN : Hid ((x 2).length = n0 ∧ (x 3).length = n1) := ⟨hn0, hn1⟩
  rw [hn0, hn1] at HS hn HT
  rw [hn0] at hll
  rw [hn1] at hll2
  clear h hn0 hn1 et0 et1 hpt0 hpt1
  have h3 : ¬ (n0 : Int) + n1 < (p : Int) := by omega
  have h4 : ¬ (n0 : Int) + n1 - (p : Int) < (n : Int) := by omega
  have hwr : IntKind.i64.wrap ((n0 : Int) + (n1 : Int) - (p : Int)) = (n0 : Int) + n1 - p := wrap_small _ (by omega) (by omega)
  have hwr2 : IntKind.i64.wrap ((p : Int) + (n : Int)) = (p : Int) + n := wrap_small _ (by omega) (by omega)
  go_enter Try.func72, Try.ntmps72
  go_wp2_with fail
  refine (HS.out 0).mono ?_
  rintro e w1 ⟨rfl, k1, rfl⟩
  go_wp2_with fail
  refine (HS.out k1).mono ?_
  rintro e w2 ⟨rfl, k2, rfl⟩
  have hr := HH.out.drewN k2
  have HO : Hid (Below w.heap.size w (w.drewN k2)) := ((Off.refl (fun _ => False) w).drewN k2).below (Nat.le_refl _) (fun _ p => p.elim)
  obtain ⟨w3, hw3⟩ : ∃ y, w.drewN k2 = y := ⟨_, rfl⟩
  rw [hw3] at hr HO ⊢
  clear hw3
  have d4 := hr.c4
  have k0 := hr.cell 2 (by decide)
  have k5 := hr.cell 3 (by decide)
  rw [HT.out.1] at k0
  rw [HT.out.2.2.1] at k5
  have r0 := hr.row 2 (by decide)
  have r1 := hr.row 3 (by decide)
  rw [HT.out.1] at r0
  rw [HT.out.2.2.1] at r1
  have HY : Hid (Byts w3 at0 n0 (x 2) ∧ Byts w3 at1 n1 (x 3)) := ⟨r0.asByts0, r1.asByts0⟩
  have hRl : R < w3.heap.size := hr.hR
  clear hr r0 r1
  go_wp2_with fail
  go_region_law (first | (refine step_copy (w0 := w3) rfl (.tmp 47) (.tmp 54) rfl rfl rfl HY.out.1 HT.out.2.1 (by omega) (by first | exact (Off.refl _ _).alloc _ | exact ((Off.refl _ _).alloc _).drew | exact ((Off.refl _ _).drew).alloc _) (Nat.le_refl _) (by exact heap_alloc_new _ _) ?_; intro a' n' c' w4 hR hO; have m5 : w4.cell? ⟨R, 3, none⟩ = some (.slice at1 n1 ct1) := (hO.cell (p := ⟨R, 3, none⟩) hRl).trans k5) | (refine step_app (w0 := w4) rfl (.tmp 55) (.tmp 62) rfl rfl rfl hR (HY.out.2.below hO) HT.out.2.2.2 (by have := HN.out; omega) hO.size (by first | exact Off.refl _ _ | exact (Off.refl _ _).drew | exact (Off.refl _ _).drewN _) ?_; intro a5 n5 c5 w5 hR5 hO5 hA5))
  all_goals
    have hlen : (x 2 ++ x 3).length = n0 + n1 := by rw [List.length_append]; have := HN.out; omega
    have HZ : Hid (Row w5 w3.heap.size (.slice a5 n5 c5) (x 2 ++ x 3) ∧ Below w.heap.size w w5) := ⟨hR5, HO.out.trans ((hO.mono HO.out.size).trans (hO5.below (Nat.le_trans HO.out.size hO.size) (fun k e => by have := (hR.lt e).1; have := HO.out.size; omega)))⟩
    rcases hR5.form with ⟨e5, e6⟩ | ⟨g, cap, e5, _, _, hc1, _⟩
    · cases e5
      have hz : n0 + n1 = 0 := by rw [← hlen, e6]; rfl
      obtain rfl : p = 0 := by omega
      obtain rfl : n = 0 := by omega
      clear hR hO hR5 hO5 hA5 m5 e6
      go_wp2_with fail
      exact bodyPost_ret (v := .tuple #[.slice none 0 0, .int .i64 0]) (by simp [results, Try.results72, go_sem]) rfl ⟨_, _, rfl, ⟨by simp, fun j hj => by omega⟩, by first | exact HZ.out.2 | exact HZ.out.2.drew | exact HZ.out.2.drewN _, fun b o e => by cases e⟩
    · cases e5
      have hgb : ∀ q : Nat, Hid (∀ b o, some (⟨g, q, none⟩ : Addr) = some ⟨b, o, none⟩ → w.heap.size ≤ b) := fun q b o e => by
        simp only [Option.some.injEq, Addr.mk.injEq, and_true] at e
        have h5 := (HZ.out.1.lt (g := g) rfl).1
        have h6 := HO.out.size
        omega
      rw [hlen] at hc1 HZ ⊢
      have b1 : (p : Int) + n ≤ (c5 : Int) := by omega
      have b2 : (p : Int) ≤ (p : Int) + n := by omega
      clear hR hO hR5 hO5 hA5 m5
      go_wp2_with fail
      all_goals
        by_cases hcp : c5 = p
        · obtain rfl : n = 0 := by omega
          subst hcp
          first
            | (exfalso; omega)
            | exact bodyPost_ret (v := .tuple #[.slice (some ⟨g, 0, none⟩) 0 0, .int .i64 0]) (by simp [results, Try.results72, go_sem]) rfl ⟨_, ⟨_, rfl⟩, ⟨by simp, fun j hj => by omega⟩, by first | exact HZ.out.2 | exact HZ.out.2.drew | exact HZ.out.2.drewN _, hgb 0⟩
        · first
            | (exfalso; omega)
            | exact bodyPost_ret (v := .tuple #[.slice (some ⟨g, p, none⟩) n (c5 - p), .int .i64 0]) (by simp [results, Try.results72, go_sem]) rfl ⟨_, ⟨_, rfl⟩, by first | exact Byts.piece HZ.out.1 p n (by omega) | exact (Byts.piece HZ.out.1 p n (by omega)).off (P := fun _ => False) ((Off.refl _ _).drew) (fun _ _ _ => id) | exact (Byts.piece HZ.out.1 p n (by omega)).drew _, by first | exact HZ.out.2 | exact HZ.out.2.drew | exact HZ.out.2.drewN _, hgb p⟩
end Go.Proofs.Ytlgjjemfckmidaa
