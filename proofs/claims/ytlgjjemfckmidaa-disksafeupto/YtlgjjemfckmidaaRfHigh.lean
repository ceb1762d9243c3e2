/-
  Cut of the document's disk, within the tail. (Typed by gen/mkref3.py.)
-/
import Derived.Test.YtlgjjemfckmidaaRfCut
import Derived.Laws.Runes
namespace Go.Proofs.Ytlgjjemfckmidaa
open Go.RowKit

set_option maxRecDepth 100000 in
set_option maxHeartbeats 4000000 in
theorem rCut0_high {w : World} {B R : Nat} {v : Nat → Value} {x : Nat → List Int} {left na ns nc : Int} (m : Nat) (h : Rk w B R v x false left na ns nc) (hd : left ≠ 0) (hm : 0 < m) (hn : m ≤ (x 1).length) :
    Calls Try.prog 37 #[.pointer (some ⟨R, 0, none⟩), .int .i64 0, .int .i64 (((x 0).length : Int) + (m : Int))] w fun e w' => e = .returned (.int .i64 0) ∧ ∃ v', Rk w' B R v' (upd x 1 ((x 1).take m)) false (leftOn left) na ns (oneMore nc) ∧ RStep w w' R v v' := by
  have HS : Hid (Calls Try.prog 70 #[.pointer (some ⟨R, 0, none⟩), .int .i64 0] w fun e w' => e = .returned (.int .i64 (((x 0).length : Int) + ((x 1).length : Int))) ∧ ∃ k, w' = w.drewN k) := rsize0 h
  have HW : Hid (∀ k, Calls Try.prog 68 #[.pointer (some ⟨R, 0, none⟩)] (w.drewN k) fun e w' => e = .returned (.bool true) ∧ Rk w' B R v x false (leftOn left) na ns nc ∧ RStep w w' R v v) := fun k => (rwrite_yes (h.drewN k) hd).mono (fun e w' ⟨h1, h2, h3⟩ => ⟨h1, h2, (RStep.drewN w R v k).trans h3⟩)
  have HBN := h.bn
  have hll := h.len 0 (by decide)
  have hll2 := h.len 1 (by decide)
  obtain ⟨at0, ct0, et0, _⟩ := (h.row 0 (by decide)).slice
  obtain ⟨at1, ct1, et1, hcap, _, hpt1⟩ := (h.row 1 (by decide)).slice
  cases at1 with
  | none => have := (hpt1 rfl).1; omega
  | some ad =>
  have HT : Hid (v 1 = .slice (some ad) (x 1).length ct1 ∧ v 0 = .slice at0 (x 0).length ct0) := ⟨et1, et0⟩
  obtain ⟨n0, hn0⟩ : ∃ n, (x 0).length = n := ⟨_, rfl⟩
  obtain ⟨n1, hn1⟩ : ∃ n, (x 1).length = n := ⟨_, rfl⟩
  have HN1 : Hid ((x 1).length = n1) := hn1
  rw [hn0, hn1] at HS
  rw [hn1] at hn hcap hll2
  rw [hn0] at hll ⊢
  rw [hn0, hn1] at HT
  have hgt : ¬ (n0 : Int) + n1 < (n0 : Int) + m := by omega
  have hle : ¬ (n0 : Int) + m ≤ n0 := by omega
  have hneg : ¬ (n0 : Int) + m < 0 := by omega
  have hmc : (m : Int) ≤ (ct1 : Int) := by omega
  have hwr : IntKind.i64.wrap ((n0 : Int) + (m : Int) - (n0 : Int)) = (m : Int) := by rw [show (n0 : Int) + (m : Int) - (n0 : Int) = (m : Int) by omega]; exact wrap_small _ (by omega) (by omega)
  clear h et1 et0 hpt1 hn0 hn1
  go_enter Try.func37, Try.ntmps37
  go_wp2_with fail
  refine HS.out.mono ?_
  rintro e w1 ⟨rfl, k1, rfl⟩
  go_wp2_with fail
  refine (HW.out k1).mono ?_
  rintro e w2 ⟨rfl, hr, hs⟩
  have k0 := hr.cell 0 (by decide)
  have k2 := hr.cell 1 (by decide)
  rw [HT.out.2] at k0
  rw [HT.out.1] at k2
  have hrow := hr.row 1 (by decide)
  rw [HT.out.1] at hrow
  have HY : Hid (Byts w2 (some ad) m ((x 1).take m)) := hrow.cutTo (m := m) hn
  have HF : Hid (Rk w2 B R v x false (leftOn left) na ns nc ∧ RStep w w2 R v v) := ⟨hr, hs⟩
  have hRl : R < w2.heap.size := hr.hR
  clear hr hs hrow
  go_wp2_with fail
  go_region_law (refine step_copy (w0 := w2) rfl (.tmp 57) (.tmp 69) rfl rfl rfl HY.out (fun e => by cases e) (by omega) (by first | exact (Off.refl _ _).alloc _ | exact ((Off.refl _ _).alloc _).drew | exact ((Off.refl _ _).drew).alloc _) (Nat.le_refl _) (by exact heap_alloc_new _ _) ?_; intro a' n' c' w3 hR hO; have d1 : w3.cell? ⟨R, 1, none⟩ = some (v 1) := (hO.cell (p := ⟨R, 1, none⟩) HF.out.1.hR).trans (HF.out.1.cell 1 (by decide)); have d2 : w3.frozen? ⟨R, 1, none⟩ = false := (hO.frozen (p := ⟨R, 1, none⟩) HF.out.1.hR).trans (HF.out.1.fr 1); have d5 : w3.cell? ⟨R, 8, none⟩ = some (.int .i64 nc) := (hO.cell (p := ⟨R, 8, none⟩) HF.out.1.hR).trans HF.out.1.c8; have d6 : w3.frozen? ⟨R, 8, none⟩ = false := (hO.frozen (p := ⟨R, 8, none⟩) HF.out.1.hR).trans (HF.out.1.fr 8))
  all_goals
    have HP : Hid (Rk (w3.setCell ⟨R, 1, none⟩ (.slice a' n' c')) B R (upd v 1 (.slice a' n' c')) (upd x 1 ((x 1).take m)) false (leftOn left) na ns nc ∧ RStep w (w3.setCell ⟨R, 1, none⟩ (.slice a' n' c')) R v (upd v 1 (.slice a' n' c'))) := by
      obtain ⟨h1, h2⟩ := HF.out.1.put (q := 1) (by decide) (w' := w3) (Off.of_below hO) (hR.base (by have h1 := HF.out.1.hB; omega)) (fun g e => Or.inr (hR.lt e).1) (by rw [List.length_take]; omega)
      exact ⟨h1, HF.out.2.trans h2⟩
    have HG : Hid (Rk ((w3.setCell ⟨R, 1, none⟩ (.slice a' n' c')).setCell ⟨R, 8, none⟩ (.int .i64 (oneMore nc))) B R (upd v 1 (.slice a' n' c')) (upd x 1 ((x 1).take m)) false (leftOn left) na ns (oneMore nc) ∧ RStep w ((w3.setCell ⟨R, 1, none⟩ (.slice a' n' c')).setCell ⟨R, 8, none⟩ (.int .i64 (oneMore nc))) R v (upd v 1 (.slice a' n' c'))) := by
      obtain ⟨h1, h2⟩ := HP.out.1.set8 (oneMore nc) (oneMore_bn ⟨HBN.2.2.2.2.2.2.1, HBN.2.2.2.2.2.2.2⟩)
      exact ⟨h1, HP.out.2.trans h2⟩
    clear HP hR hO
    go_wp2_with fail
    refine (rmore_any _ _ ⟨HBN.2.2.2.2.2.2.1, HBN.2.2.2.2.2.2.2⟩).mono ?_
    rintro e w5 ⟨rfl, hw5⟩
    rw [hw5]
    clear hw5
    go_wp2_with fail
    go_ret
    first
      | exact ⟨rfl, _, HG.out⟩
      | exact ⟨rfl, _, HG.out.1.off (P := fun _ => False) ((Off.refl _ _).drew) (fun _ _ => id), HG.out.2.trans ⟨(Off.refl _ _).drew, fun _ _ g => g⟩⟩
      | exact ⟨rfl, _, HG.out.1.drewN _, HG.out.2.trans (RStep.drewN _ _ _ _)⟩
set_option maxRecDepth 100000 in
set_option maxHeartbeats 4000000 in
theorem rCut1_high {w : World} {B R : Nat} {v : Nat → Value} {x : Nat → List Int} {left na ns nc : Int} (m : Nat) (h : Rk w B R v x false left na ns nc) (hd : left ≠ 0) (hm : 0 < m) (hn : m ≤ (x 3).length) :
    Calls Try.prog 37 #[.pointer (some ⟨R, 0, none⟩), .int .i64 1, .int .i64 (((x 2).length : Int) + (m : Int))] w fun e w' => e = .returned (.int .i64 0) ∧ ∃ v', Rk w' B R v' (upd x 3 ((x 3).take m)) false (leftOn left) na ns (oneMore nc) ∧ RStep w w' R v v' := by
  have HS : Hid (Calls Try.prog 70 #[.pointer (some ⟨R, 0, none⟩), .int .i64 1] w fun e w' => e = .returned (.int .i64 (((x 2).length : Int) + ((x 3).length : Int))) ∧ ∃ k, w' = w.drewN k) := rsize1 h
  have HW : Hid (∀ k, Calls Try.prog 68 #[.pointer (some ⟨R, 0, none⟩)] (w.drewN k) fun e w' => e = .returned (.bool true) ∧ Rk w' B R v x false (leftOn left) na ns nc ∧ RStep w w' R v v) := fun k => (rwrite_yes (h.drewN k) hd).mono (fun e w' ⟨h1, h2, h3⟩ => ⟨h1, h2, (RStep.drewN w R v k).trans h3⟩)
  have HBN := h.bn
  have hll := h.len 2 (by decide)
  have hll2 := h.len 3 (by decide)
  obtain ⟨at0, ct0, et0, _⟩ := (h.row 2 (by decide)).slice
  obtain ⟨at1, ct1, et1, hcap, _, hpt1⟩ := (h.row 3 (by decide)).slice
  cases at1 with
  | none => have := (hpt1 rfl).1; omega
  | some ad =>
  have HT : Hid (v 3 = .slice (some ad) (x 3).length ct1 ∧ v 2 = .slice at0 (x 2).length ct0) := ⟨et1, et0⟩
  obtain ⟨n0, hn0⟩ : ∃ n, (x 2).length = n := ⟨_, rfl⟩
  obtain ⟨n1, hn1⟩ : ∃ n, (x 3).length = n := ⟨_, rfl⟩
  have HN1 : Hid ((x 3).length = n1) := hn1
  rw [hn0, hn1] at HS
  rw [hn1] at hn hcap hll2
  rw [hn0] at hll ⊢
  rw [hn0, hn1] at HT
  have hgt : ¬ (n0 : Int) + n1 < (n0 : Int) + m := by omega
  have hle : ¬ (n0 : Int) + m ≤ n0 := by omega
  have hneg : ¬ (n0 : Int) + m < 0 := by omega
  have hmc : (m : Int) ≤ (ct1 : Int) := by omega
  have hwr : IntKind.i64.wrap ((n0 : Int) + (m : Int) - (n0 : Int)) = (m : Int) := by rw [show (n0 : Int) + (m : Int) - (n0 : Int) = (m : Int) by omega]; exact wrap_small _ (by omega) (by omega)
  clear h et1 et0 hpt1 hn0 hn1
  go_enter Try.func37, Try.ntmps37
  go_wp2_with fail
  refine HS.out.mono ?_
  rintro e w1 ⟨rfl, k1, rfl⟩
  go_wp2_with fail
  refine (HW.out k1).mono ?_
  rintro e w2 ⟨rfl, hr, hs⟩
  have k0 := hr.cell 2 (by decide)
  have k2 := hr.cell 3 (by decide)
  rw [HT.out.2] at k0
  rw [HT.out.1] at k2
  have hrow := hr.row 3 (by decide)
  rw [HT.out.1] at hrow
  have HY : Hid (Byts w2 (some ad) m ((x 3).take m)) := hrow.cutTo (m := m) hn
  have HF : Hid (Rk w2 B R v x false (leftOn left) na ns nc ∧ RStep w w2 R v v) := ⟨hr, hs⟩
  have hRl : R < w2.heap.size := hr.hR
  clear hr hs hrow
  go_wp2_with fail
  go_region_law (refine step_copy (w0 := w2) rfl (.tmp 57) (.tmp 69) rfl rfl rfl HY.out (fun e => by cases e) (by omega) (by first | exact (Off.refl _ _).alloc _ | exact ((Off.refl _ _).alloc _).drew | exact ((Off.refl _ _).drew).alloc _) (Nat.le_refl _) (by exact heap_alloc_new _ _) ?_; intro a' n' c' w3 hR hO; have d1 : w3.cell? ⟨R, 3, none⟩ = some (v 3) := (hO.cell (p := ⟨R, 3, none⟩) HF.out.1.hR).trans (HF.out.1.cell 3 (by decide)); have d2 : w3.frozen? ⟨R, 3, none⟩ = false := (hO.frozen (p := ⟨R, 3, none⟩) HF.out.1.hR).trans (HF.out.1.fr 3); have d5 : w3.cell? ⟨R, 8, none⟩ = some (.int .i64 nc) := (hO.cell (p := ⟨R, 8, none⟩) HF.out.1.hR).trans HF.out.1.c8; have d6 : w3.frozen? ⟨R, 8, none⟩ = false := (hO.frozen (p := ⟨R, 8, none⟩) HF.out.1.hR).trans (HF.out.1.fr 8))
  all_goals
    have HP : Hid (Rk (w3.setCell ⟨R, 3, none⟩ (.slice a' n' c')) B R (upd v 3 (.slice a' n' c')) (upd x 3 ((x 3).take m)) false (leftOn left) na ns nc ∧ RStep w (w3.setCell ⟨R, 3, none⟩ (.slice a' n' c')) R v (upd v 3 (.slice a' n' c'))) := by
      obtain ⟨h1, h2⟩ := HF.out.1.put (q := 3) (by decide) (w' := w3) (Off.of_below hO) (hR.base (by have h1 := HF.out.1.hB; omega)) (fun g e => Or.inr (hR.lt e).1) (by rw [List.length_take]; omega)
      exact ⟨h1, HF.out.2.trans h2⟩
    have HG : Hid (Rk ((w3.setCell ⟨R, 3, none⟩ (.slice a' n' c')).setCell ⟨R, 8, none⟩ (.int .i64 (oneMore nc))) B R (upd v 3 (.slice a' n' c')) (upd x 3 ((x 3).take m)) false (leftOn left) na ns (oneMore nc) ∧ RStep w ((w3.setCell ⟨R, 3, none⟩ (.slice a' n' c')).setCell ⟨R, 8, none⟩ (.int .i64 (oneMore nc))) R v (upd v 3 (.slice a' n' c'))) := by
      obtain ⟨h1, h2⟩ := HP.out.1.set8 (oneMore nc) (oneMore_bn ⟨HBN.2.2.2.2.2.2.1, HBN.2.2.2.2.2.2.2⟩)
      exact ⟨h1, HP.out.2.trans h2⟩
    clear HP hR hO
    go_wp2_with fail
    refine (rmore_any _ _ ⟨HBN.2.2.2.2.2.2.1, HBN.2.2.2.2.2.2.2⟩).mono ?_
    rintro e w5 ⟨rfl, hw5⟩
    rw [hw5]
    clear hw5
    go_wp2_with fail
    go_ret
    first
      | exact ⟨rfl, _, HG.out⟩
      | exact ⟨rfl, _, HG.out.1.off (P := fun _ => False) ((Off.refl _ _).drew) (fun _ _ => id), HG.out.2.trans ⟨(Off.refl _ _).drew, fun _ _ g => g⟩⟩
      | exact ⟨rfl, _, HG.out.1.drewN _, HG.out.2.trans (RStep.drewN _ _ _ _)⟩
end Go.Proofs.Ytlgjjemfckmidaa
