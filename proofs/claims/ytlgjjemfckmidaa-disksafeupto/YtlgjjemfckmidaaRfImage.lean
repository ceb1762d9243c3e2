/-
  Image of the document's disk.
-/
import Derived.Test.YtlgjjemfckmidaaRfCut
namespace Go.Proofs.Ytlgjjemfckmidaa
open Go.RowKit

set_option maxRecDepth 100000 in
set_option maxHeartbeats 4000000 in
theorem rImage_any {w : World} {B R : Nat} {v : Nat → Value} {x : Nat → List Int} {dead : Bool} {left na ns nc : Int} (h : Rk w B R v x dead left na ns nc) :
    Calls Try.prog 45 #[.pointer (some ⟨R, 0, none⟩)] w fun e w' => ∃ a0 n0 c0 a1 n1 c1, e = .returned (.agg #[.slice a0 n0 c0, .slice a1 n1 c1]) ∧ Row w' w.heap.size (.slice a0 n0 c0) (x 0) ∧ Row w' w.heap.size (.slice a1 n1 c1) (x 2) ∧ Below w.heap.size w w' := by
  have hl0 := h.len 0 (by decide)
  have hl2 := h.len 2 (by decide)
  obtain ⟨p0, d0, e0, _, _, hp0⟩ := (h.row 0 (by decide)).slice
  obtain ⟨p1, d1, e1, _, _, hp1⟩ := (h.row 2 (by decide)).slice
  obtain ⟨W, hW⟩ : ∃ y, (w.alloc (.cells #[.slice none 0 0, .slice none 0 0] 26)).alloc (.cells #[.slice none 0 0, .slice none 0 0] 26) = y := ⟨_, rfl⟩
  have sW : W.heap.size = w.heap.size + 1 + 1 := by rw [← hW]; simp
  have bW : Below w.heap.size w W := by rw [← hW]; exact ((Below.refl _ _).alloc (Nat.le_refl _) _).alloc (by simp) _
  have hk := h.below bW
  have r0 := hk.row 0 (by decide)
  have r1 := hk.row 2 (by decide)
  have k0 := hk.cell 0 (by decide)
  have k1 := hk.cell 2 (by decide)
  rw [e0] at r0 k0
  rw [e1] at r1 k1
  have hRW : R < W.heap.size := hk.hR
  have hRw : R < w.heap.size := h.hR
  obtain ⟨n0, hn0⟩ : ∃ n, (x 0).length = n := ⟨_, rfl⟩
  obtain ⟨n1, hn1⟩ : ∃ n, (x 2).length = n := ⟨_, rfl⟩
  rw [hn0] at r0 k0 hl0
  rw [hn1] at r1 k1 hl2
  -- the first copy
  obtain ⟨a3, n3, c3, w3, e3, q3, o3, b3⟩ := run_copy (B := W.heap.size) (c := d0) (Nat.le_refl _) r0.asByts0 (fun e => (hp0 e).2) (by omega)
  have lW0 : W.cell? ⟨w.heap.size + 1, 0, none⟩ = some (.slice none 0 0) := by rw [← hW, World.cell?_alloc_at _ _ _ _ (by simp)]; rfl
  have lW1 : W.cell? ⟨w.heap.size + 1, 1, none⟩ = some (.slice none 0 0) := by rw [← hW, World.cell?_alloc_at _ _ _ _ (by simp)]; rfl
  have lN0 : W.cell? ⟨w.heap.size, 0, none⟩ = some (.slice none 0 0) := by rw [← hW, World.cell?_alloc_lt _ _ ⟨w.heap.size, 0, none⟩ (by simp), World.cell?_alloc_at _ _ _ _ rfl]; rfl
  have lN1 : W.cell? ⟨w.heap.size, 1, none⟩ = some (.slice none 0 0) := by rw [← hW, World.cell?_alloc_lt _ _ ⟨w.heap.size, 1, none⟩ (by simp), World.cell?_alloc_at _ _ _ _ rfl]; rfl
  have fW : ∀ q, W.frozen? ⟨w.heap.size + 1, q, none⟩ = false := fun q => by rw [← hW]; simp
  have fN : ∀ q, W.frozen? ⟨w.heap.size, q, none⟩ = false := fun q => by rw [← hW]; simp
  have hc3 : ∀ b q, b < W.heap.size → w3.cell? ⟨b, q, none⟩ = W.cell? ⟨b, q, none⟩ := fun b q hb => o3.cell (p := ⟨b, q, none⟩) hb
  have hf3 : ∀ b q, b < W.heap.size → w3.frozen? ⟨b, q, none⟩ = W.frozen? ⟨b, q, none⟩ := fun b q hb => o3.frozen (p := ⟨b, q, none⟩) hb
  -- the second copy, behind the first store
  obtain ⟨w4, hw4⟩ : ∃ y, w3.setCell ⟨w.heap.size + 1, 0, none⟩ (.slice a3 n3 c3) = y := ⟨_, rfl⟩
  have s4 : w4.heap.size = w3.heap.size := by rw [← hw4]; simp
  have o4 : Off (fun k => k = w.heap.size + 1) W w4 := by
    rw [← hw4]
    exact Off.setCell (P := fun k => k = w.heap.size + 1) (Off.of_below o3) (p := ⟨w.heap.size + 1, 0, none⟩) rfl _
  have r14 : Row w4 B (.slice p1 n1 d1) (x 2) := r1.off o4 (fun g e p => by have h1 := ((h.row 2 (by decide)).lt (g := g) (by rw [e1, hn1]; exact e)).2; omega)
  obtain ⟨a5, n5, c5, w5, e5, q5, o5, b5⟩ := run_copy (B := W.heap.size) (c := d1) (w := w4) (by have := o4.size; omega) r14.asByts0 (fun e => (hp1 e).2) (by omega)
  have hc5 : ∀ b q, b < w4.heap.size → w5.cell? ⟨b, q, none⟩ = w4.cell? ⟨b, q, none⟩ := fun b q hb => o5.cell (p := ⟨b, q, none⟩) hb
  have hf5 : ∀ b q, b < w4.heap.size → w5.frozen? ⟨b, q, none⟩ = w4.frozen? ⟨b, q, none⟩ := fun b q hb => o5.frozen (p := ⟨b, q, none⟩) hb
  have z3 : W.heap.size ≤ w3.heap.size := o3.size
  have z4 : w4.heap.size ≤ w5.heap.size := o5.size
  have g0 : (W.alloc (.cells #[] 5)).cell? ⟨R, 0, none⟩ = some (.slice p0 n0 d0) := by rw [World.cell?_alloc_lt _ _ ⟨R, 0, none⟩ hRW]; exact k0
  have t0 : w3.cell? ⟨w.heap.size + 1, 0, none⟩ = some (.slice none 0 0) := by rw [hc3 _ _ (by omega)]; exact lW0
  have t1 : w3.frozen? ⟨w.heap.size + 1, 0, none⟩ = false := by rw [hf3 _ _ (by omega)]; exact fW 0
  have g2 : w4.cell? ⟨R, 2, none⟩ = some (.slice p1 n1 d1) := by rw [o4.cell (p := ⟨R, 2, none⟩) hRW (by show ¬ R = w.heap.size + 1; omega)]; exact k1
  have g3 : (w4.alloc (.cells #[] 5)).cell? ⟨R, 2, none⟩ = some (.slice p1 n1 d1) := by rw [World.cell?_alloc_lt _ _ ⟨R, 2, none⟩ (by show R < w4.heap.size; omega)]; exact g2
  have y0 : w4.cell? ⟨w.heap.size + 1, 0, none⟩ = some (.slice a3 n3 c3) := by rw [← hw4]; exact World.cell?_setCell_same _ _ _ t0
  have y1 : w4.cell? ⟨w.heap.size + 1, 1, none⟩ = some (.slice none 0 0) := by rw [← hw4, World.cell?_setCell_other _ _ _ _ (by simp), hc3 _ _ (by omega)]; exact lW1
  have m0 : w5.cell? ⟨w.heap.size + 1, 0, none⟩ = some (.slice a3 n3 c3) := by rw [hc5 _ _ (by omega)]; exact y0
  have m1 : w5.cell? ⟨w.heap.size + 1, 1, none⟩ = some (.slice none 0 0) := by rw [hc5 _ _ (by omega)]; exact y1
  have m2 : w5.frozen? ⟨w.heap.size + 1, 1, none⟩ = false := by rw [hf5 _ _ (by omega), ← hw4, World.frozen?_setCell, hf3 _ _ (by omega)]; exact fW 1
  have m3 : w5.cell? ⟨w.heap.size, 0, none⟩ = some (.slice none 0 0) := by rw [hc5 _ _ (by omega), o4.cell (p := ⟨w.heap.size, 0, none⟩) (by show w.heap.size < _; omega) (by show ¬ w.heap.size = w.heap.size + 1; omega)]; exact lN0
  have m4 : w5.cell? ⟨w.heap.size, 1, none⟩ = some (.slice none 0 0) := by rw [hc5 _ _ (by omega), o4.cell (p := ⟨w.heap.size, 1, none⟩) (by show w.heap.size < _; omega) (by show ¬ w.heap.size = w.heap.size + 1; omega)]; exact lN1
  have m5 : w5.frozen? ⟨w.heap.size, 0, none⟩ = false := by rw [hf5 _ _ (by omega), o4.frozen (p := ⟨w.heap.size, 0, none⟩) (by show w.heap.size < _; omega) (by show ¬ w.heap.size = w.heap.size + 1; omega)]; exact fN 0
  have m6 : w5.frozen? ⟨w.heap.size, 1, none⟩ = false := by rw [hf5 _ _ (by omega), o4.frozen (p := ⟨w.heap.size, 1, none⟩) (by show w.heap.size < _; omega) (by show ¬ w.heap.size = w.heap.size + 1; omega)]; exact fN 1
  -- the end
  obtain ⟨w6, hw6⟩ : ∃ y, ((w5.setCell ⟨w.heap.size + 1, 1, none⟩ (.slice a5 n5 c5)).setCell ⟨w.heap.size, 0, none⟩ (.slice a3 n3 c3)).setCell ⟨w.heap.size, 1, none⟩ (.slice a5 n5 c5) = y := ⟨_, rfl⟩
  have v3 : ∀ g, (Value.slice a3 n3 c3).ownBlock = some g → w.heap.size + 1 + 1 ≤ g := fun g e => by have := b3 g e; omega
  have v5 : ∀ g, (Value.slice a5 n5 c5).ownBlock = some g → w.heap.size + 1 + 1 ≤ g := fun g e => by have := b5 g e; omega
  have HR : Hid (Row w6 w.heap.size (.slice a3 n3 c3) (x 0) ∧ Row w6 w.heap.size (.slice a5 n5 c5) (x 2) ∧ Below w.heap.size w w6 ∧ w6.cell? ⟨w.heap.size, 0, none⟩ = some (.slice a3 n3 c3) ∧ w6.cell? ⟨w.heap.size, 1, none⟩ = some (.slice a5 n5 c5)) := by
    rw [← hw6]
    have q3' : Row w4 W.heap.size (.slice a3 n3 c3) (x 0) := by rw [← hw4]; exact q3.set (fun e => by have := v3 _ e; simp only at this; omega)
    refine ⟨((((q3'.off (Off.of_below (P := fun _ => False) o5) (fun _ _ => id)).set (fun e => by have := v3 _ e; simp only at this; omega)).set (fun e => by have := v3 _ e; simp only at this; omega)).set (fun e => by have := v3 _ e; simp only at this; omega)).base bW.size, (((q5.set (fun e => by have := v5 _ e; simp only at this; omega)).set (fun e => by have := v5 _ e; simp only at this; omega)).set (fun e => by have := v5 _ e; simp only at this; omega)).base bW.size, ?_, ?_, ?_⟩
    · have q4 : Below w.heap.size w w4 := bW.trans (o4.below bW.size (fun k e => by omega))
      exact (((q4.trans (o5.mono q4.size)).setCell (by show w.heap.size ≤ w.heap.size + 1; omega) _).setCell (Nat.le_refl _) _).setCell (Nat.le_refl _) _
    · rw [World.cell?_setCell_other _ _ _ _ (by simp)]
      exact World.cell?_setCell_same _ _ _ (show _ = some (.slice none 0 0) by rw [World.cell?_setCell_other _ _ _ _ (by simp)]; exact m3)
    · exact World.cell?_setCell_same _ _ _ (show _ = some (.slice none 0 0) by rw [World.cell?_setCell_other _ _ _ _ (by simp), World.cell?_setCell_other _ _ _ _ (by simp)]; exact m4)
  have HW : Hid ((w.alloc (.cells #[.slice none 0 0, .slice none 0 0] 26)).alloc (.cells #[.slice none 0 0, .slice none 0 0] 26) = W) := hW
  have HE : Hid (w3.setCell ⟨w.heap.size + 1, 0, none⟩ (.slice a3 n3 c3) = w4) := hw4
  have H6 : Hid (((w5.setCell ⟨w.heap.size + 1, 1, none⟩ (.slice a5 n5 c5)).setCell ⟨w.heap.size, 0, none⟩ (.slice a3 n3 c3)).setCell ⟨w.heap.size, 1, none⟩ (.slice a5 n5 c5) = w6) := hw6
  clear sW s4 h hk r0 r1 q3 o3 b3 o4 r14 q5 o5 b5 hc3 hf3 hc5 hf5 fW fN lW0 lW1 lN0 lN1 hW hw4 hw6 v3 v5 bW hp0 hp1 hl0 hl2 e0 e1 hn0 hn1 z3 z4 y0 y1 k0 k1
  go_enter Try.func45, Try.ntmps45
  go_wp2_with fail
  rw [HW.out]
  refine wp_loop_rounds 3 ?_
  rw [rounds_succ]
  go_wp2_with (at_builtin; refine wpList_append_run rfl (.tmp 13) (.tmp 20) 25 _ rfl e3 ?_)
  rw [HE.out]
  rw [rounds_succ]
  go_wp2_with (at_builtin; refine wpList_append_run rfl (.tmp 13) (.tmp 20) 25 _ rfl e5 ?_)
  rw [rounds_succ]
  go_wp2_with fail
  rw [H6.out]
  exact bodyPost_ret (v := .agg #[.slice a3 n3 c3, .slice a5 n5 c5]) (by simp [results, Try.results45, go_sem, HR.out.2.2.2.1, HR.out.2.2.2.2]) rfl ⟨_, _, _, _, _, _, rfl, HR.out.1, HR.out.2.1, HR.out.2.2.1⟩
end Go.Proofs.Ytlgjjemfckmidaa
