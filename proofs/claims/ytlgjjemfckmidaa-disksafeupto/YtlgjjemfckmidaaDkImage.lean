/-
  A disk that was made: Image, Counts.
-/
import Derived.Test.YtlgjjemfckmidaaDkCrash
namespace Go.Proofs.Ytlgjjemfckmidaa
open Go.RowKit

theorem Row.base {w : World} {B B' : Nat} {v : Value} {xs : List Int} (h : Row w B v xs) (hB : B' ≤ B) : Row w B' v xs := by
  rcases h.2 with ⟨rfl, h0⟩ | ⟨g, cap, cur, rfl, hb, rest⟩
  · exact ⟨h.1, Or.inl ⟨rfl, h0⟩⟩
  · exact ⟨h.1, Or.inr ⟨g, cap, cur, rfl, Nat.le_trans hB hb, rest⟩⟩
theorem Row.below {w w' : World} {B : Nat} {v : Value} {xs : List Int} (h : Row w B v xs) (hb : Below w.heap.size w w') : Row w' B v xs := h.keep fun g hg => hb.block g (h.lt hg).2
section
variable {w0 w : World} {B K : Nat} {v0 v1 : Value} {x0 x1 : List Int} {s0 s1 : Nat} {st fu na ns nc : Int}
theorem read0_rel (h : Dsk w0 B K v0 v1 x0 x1 s0 s1 st fu na ns nc) (ha : Off (fun _ => False) w0 w) :
    Calls Try.prog 64 #[.pointer (some ⟨K, 0, none⟩), .int .i64 0, .int .i64 s0] w fun e w' => ∃ a n c, e = .returned (.slice a n c) ∧ Row w' w0.heap.size (.slice a n c) (x0.take s0) ∧ Below w0.heap.size w0 w' := by
  have hd := h.off ha (fun _ _ => id)
  refine (read_any 0 s0 w hd.a0 (by have := h.a0.syn; omega)).mono ?_
  rintro e w' ⟨r, rfl, hr, hb⟩
  obtain ⟨a, c, rfl, _⟩ := hr.slice
  exact ⟨a, _, c, rfl, by simpa using hr.base ha.size, (ha.below_of (fun _ _ => id)).trans (hb.mono ha.size)⟩
theorem read1_rel (h : Dsk w0 B K v0 v1 x0 x1 s0 s1 st fu na ns nc) (ha : Off (fun _ => False) w0 w) :
    Calls Try.prog 64 #[.pointer (some ⟨K, 2, none⟩), .int .i64 0, .int .i64 s1] w fun e w' => ∃ a n c, e = .returned (.slice a n c) ∧ Row w' w0.heap.size (.slice a n c) (x1.take s1) ∧ Below w0.heap.size w0 w' := by
  have hd := h.off ha (fun _ _ => id)
  refine (read_any 0 s1 w hd.a1 (by have := h.a1.syn; omega)).mono ?_
  rintro e w' ⟨r, rfl, hr, hb⟩
  obtain ⟨a, c, rfl, _⟩ := hr.slice
  exact ⟨a, _, c, rfl, by simpa using hr.base ha.size, (ha.below_of (fun _ _ => id)).trans (hb.mono ha.size)⟩
end
set_option maxRecDepth 100000 in
set_option maxHeartbeats 2000000 in
theorem safe_any {w : World} {B K : Nat} {v0 v1 : Value} {x0 x1 : List Int} {s0 s1 : Nat} {st fu na ns nc : Int} (h : Dsk w B K v0 v1 x0 x1 s0 s1 st fu na ns nc) :
    Calls Try.prog 28 #[.pointer (some ⟨K, 0, none⟩)] w fun e w' => ∃ a0 n0 c0 a1 n1 c1, e = .returned (.agg #[.slice a0 n0 c0, .slice a1 n1 c1]) ∧ Row w' w.heap.size (.slice a0 n0 c0) (x0.take s0) ∧ Row w' w.heap.size (.slice a1 n1 c1) (x1.take s1) ∧ Below w.heap.size w w' := by
  have HA : Hid (Dsk ((w.alloc (.cells #[.slice none 0 0, .slice none 0 0] 26)).alloc (.cells #[.slice none 0 0, .slice none 0 0] 26)) B K v0 v1 x0 x1 s0 s1 st fu na ns nc) := h.off (P := fun _ => False) (((Off.refl _ _).alloc _).alloc _) (fun _ _ => id)
  have k1 : ((w.alloc (.cells #[.slice none 0 0, .slice none 0 0] 26)).alloc (.cells #[.slice none 0 0, .slice none 0 0] 26)).cell? ⟨K, 1, none⟩ = some (.int .i64 s0) := HA.out.a0.c1
  have hK := h.hK
  have HN : Hid (¬ Foot K v0 v1 (w.heap.size + 1)) := fun e => by have := (h.foot_lt e).2; omega
  clear h
  go_enter Try.func28, Try.ntmps28
  go_wp2_with fail
  refine wp_loop_rounds 3 ?_
  rw [rounds_succ]
  go_wp2_with fail
  go_region_with (go_at_call 64; refine (read0_rel HA.out ?_).mono ?_; (first | exact Off.refl _ _ | exact (Off.refl _ _).drew | exact (Off.refl _ _).drewN _ | exact ((Off.refl _ _).drew).drew); rintro e w1 ⟨a0, n0, c0, rfl, r1, b1⟩; have hb1 := bcell b1)
  have hWA : ((w.alloc (.cells #[.slice none 0 0, .slice none 0 0] 26)).alloc (.cells #[.slice none 0 0, .slice none 0 0] 26)).heap.size = w.heap.size + 2 := by simp
  have HB1 : Hid (Below w.heap.size w (w1.setCell ⟨w.heap.size + 1, 0, none⟩ (.slice a0 n0 c0))) := (((Below.refl _ _).alloc (Nat.le_refl _) _).alloc (by simp) _).trans ((b1.mono (by simp; omega)).setCell (by simp) _)
  have HO1 : Hid (Off (· = w.heap.size + 1) w1 (w1.setCell ⟨w.heap.size + 1, 0, none⟩ (.slice a0 n0 c0))) := (Off.refl (· = w.heap.size + 1) _).setCell (p := ⟨w.heap.size + 1, 0, none⟩) rfl _
  have HA1 : Hid (Dsk (w1.setCell ⟨w.heap.size + 1, 0, none⟩ (.slice a0 n0 c0)) B K v0 v1 x0 x1 s0 s1 st fu na ns nc) := (HA.out.below b1).off HO1.out (fun k hk e => HN.out (by rw [← e]; exact hk))
  have HR0 : Hid (Row (w1.setCell ⟨w.heap.size + 1, 0, none⟩ (.slice a0 n0 c0)) ((w.alloc (.cells #[.slice none 0 0, .slice none 0 0] 26)).alloc (.cells #[.slice none 0 0, .slice none 0 0] 26)).heap.size (.slice a0 n0 c0) (x0.take s0)) := r1.set (fun e => by have h9 : ((w.alloc (.cells #[.slice none 0 0, .slice none 0 0] 26)).alloc (.cells #[.slice none 0 0, .slice none 0 0] 26)).heap.size ≤ w.heap.size + 1 := (r1.lt e).1; omega)
  have q0 : (w1.setCell ⟨w.heap.size + 1, 0, none⟩ (.slice a0 n0 c0)).cell? ⟨w.heap.size + 1, 0, none⟩ = some (.slice a0 n0 c0) := World.cell?_setCell_same _ _ _ (u := .slice none 0 0) (by rw [hb1.1 _ _ (by rw [hWA]; omega)]; simp)
  have q1 : (w1.setCell ⟨w.heap.size + 1, 0, none⟩ (.slice a0 n0 c0)).cell? ⟨w.heap.size + 1, 1, none⟩ = some (.slice none 0 0) := by rw [World.cell?_setCell_other _ _ _ _ (by simp), hb1.1 _ _ (by rw [hWA]; omega)]; simp
  have q2 : (w1.setCell ⟨w.heap.size + 1, 0, none⟩ (.slice a0 n0 c0)).cell? ⟨w.heap.size, 0, none⟩ = some (.slice none 0 0) := by rw [World.cell?_setCell_other _ _ _ _ (by simp), hb1.1 _ _ (by rw [hWA]; omega)]; simp
  have q3 : (w1.setCell ⟨w.heap.size + 1, 0, none⟩ (.slice a0 n0 c0)).cell? ⟨w.heap.size, 1, none⟩ = some (.slice none 0 0) := by rw [World.cell?_setCell_other _ _ _ _ (by simp), hb1.1 _ _ (by rw [hWA]; omega)]; simp
  have q4 : ∀ o, (w1.setCell ⟨w.heap.size + 1, 0, none⟩ (.slice a0 n0 c0)).frozen? ⟨w.heap.size + 1, o, none⟩ = false := fun o => by simp [hb1.2 _ _ (show w.heap.size + 1 < ((w.alloc (.cells #[.slice none 0 0, .slice none 0 0] 26)).alloc (.cells #[.slice none 0 0, .slice none 0 0] 26)).heap.size by rw [hWA]; omega)]
  have q5 : ∀ o, (w1.setCell ⟨w.heap.size + 1, 0, none⟩ (.slice a0 n0 c0)).frozen? ⟨w.heap.size, o, none⟩ = false := fun o => by simp [hb1.2 _ _ (show w.heap.size < ((w.alloc (.cells #[.slice none 0 0, .slice none 0 0] 26)).alloc (.cells #[.slice none 0 0, .slice none 0 0] 26)).heap.size by rw [hWA]; omega)]
  have hs1 : w.heap.size + 2 ≤ (w1.setCell ⟨w.heap.size + 1, 0, none⟩ (.slice a0 n0 c0)).heap.size := by have := b1.size; simp at this; simp; omega
  clear r1 b1 hb1 HO1
  generalize (w1.setCell ⟨w.heap.size + 1, 0, none⟩ (.slice a0 n0 c0)) = W1 at HB1 HA1 HR0 q0 q1 q2 q3 q4 q5 hs1 ⊢
  have hlt1 : w.heap.size + 1 < W1.heap.size := by omega
  have k3 : W1.cell? ⟨K, 3, none⟩ = some (.int .i64 s1) := HA1.out.a1.c1
  go_wp2_with fail
  rw [rounds_succ]
  go_wp2_with fail
  go_region_with (go_at_call 64; refine (read1_rel HA1.out ?_).mono ?_; (first | exact Off.refl _ _ | exact (Off.refl _ _).drew | exact (Off.refl _ _).drewN _ | exact ((Off.refl _ _).drew).drew); rintro e w2 ⟨a1, n1, c1, rfl, r2, b2⟩; have hb2 := bcell b2; have hc2 := fun o => hb2.1 (w.heap.size + 1) o hlt1; have hf2 := fun o => hb2.2 (w.heap.size + 1) o hlt1)
  have HB2 : Hid (Below w.heap.size w (w2.setCell ⟨w.heap.size + 1, 1, none⟩ (.slice a1 n1 c1))) := HB1.out.trans ((b2.mono (by omega)).setCell (by simp) _)
  have HR0' : Hid (Row (w2.setCell ⟨w.heap.size + 1, 1, none⟩ (.slice a1 n1 c1)) ((w.alloc (.cells #[.slice none 0 0, .slice none 0 0] 26)).alloc (.cells #[.slice none 0 0, .slice none 0 0] 26)).heap.size (.slice a0 n0 c0) (x0.take s0)) := (HR0.out.below b2).set (fun e => by have h9 : ((w.alloc (.cells #[.slice none 0 0, .slice none 0 0] 26)).alloc (.cells #[.slice none 0 0, .slice none 0 0] 26)).heap.size ≤ w.heap.size + 1 := (HR0.out.lt e).1; omega)
  have HR1 : Hid (Row (w2.setCell ⟨w.heap.size + 1, 1, none⟩ (.slice a1 n1 c1)) W1.heap.size (.slice a1 n1 c1) (x1.take s1)) := r2.set (fun e => by have h9 : W1.heap.size ≤ w.heap.size + 1 := (r2.lt e).1; omega)
  have p0 : (w2.setCell ⟨w.heap.size + 1, 1, none⟩ (.slice a1 n1 c1)).cell? ⟨w.heap.size + 1, 0, none⟩ = some (.slice a0 n0 c0) := by rw [World.cell?_setCell_other _ _ _ _ (by simp), hb2.1 _ _ (by omega)]; exact q0
  have p1 : (w2.setCell ⟨w.heap.size + 1, 1, none⟩ (.slice a1 n1 c1)).cell? ⟨w.heap.size + 1, 1, none⟩ = some (.slice a1 n1 c1) := World.cell?_setCell_same _ _ _ (u := .slice none 0 0) (by rw [hb2.1 _ _ (by omega)]; exact q1)
  have p2 : (w2.setCell ⟨w.heap.size + 1, 1, none⟩ (.slice a1 n1 c1)).cell? ⟨w.heap.size, 0, none⟩ = some (.slice none 0 0) := by rw [World.cell?_setCell_other _ _ _ _ (by simp), hb2.1 _ _ (by omega)]; exact q2
  have p3 : (w2.setCell ⟨w.heap.size + 1, 1, none⟩ (.slice a1 n1 c1)).cell? ⟨w.heap.size, 1, none⟩ = some (.slice none 0 0) := by rw [World.cell?_setCell_other _ _ _ _ (by simp), hb2.1 _ _ (by omega)]; exact q3
  have p5 : ∀ o, (w2.setCell ⟨w.heap.size + 1, 1, none⟩ (.slice a1 n1 c1)).frozen? ⟨w.heap.size, o, none⟩ = false := fun o => by simp [hb2.2 _ _ (show w.heap.size < W1.heap.size by omega), q5]
  clear r2 b2 hb2 hc2 hf2 HB1 HR0 HA1 q0 q1 q2 q3 q4 q5 k3
  generalize (w2.setCell ⟨w.heap.size + 1, 1, none⟩ (.slice a1 n1 c1)) = W2 at HB2 HR0' HR1 p0 p1 p2 p3 p5 ⊢
  have HF : Hid (Off (· = w.heap.size) W2 ((W2.setCell ⟨w.heap.size, 0, none⟩ (.slice a0 n0 c0)).setCell ⟨w.heap.size, 1, none⟩ (.slice a1 n1 c1))) := ((Off.refl (· = w.heap.size) W2).setCell (p := ⟨w.heap.size, 0, none⟩) rfl _).setCell (p := ⟨w.heap.size, 1, none⟩) rfl _
  have z1 : ∀ u u' : Value, ((W2.setCell ⟨w.heap.size, 0, none⟩ u).setCell ⟨w.heap.size, 1, none⟩ u').cell? ⟨w.heap.size, 0, none⟩ = some u := fun u u' => by rw [World.cell?_setCell_other _ _ _ _ (by simp)]; exact World.cell?_setCell_same _ _ _ p2
  have z2 : ∀ u u' : Value, ((W2.setCell ⟨w.heap.size, 0, none⟩ u).setCell ⟨w.heap.size, 1, none⟩ u').cell? ⟨w.heap.size, 1, none⟩ = some u' := fun u u' => World.cell?_setCell_same _ _ _ (u := .slice none 0 0) (by rw [World.cell?_setCell_other _ _ _ _ (by simp)]; exact p3)
  go_wp2_with fail
  rw [rounds_succ]
  go_wp2_with fail
  refine bodyPost_ret (v := .agg #[.slice a0 n0 c0, .slice a1 n1 c1]) (by simp [results, Try.results28, go_sem, z1, z2]) rfl ⟨a0, n0, c0, a1, n1, c1, rfl, ?_, ?_, ?_⟩
  · have h8 : ∀ e, (Value.slice a0 n0 c0).ownBlock = some e → w.heap.size + 2 ≤ e := fun e he => by have h9 : ((w.alloc (.cells #[.slice none 0 0, .slice none 0 0] 26)).alloc (.cells #[.slice none 0 0, .slice none 0 0] 26)).heap.size ≤ e := (HR0'.out.lt he).1; omega
    exact ((HR0'.out.set (p := ⟨w.heap.size, 0, none⟩) (fun e => by have := h8 _ e; simp only at this; omega)).set (p := ⟨w.heap.size, 1, none⟩) (fun e => by have := h8 _ e; simp only at this; omega)).base (by omega)
  · have h8 : ∀ e, (Value.slice a1 n1 c1).ownBlock = some e → w.heap.size + 2 ≤ e := fun e he => by have h9 : W1.heap.size ≤ e := (HR1.out.lt he).1; omega
    exact ((HR1.out.set (p := ⟨w.heap.size, 0, none⟩) (fun e => by have := h8 _ e; simp only at this; omega)).set (p := ⟨w.heap.size, 1, none⟩) (fun e => by have := h8 _ e; simp only at this; omega)).base (by omega)
  · exact (HB2.out.setCell (Nat.le_refl _) _).setCell (Nat.le_refl _) _
set_option maxRecDepth 100000 in
set_option maxHeartbeats 2000000 in
theorem Image_ok {w : World} {B K : Nat} {v0 v1 : Value} {x0 x1 : List Int} {s0 s1 : Nat} {st fu na ns nc : Int} (h : Dsk w B K v0 v1 x0 x1 s0 s1 st fu na ns nc) (hst : st = 1 ∨ st = 2) :
    Calls Try.prog 12 #[.pointer (some ⟨K, 0, none⟩)] w fun e w' => ∃ a0 n0 c0 a1 n1 c1, e = .returned (.agg #[.slice a0 n0 c0, .slice a1 n1 c1]) ∧ Row w' w.heap.size (.slice a0 n0 c0) (x0.take s0) ∧ Row w' w.heap.size (.slice a1 n1 c1) (x1.take s1) ∧ Below w.heap.size w w' := by
  have HA : Hid (Dsk (w.alloc (.cells #[.slice none 0 0, .slice none 0 0] 26)) B K v0 v1 x0 x1 s0 s1 st fu na ns nc) := h.off (P := fun _ => False) ((Off.refl _ _).alloc _) (fun _ _ => id)
  have HS : Hid (st = 1 ∨ st = 2) := hst
  clear h hst
  go_enter Try.func12, Try.ntmps12
  go_wp2_with fail
  refine (made_ok HA.out HS.out).mono ?_
  rintro e w1 ⟨rfl, rfl⟩
  go_wp2_with fail
  refine (safe_any HA.out).mono ?_
  rintro e w2 ⟨a0, n0, c0, a1, n1, c1, rfl, r0, r1, b2⟩
  have hWI : (w.alloc (.cells #[.slice none 0 0, .slice none 0 0] 26)).heap.size = w.heap.size + 1 := by simp
  have p2 : w2.cell? ⟨w.heap.size, 0, none⟩ = some (.slice none 0 0) := by rw [(bcell b2).1 _ _ (by rw [hWI]; omega)]; simp
  have p3 : w2.cell? ⟨w.heap.size, 1, none⟩ = some (.slice none 0 0) := by rw [(bcell b2).1 _ _ (by rw [hWI]; omega)]; simp
  have p5 : ∀ o, w2.frozen? ⟨w.heap.size, o, none⟩ = false := fun o => by rw [(bcell b2).2 _ _ (by rw [hWI]; omega)]; simp
  have HR0 : Hid (Row w2 (w.heap.size + 1) (.slice a0 n0 c0) (x0.take s0)) := hWI ▸ r0
  have HR1 : Hid (Row w2 (w.heap.size + 1) (.slice a1 n1 c1) (x1.take s1)) := hWI ▸ r1
  have HB2 : Hid (Below w.heap.size w w2) := ((Below.refl _ _).alloc (Nat.le_refl _) _).trans (b2.mono (by rw [hWI]; omega))
  have z1 : ∀ u u' : Value, ((w2.setCell ⟨w.heap.size, 0, none⟩ u).setCell ⟨w.heap.size, 1, none⟩ u').cell? ⟨w.heap.size, 0, none⟩ = some u := fun u u' => by rw [World.cell?_setCell_other _ _ _ _ (by simp)]; exact World.cell?_setCell_same _ _ _ p2
  have z2 : ∀ u u' : Value, ((w2.setCell ⟨w.heap.size, 0, none⟩ u).setCell ⟨w.heap.size, 1, none⟩ u').cell? ⟨w.heap.size, 1, none⟩ = some u' := fun u u' => World.cell?_setCell_same _ _ _ (u := .slice none 0 0) (by rw [World.cell?_setCell_other _ _ _ _ (by simp)]; exact p3)
  clear r0 r1 b2
  go_wp2_with fail
  refine bodyPost_ret (v := .agg #[.slice a0 n0 c0, .slice a1 n1 c1]) (by simp [results, Try.results12, go_sem, z1, z2]) rfl ⟨a0, n0, c0, a1, n1, c1, rfl, ?_, ?_, ?_⟩
  · have h8 : ∀ e, (Value.slice a0 n0 c0).ownBlock = some e → w.heap.size + 1 ≤ e := fun e he => (HR0.out.lt he).1
    exact ((HR0.out.set (p := ⟨w.heap.size, 0, none⟩) (fun e => by have := h8 _ e; simp only at this; omega)).set (p := ⟨w.heap.size, 1, none⟩) (fun e => by have := h8 _ e; simp only at this; omega)).base (by omega)
  · have h8 : ∀ e, (Value.slice a1 n1 c1).ownBlock = some e → w.heap.size + 1 ≤ e := fun e he => (HR1.out.lt he).1
    exact ((HR1.out.set (p := ⟨w.heap.size, 0, none⟩) (fun e => by have := h8 _ e; simp only at this; omega)).set (p := ⟨w.heap.size, 1, none⟩) (fun e => by have := h8 _ e; simp only at this; omega)).base (by omega)
  · exact (HB2.out.setCell (Nat.le_refl _) _).setCell (Nat.le_refl _) _
end Go.Proofs.Ytlgjjemfckmidaa
