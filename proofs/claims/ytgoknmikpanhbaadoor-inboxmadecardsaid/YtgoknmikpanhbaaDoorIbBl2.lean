/-
  The loose pair: one more list in the book, one more text list, one more list of entries.
-/
import Derived.Test.YtgoknmikpanhbaaDoorIbBl
namespace Go.Proofs.YtgoknmikpanhbaaDoor
open Go.RowKit

section
variable {w w' : World} {P : Nat → Prop} {a b : TypeId}
/-- What P holds is of the types a and b. -/
def Pt (w : World) (P : Nat → Prop) (a b : TypeId) : Prop := ∀ q, P q → ∃ cs t, w.heap[q]? = some (.cells cs t (0, 0)) ∧ (t = a ∨ t = b)
theorem Pt.row (hP : Pt w P a b) {B : Nat} {e : TypeId} {v : Value} {xs : List Sl} (h : ERow w B e 1 encSl v xs) (o : Off P w w') (ha : a ≠ e) (hb : b ≠ e) : ERow w' B e 1 encSl v xs := ERow.off h o fun g hg hp => by
  obtain ⟨cs, t, hc, ht⟩ := hP g hp
  obtain ⟨cs', hc'⟩ := erow_type h hg
  rw [hc'] at hc
  simp only [Option.some.injEq, Obj.cells.injEq] at hc
  rcases ht with rfl | rfl
  · exact ha hc.2.1.symm
  · exact hb hc.2.1.symm
theorem Pt.blk (hP : Pt w P a b) {q : Nat} {cs : Array Value} {t : TypeId} (h : w.heap[q]? = some (.cells cs t (0, 0))) (o : Off P w w') (ha : a ≠ t) (hb : b ≠ t) : w'.heap[q]? = some (.cells cs t (0, 0)) := (o.block q (blk_lt h) fun hp => by
  obtain ⟨cs', t', hc, ht⟩ := hP q hp
  rw [h] at hc
  simp only [Option.some.injEq, Obj.cells.injEq] at hc
  rcases ht with rfl | rfl
  · exact ha hc.2.1.symm
  · exact hb hc.2.1.symm).trans h
theorem Pt.lty (hP : Pt w P a b) (ha : LTy a) (hb : LTy b) : ∀ q, P q → ∃ cs t, w.heap[q]? = some (.cells cs t (0, 0)) ∧ LTy t := fun q hq => by
  obtain ⟨cs, t, hc, ht⟩ := hP q hq
  refine ⟨cs, t, hc, ?_⟩
  rcases ht with rfl | rfl
  · exact ha
  · exact hb
theorem pt_two {K B : Nat} {cs : Array Value} {v0 v1 : Value} {x0 x1 : List Sl} (hK : w.heap[K]? = some (.cells cs a (0, 0))) (h0 : ERow w B b 1 encSl v0 x0) (h1 : ERow w B b 1 encSl v1 x1) : Pt w (fun q => q = K ∨ v0.ownBlock = some q ∨ v1.ownBlock = some q) a b := fun q hq => by
  rcases hq with rfl | hq | hq
  · exact ⟨cs, a, hK, Or.inl rfl⟩
  · obtain ⟨cs', hc⟩ := erow_type h0 hq
    exact ⟨cs', b, hc, Or.inr rfl⟩
  · obtain ⟨cs', hc⟩ := erow_type h1 hq
    exact ⟨cs', b, hc, Or.inr rfl⟩
end
section
variable {W w w' : World} {X K n : Nat} {bv mk ke rm : Value}
theorem ls_take (h : LS W X K bv mk ke rm n w) (hn : n ≤ 900) (s0 s1 : Sl) : ∃ v0 v1 a0 n0 c0 w2 a1 n1 c1 w4, w.cell? ⟨K, 0, none⟩ = some v0 ∧ (Builtin.append_ #[60, 60] 60 #[v0, .slice (some ⟨w.heap.size, 0, none⟩) 1 1]).run Tryd.prog (w.alloc (.cells #[.slice s0.1 s0.2.1 s0.2.2] 22)) = .ok (.slice a0 n0 c0) w2 ∧
      w2.cell? ⟨K, 0, none⟩ = some v0 ∧ w2.frozen? ⟨K, 0, none⟩ = false ∧ (w2.setCell ⟨K, 0, none⟩ (.slice a0 n0 c0)).cell? ⟨K, 1, none⟩ = some v1 ∧
      (Builtin.append_ #[60, 60] 60 #[v1, .slice (some ⟨w2.heap.size, 0, none⟩) 1 1]).run Tryd.prog ((w2.setCell ⟨K, 0, none⟩ (.slice a0 n0 c0)).alloc (.cells #[.slice s1.1 s1.2.1 s1.2.2] 22)) = .ok (.slice a1 n1 c1) w4 ∧
      w4.cell? ⟨K, 1, none⟩ = some v1 ∧ w4.frozen? ⟨K, 1, none⟩ = false ∧ Hid (LS W X K bv mk ke rm (n + 1) (w4.setCell ⟨K, 1, none⟩ (.slice a1 n1 c1)) ∧ Kp w (w4.setCell ⟨K, 1, none⟩ (.slice a1 n1 c1))) := by
  obtain ⟨v0, v1, v4, v5, v6, v7, x0, x1, x4, x5, x6, x7, hX, hK, ⟨a0, a1, a2, a3, a4⟩, ⟨b0, b1, b2, b3, b4⟩, ⟨c0, c1, c2, c3, c4⟩⟩ := h.ex
  obtain ⟨p0, n0, d0, w2, p1, n1, d1, w4, r1, r2, r3, r4, r5, r6, r7, R⟩ := push2 (i := 0) Tryd.underlying60 celSB (by decide) hK rfl rfl a0 a1 a2 (by omega) (by omega) h.bel.size s0 s1
  refine ⟨v0, v1, p0, n0, d0, w2, p1, n1, d1, w4, hcell hK 0, r1, r2, r3, r4, r5, r6, r7, ?_⟩
  obtain ⟨q1, q2, q3, q4, o⟩ := R.out
  have hP := pt_two hK a0 a1
  have hL := hP.lty (Or.inr (Or.inl rfl)) (Or.inr (Or.inr (Or.inl rfl)))
  refine ⟨⟨⟨_, _, v4, v5, v6, v7, _, _, x4, x5, x6, x7, hP.blk hX o (by decide) (by decide), q1, ⟨q2, q3, q4, by simp; omega, by simp; omega⟩, ⟨hP.row b0 o (by decide) (by decide), hP.row b1 o (by decide) (by decide), b2, by omega, by omega⟩, ⟨hP.row c0 o (by decide) (by decide), hP.row c1 o (by decide) (by decide), c2, by omega, by omega⟩⟩, h.em.off o hL, h.bel.trans (o.below h.bel.size fun q hq => ?_), h.lX, h.lK⟩, Kp.off o hL⟩
  rcases hq with rfl | hq | hq
  · exact h.lK
  · exact (ERow.lt a0 hq).1
  · exact (ERow.lt a1 hq).1
theorem ls_texts (h : LS W X K bv mk ke rm n w) (hn : n ≤ 900) (s0 s1 : Sl) : ∃ v0 v1 a0 n0 c0 w2 a1 n1 c1 w4, w.cell? ⟨K, 4, none⟩ = some v0 ∧ (Builtin.append_ #[62, 62] 62 #[v0, .slice (some ⟨w.heap.size, 0, none⟩) 1 1]).run Tryd.prog (w.alloc (.cells #[.slice s0.1 s0.2.1 s0.2.2] 37)) = .ok (.slice a0 n0 c0) w2 ∧
      w2.cell? ⟨K, 4, none⟩ = some v0 ∧ w2.frozen? ⟨K, 4, none⟩ = false ∧ (w2.setCell ⟨K, 4, none⟩ (.slice a0 n0 c0)).cell? ⟨K, 5, none⟩ = some v1 ∧
      (Builtin.append_ #[62, 62] 62 #[v1, .slice (some ⟨w2.heap.size, 0, none⟩) 1 1]).run Tryd.prog ((w2.setCell ⟨K, 4, none⟩ (.slice a0 n0 c0)).alloc (.cells #[.slice s1.1 s1.2.1 s1.2.2] 37)) = .ok (.slice a1 n1 c1) w4 ∧
      w4.cell? ⟨K, 5, none⟩ = some v1 ∧ w4.frozen? ⟨K, 5, none⟩ = false ∧ Hid (LS W X K bv mk ke rm (n + 1) (w4.setCell ⟨K, 5, none⟩ (.slice a1 n1 c1)) ∧ Kp w (w4.setCell ⟨K, 5, none⟩ (.slice a1 n1 c1))) := by
  obtain ⟨v0, v1, v4, v5, v6, v7, x0, x1, x4, x5, x6, x7, hX, hK, ⟨a0, a1, a2, a3, a4⟩, ⟨b0, b1, b2, b3, b4⟩, ⟨c0, c1, c2, c3, c4⟩⟩ := h.ex
  obtain ⟨p0, n0, d0, w2, p1, n1, d1, w4, r1, r2, r3, r4, r5, r6, r7, R⟩ := push2 (i := 4) Tryd.underlying62 celST (by decide) hK rfl rfl b0 b1 b2 (by omega) (by omega) h.bel.size s0 s1
  refine ⟨v4, v5, p0, n0, d0, w2, p1, n1, d1, w4, hcell hK 4, r1, r2, r3, r4, r5, r6, r7, ?_⟩
  obtain ⟨q1, q2, q3, q4, o⟩ := R.out
  have hP := pt_two hK b0 b1
  have hL := hP.lty (Or.inr (Or.inl rfl)) (Or.inr (Or.inr (Or.inr (Or.inl rfl))))
  refine ⟨⟨⟨v0, v1, _, _, v6, v7, x0, x1, _, _, x6, x7, hP.blk hX o (by decide) (by decide), q1, ⟨hP.row a0 o (by decide) (by decide), hP.row a1 o (by decide) (by decide), a2, by omega, by omega⟩, ⟨q2, q3, q4, by simp; omega, by simp; omega⟩, ⟨hP.row c0 o (by decide) (by decide), hP.row c1 o (by decide) (by decide), c2, by omega, by omega⟩⟩, h.em.off o hL, h.bel.trans (o.below h.bel.size fun q hq => ?_), h.lX, h.lK⟩, Kp.off o hL⟩
  rcases hq with rfl | hq | hq
  · exact h.lK
  · exact (ERow.lt b0 hq).1
  · exact (ERow.lt b1 hq).1
theorem ls_list (h : LS W X K bv mk ke rm n w) (hn : n ≤ 900) (s0 s1 : Sl) : ∃ v0 v1 a0 n0 c0 w2 a1 n1 c1 w4, w.cell? ⟨X, 6, none⟩ = some v0 ∧ (Builtin.append_ #[65, 65] 65 #[v0, .slice (some ⟨w.heap.size, 0, none⟩) 1 1]).run Tryd.prog (w.alloc (.cells #[.slice s0.1 s0.2.1 s0.2.2] 49)) = .ok (.slice a0 n0 c0) w2 ∧
      w2.cell? ⟨X, 6, none⟩ = some v0 ∧ w2.frozen? ⟨X, 6, none⟩ = false ∧ (w2.setCell ⟨X, 6, none⟩ (.slice a0 n0 c0)).cell? ⟨X, 7, none⟩ = some v1 ∧
      (Builtin.append_ #[65, 65] 65 #[v1, .slice (some ⟨w2.heap.size, 0, none⟩) 1 1]).run Tryd.prog ((w2.setCell ⟨X, 6, none⟩ (.slice a0 n0 c0)).alloc (.cells #[.slice s1.1 s1.2.1 s1.2.2] 49)) = .ok (.slice a1 n1 c1) w4 ∧
      w4.cell? ⟨X, 7, none⟩ = some v1 ∧ w4.frozen? ⟨X, 7, none⟩ = false ∧ Hid (LS W X K bv mk ke rm (n + 1) (w4.setCell ⟨X, 7, none⟩ (.slice a1 n1 c1)) ∧ Kp w (w4.setCell ⟨X, 7, none⟩ (.slice a1 n1 c1))) := by
  obtain ⟨v0, v1, v4, v5, v6, v7, x0, x1, x4, x5, x6, x7, hX, hK, ⟨a0, a1, a2, a3, a4⟩, ⟨b0, b1, b2, b3, b4⟩, ⟨c0, c1, c2, c3, c4⟩⟩ := h.ex
  obtain ⟨p0, n0, d0, w2, p1, n1, d1, w4, r1, r2, r3, r4, r5, r6, r7, R⟩ := push2 (i := 6) Tryd.underlying65 celSE (by decide) hX rfl rfl c0 c1 c2 (by omega) (by omega) h.bel.size s0 s1
  refine ⟨v6, v7, p0, n0, d0, w2, p1, n1, d1, w4, hcell hX 6, r1, r2, r3, r4, r5, r6, r7, ?_⟩
  obtain ⟨q1, q2, q3, q4, o⟩ := R.out
  have hP := pt_two hX c0 c1
  have hL := hP.lty (Or.inl rfl) (Or.inr (Or.inr (Or.inr (Or.inr rfl))))
  refine ⟨⟨⟨v0, v1, v4, v5, _, _, x0, x1, x4, x5, _, _, q1, hP.blk hK o (by decide) (by decide), ⟨hP.row a0 o (by decide) (by decide), hP.row a1 o (by decide) (by decide), a2, by omega, by omega⟩, ⟨hP.row b0 o (by decide) (by decide), hP.row b1 o (by decide) (by decide), b2, by omega, by omega⟩, ⟨q2, q3, q4, by simp; omega, by simp; omega⟩⟩, h.em.off o hL, h.bel.trans (o.below h.bel.size fun q hq => ?_), h.lX, h.lK⟩, Kp.off o hL⟩
  rcases hq with rfl | hq | hq
  · exact h.lX
  · exact (ERow.lt c0 hq).1
  · exact (ERow.lt c1 hq).1
end
end Go.Proofs.YtgoknmikpanhbaaDoor
