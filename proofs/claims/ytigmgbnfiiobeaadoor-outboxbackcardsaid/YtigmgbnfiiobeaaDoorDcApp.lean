import Derived.Test.YtigmgbnfiiobeaaDoorDcPa
import Derived.Test.YtigmgbnfiiobeaaDoorDcOpen
/-
  The program's refuse, refusal, areTries, owedBy, sent, begin.
-/
namespace Go.Proofs.YtigmgbnfiiobeaaDoor
open Go.RowKit

theorem isCond_any (n : Int) (w : World) : Calls Tryd.prog 54 #[.int .i64 n] w fun r w' => r = .returned (.bool (decide (0 ≤ n) && decide (n < 4))) ∧ w' = w := by
  go_enter Tryd.func54, Tryd.ntmps54
  go_wp2
  all_goals (go_ret; exact ⟨ret_bool (by rw [Bool.eq_iff_iff]; simp; try (first | omega | (intros; omega))), rfl⟩)
theorem areTries_any (n : Int) (w : World) : Calls Tryd.prog 41 #[.int .i64 n] w fun r w' => r = .returned (.bool (decide (0 ≤ n ∧ n ≤ 16))) ∧ w' = w := by
  go_enter Tryd.func41, Tryd.ntmps41
  go_wp2
  all_goals (go_ret; exact ⟨ret_bool (by rw [Bool.eq_iff_iff]; simp; try (first | omega | (intros; omega))), rfl⟩)
set_option maxHeartbeats 1000000 in
theorem refuse_ok (e : Bool) (a p : Int) (w : World) (h : okB e a p = true) : Calls Tryd.prog 40 #[.agg #[.bool e, .int .i64 a, .int .i64 p]] w fun r w' => r = .returned .nilIface ∧ Below w.heap.size w w' := by
  obtain ⟨h1, h2, h3, h4, h5⟩ := ok_of h
  have c1 : ∀ w, Calls Tryd.prog 54 #[.int .i64 a] w fun r w' => r = .returned (.bool true) ∧ w' = w := fun w => by
    have := isCond_any a w; rw [show (decide (0 ≤ a) && decide (a < 4)) = true by simp; omega] at this; exact this
  have c2 : ∀ w, Calls Tryd.prog 54 #[.int .i64 p] w fun r w' => r = .returned (.bool true) ∧ w' = w := fun w => by
    have := isCond_any p w; rw [show (decide (0 ≤ p) && decide (p < 4)) = true by simp; omega] at this; exact this
  clear h
  cases e with
  | true =>
    clear h1 h2 h3 h4 h5
    go_enter Tryd.func40, Tryd.ntmps40
    go_wp2_with fail
    refine (c1 _).mono ?_
    rintro _ w1 ⟨rfl, rfl⟩
    go_wp2_with fail
    refine (c2 _).mono ?_
    rintro _ w2 ⟨rfl, rfl⟩
    go_wp2_with fail
    go_ret
    exact ⟨rfl, (Below.refl _ _).alloc (Nat.le_refl _) _⟩
  | false =>
    obtain ⟨rfl, rfl⟩ : a = 0 ∧ p = 0 := by rcases h5 with h5 | h5; cases h5; exact h5
    clear h1 h2 h3 h4 h5 c1 c2
    go_enter Tryd.func40, Tryd.ntmps40
    go_wp2_with fail
    go_ret
    exact ⟨rfl, (Below.refl _ _).alloc (Nat.le_refl _) _⟩
set_option maxHeartbeats 1000000 in
theorem refuse_no (e : Bool) (a p : Int) (w : World) (h : okB e a p = false) : Calls Tryd.prog 40 #[.agg #[.bool e, .int .i64 a, .int .i64 p]] w (FltQ 0 220 w) := by
  have fl := pfault_ex 0 220
  have ho : ¬ (0 ≤ a ∧ a ≤ 3 ∧ 0 ≤ p ∧ p ≤ 3 ∧ (e = true ∨ (a = 0 ∧ p = 0))) := fun g => by
    have : okB e a p = true := by unfold okB; obtain ⟨g1, g2, g3, g4, g5⟩ := g; simp [g1, g2, g3, g4]; exact g5
    rw [h] at this; cases this
  clear h
  have i1 := isCond_any a
  have i2 := isCond_any p
  cases e with
  | true =>
    cases ha : (decide (0 ≤ a) && decide (a < 4)) with
    | false =>
      rw [ha] at i1
      clear i2 ho ha
      go_enter Tryd.func40, Tryd.ntmps40
      go_wp2_with fail
      refine (i1 _).mono ?_
      rintro _ w1 ⟨rfl, rfl⟩
      go_wp2_with fail
      refine (fl _).mono ?_
      rintro _ w2 ⟨b, rfl, hf, hb⟩
      have HF : Hid (DFault w2 b 0 220 ∧ Below _ _ w2) := ⟨hf, hb⟩
      clear hf hb
      go_wp2_with fail
      go_ret
      exact ⟨_, rfl, HF.out.1, below_then ((Below.refl _ _).alloc (Nat.le_refl _) _) HF.out.2⟩
    | true =>
      have hp : (decide (0 ≤ p) && decide (p < 4)) = false := by simp at ha ⊢; intro; false_or_by_contra; exact ho ⟨by omega, by omega, by omega, by omega, Or.inl rfl⟩
      rw [ha] at i1
      rw [hp] at i2
      clear ho ha hp
      go_enter Tryd.func40, Tryd.ntmps40
      go_wp2_with fail
      refine (i1 _).mono ?_
      rintro _ w1 ⟨rfl, rfl⟩
      go_wp2_with fail
      refine (i2 _).mono ?_
      rintro _ w1 ⟨rfl, rfl⟩
      go_wp2_with fail
      refine (fl _).mono ?_
      rintro _ w2 ⟨b, rfl, hf, hb⟩
      have HF : Hid (DFault w2 b 0 220 ∧ Below _ _ w2) := ⟨hf, hb⟩
      clear hf hb
      go_wp2_with fail
      go_ret
      exact ⟨_, rfl, HF.out.1, below_then ((Below.refl _ _).alloc (Nat.le_refl _) _) HF.out.2⟩
  | false =>
    clear i1 i2
    by_cases ha : a = 0
    · subst ha
      have hp : ¬ p = 0 := fun g => ho (by subst g; exact ⟨by omega, by omega, by omega, by omega, Or.inr ⟨rfl, rfl⟩⟩)
      clear ho
      go_enter Tryd.func40, Tryd.ntmps40
      go_wp2_with fail
      refine (fl _).mono ?_
      rintro _ w2 ⟨b, rfl, hf, hb⟩
      have HF : Hid (DFault w2 b 0 220 ∧ Below _ _ w2) := ⟨hf, hb⟩
      clear hf hb
      go_wp2_with fail
      go_ret
      exact ⟨_, rfl, HF.out.1, below_then ((Below.refl _ _).alloc (Nat.le_refl _) _) HF.out.2⟩
    · clear ho
      go_enter Tryd.func40, Tryd.ntmps40
      go_wp2_with fail
      refine (fl _).mono ?_
      rintro _ w2 ⟨b, rfl, hf, hb⟩
      have HF : Hid (DFault w2 b 0 220 ∧ Below _ _ w2) := ⟨hf, hb⟩
      clear hf hb
      go_wp2_with fail
      go_ret
      exact ⟨_, rfl, HF.out.1, below_then ((Below.refl _ _).alloc (Nat.le_refl _) _) HF.out.2⟩
end Go.Proofs.YtigmgbnfiiobeaaDoor

/-
  append of one list of acts to another; right by functions; the verdict's code.
-/
namespace Go.Proofs.YtigmgbnfiiobeaaDoor
open Go.RowKit

theorem aflat_len (l : ActL) : (l.flatMap acells).length = l.length * 2 := by
  induction l with
  | nil => rfl
  | cons y r ih => rw [List.flatMap_cons, List.length_append, ih, List.length_cons]; simp [acells]; omega
theorem aflat_one {l : ActL} {u : Value} (h : u ∈ l.flatMap acells) : u.oneCell' = true := by
  obtain ⟨y, _, hy⟩ := List.mem_flatMap.1 h
  simp only [acells, List.mem_cons, List.not_mem_nil, or_false] at hy
  rcases hy with rfl | rfl <;> rfl
theorem aflat_split (l : ActL) {j : Nat} {u : Value} (h : (l.flatMap acells)[j]? = some u) : ∃ k y, l[k]? = some y ∧ ((j = k * 2 ∧ u = .int .i64 y.1) ∨ (j = k * 2 + 1 ∧ u = .string y.2)) := by
  have hj : j < l.length * 2 := by rw [← aflat_len]; exact (List.getElem?_eq_some_iff.1 h).1
  obtain ⟨y, hy⟩ : ∃ y, l[j / 2]? = some y := ⟨_, List.getElem?_eq_getElem (by omega)⟩
  refine ⟨j / 2, y, hy, ?_⟩
  rcases (by omega : j = j / 2 * 2 ∨ j = j / 2 * 2 + 1) with e | e
  · have := aflat_get l (j / 2) y hy 0 (by omega)
    rw [Nat.add_zero, ← e, h] at this
    exact Or.inl ⟨e, by simpa [acells] using this⟩
  · have := aflat_get l (j / 2) y hy 1 (by omega)
    rw [← e, h] at this
    exact Or.inr ⟨e, by simpa [acells] using this⟩
/-- Some more acts. -/
theorem run_aapp {w : World} {B N : Nat} {v x : Value} {xs ys : ActL} (h : ActRow w B v xs) (hB : B ≤ w.heap.size) (hx : Acts w N x ys) (hl : xs.length + ys.length ≤ 100) :
    ∃ a c w', (Builtin.append_ #[84, 84] 84 #[v, x]).run Tryd.prog w = .ok (.slice a (xs.length + ys.length) c) w' ∧ ActRow w' B (.slice a (xs.length + ys.length) c) (xs ++ ys) ∧ Below B w w' := by
  obtain ⟨i, z, hi, hz, hzs, hs, hby⟩ := actinfo
  obtain ⟨po, cap, rfl, hcap, hc⟩ := hx
  cases po with
  | none =>
    have hy : ys = [] := by
      cases ys with
      | nil => rfl
      | cons y r => obtain ⟨b, o, e, _⟩ := hc 0 y rfl; cases e
    subst hy
    obtain ⟨a, c, rfl, hac⟩ := h.isSlice
    refine ⟨a, c, w, ?_, by simpa using h, Below.refl _ _⟩
    cases a with
    | none => simp [Builtin.append_, run_underlying Tryd.underlying84, sizeOf, typeInfo, hi, Builtin.lenOf, Builtin.firstCells, hac]
    | some a => simp [Builtin.append_, run_underlying Tryd.underlying84, sizeOf, typeInfo, hi, Builtin.lenOf, Builtin.firstCells, hac, storeCells]
  | some a =>
    obtain ⟨v', w', hr, r, hg, _⟩ := run_append_own (P := Tryd.prog) w B 84 84 57 i z 2 24 Tryd.underlying84 hi hz hs hby hzs (by omega) v xs.length (xs.flatMap acells) h a ys.length cap (ys.flatMap acells) (aflat_len ys) (fun j u hu => by
        obtain ⟨k, y, hk, hh⟩ := aflat_split ys hu
        obtain ⟨b, o, e, _, _, c0, c1⟩ := hc k y hk
        obtain rfl : a = ⟨b, o, none⟩ := by simpa using e
        rcases hh with ⟨rfl, rfl⟩ | ⟨rfl, rfl⟩
        · rw [Addr.add_lit]; exact c0
        · rw [Addr.add_lit, ← Nat.add_assoc]; exact c1) (fun u hu => aflat_one hu) (by unfold maxLen; omega) (by omega) hB
    have hR : ActRow w' B v' (xs ++ ys) := by
      unfold ActRow
      rw [List.length_append, List.flatMap_append]
      exact r
    obtain ⟨a', c', rfl, _⟩ := hR.isSlice
    rw [List.length_append] at hr hR
    refine ⟨a', c', w', hr, hR, below_grown hg hB (fun g e => ?_)⟩
    rcases h.2 with ⟨rfl, h0⟩ | ⟨g', cap', cur, rfl, hbg, _⟩
    · cases e
    · simp [Value.ownBlock] at e; omega
theorem ActRow.empty (w : World) (B b : Nat) (hb : w.heap.size = b) (hB : B ≤ b) : ActRow (w.alloc (.cells #[] 57)) B (.slice (some ⟨b, 0, none⟩) 0 0) [] := by
  subst hb
  refine ⟨rfl, Or.inr ⟨w.heap.size, 0, #[], rfl, hB, ?_, Nat.le_refl _, by unfold maxLen; omega, rfl, rfl⟩⟩
  show (w.heap.push _)[w.heap.size]? = _
  simp
/-- A beginning of a list. -/
theorem Acts.take {w : World} {N : Nat} {po : Option Addr} {n cap : Nat} {l : ActL} (h : Acts w N (.slice po n cap) l) (m : Nat) (hm : m ≤ n) : Acts w N (.slice po m cap) (l.take m) := by
  obtain ⟨po', cap', e, hc, hl⟩ := h
  obtain ⟨rfl, rfl, rfl⟩ : po = po' ∧ n = l.length ∧ cap = cap' := by simpa using e
  refine ⟨po, cap, by rw [List.length_take, Nat.min_eq_left hm], by rw [List.length_take]; omega, fun j y hj => hl j y ?_⟩
  rw [List.getElem?_take] at hj
  split at hj
  · exact hj
  · cases hj
end Go.Proofs.YtigmgbnfiiobeaaDoor
