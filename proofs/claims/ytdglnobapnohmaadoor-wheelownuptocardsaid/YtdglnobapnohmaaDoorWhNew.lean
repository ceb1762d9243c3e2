/-
  wheel.New.
-/
import Derived.Test.YtdglnobapnohmaaDoorWhAll
import Derived.Carry
namespace Go.Proofs.YtdglnobapnohmaaDoor
open Go.RowKit

/-- The cells of new timers. -/
def newCs (now : Int) (M : Nat) : Array Value := #[.int .i64 now] ++ Array.replicate 448 (.slice none 0 0) ++ #[.map (some M)]
theorem newCs_size (now : Int) (M : Nat) : (newCs now M).size = 450 := by simp [newCs]
theorem build_new (now : Int) (M : Nat) (w : World) : (Instr.build 53 #[(0, .int .i64 now), (2, .map (some M))]).run Tryd.prog w = .ok (.agg (newCs now M)) w := by kernel_rfl
theorem box_new (cs : Array Value) (w : World) : (Instr.box 53 (.agg cs)).run Tryd.prog w = .ok (.pointer (some ⟨w.heap.size, 0, none⟩)) (w.alloc (.cells cs 53)) := by rfl
theorem wpList_build_run {P : Program} {w : World} {ops : Array Oper} {rest : List Oper} {o : Oper} {a : Act} {Q : Exit → Act → World → Prop} (hgd : o.guard = none) (t : TypeId) (i0 i1 : Nat) (x0 x1 : Operand) (ho : o.op = .build t #[(i0, x0), (i1, x1)]) {v0 v1 v : Value} (h0 : a.eval x0 = v0) (h1 : a.eval x1 = v1) (hr : (Instr.build t #[(i0, v0), (i1, v1)]).run P w = .ok v w) (h : wpList P ops Q rest (a.put o.dst v) w) : wpList P ops Q (o :: rest) a w :=
  wpList_plain hgd fun _ hK => by
    unfold Oper.wp execOp
    simp only [ho, Sem.run_bind, Sem.run_pure, Result.andThen_ok, List.map_toArray, List.map_cons, List.map_nil, h0, h1, hr]
    exact hK _ _ h
set_option maxRecDepth 100000 in
set_option maxHeartbeats 1000000 in
theorem new_ok {now : Nat} (w : World) (hn : now ≤ MaxT) : Calls Tryd.prog 4 #[.int .i64 (now : Int)] w fun e w' => e = .returned (.tuple #[.pointer (some ⟨w.heap.size + 1 + 1, 0, none⟩), .nilIface]) ∧ w' = ((w.alloc (.map #[] 0)).alloc (.cells (newCs now w.heap.size) 53)).alloc (.cells #[.pointer (some ⟨w.heap.size + 1, 0, none⟩)] 55) := by
  unfold MaxT at hn
  have h1 : ¬ (now : Int) < 0 := by omega
  have h2 : ¬ (now : Int) > 1099511627776 := by omega
  have h3 : decide ((now : Int) < 0) = false := decide_eq_false h1
  have hmm := @run_makeMap Tryd.prog
  have hb := build_new (now : Int) w.heap.size
  generalize newCs now w.heap.size = cs at hb ⊢
  go_enter Tryd.func4, Tryd.ntmps4
  go_wp2_with (refine wpList_build_run rfl 53 0 2 (.tmp 11) (.tmp 12) rfl (v0 := .int .i64 (now : Int)) (v1 := .map (some w.heap.size)) (v := .agg cs) ?_ ?_ (hb _) ?_; (rfl); (rfl))
  refine bodyPost_ret ?_ rfl ⟨rfl, rfl⟩
  simp [results, Tryd.results4, go_sem]
set_option maxHeartbeats 1000000 in
theorem new_no {now : Int} (w : World) (hn : now < 0 ∨ 1099511627776 < now) : Calls Tryd.prog 4 #[.int .i64 now] w fun e w' => ∃ b, e = .returned (.tuple #[.pointer none, .iface 56 (.pointer (some ⟨b, 0, none⟩))]) ∧ Below w.heap.size w w' := by
  have hb : ∀ o, Below w.heap.size w (w.alloc o) := fun o => (Below.refl _ _).alloc (Nat.le_refl _) _
  rcases (by omega : now < 0 ∨ (¬ now < 0 ∧ now > 1099511627776)) with h | ⟨h, h1⟩
  · have h3 : decide (now < 0) = true := decide_eq_true h
    go_enter Tryd.func4, Tryd.ntmps4
    go_wp2_with (go_at_call 10; refine (fault_any _ _).mono ?_; rintro _ w9 ⟨rfl, h9⟩; subst w9)
    refine bodyPost_ret ?_ rfl ⟨w.heap.size, rfl, hb _⟩
    simp [results, Tryd.results4, go_sem]
  · have h3 : decide (now < 0) = false := decide_eq_false h
    go_enter Tryd.func4, Tryd.ntmps4
    go_wp2_with (go_at_call 10; refine (fault_any _ _).mono ?_; rintro _ w9 ⟨rfl, h9⟩; subst w9)
    refine bodyPost_ret ?_ rfl ⟨w.heap.size, rfl, hb _⟩
    simp [results, Tryd.results4, go_sem]
/-! ### a wheel -/
/-- A wheel in memory: block W; its clock, its timers in order, its blocks F. -/
def Whl (w : World) (B W now : Nat) (S : List Tm) (F : Nat → Prop) : Prop :=
  ∃ T M v L f n, w.heap[W]? = some (.cells #[.pointer (some ⟨T, 0, none⟩)] 55 (0, 0)) ∧ B ≤ W ∧ Tms w B T M now v L f n ∧ Ok now L f n [] ∧ Held now S ∧ (allL L).Perm S ∧ S.length ≤ 4096 ∧ ∀ q, F q ↔ (q = W ∨ Ft T M v q)
theorem blk_lt {w : World} {W : Nat} {o : Obj} (h : w.heap[W]? = some o) : W < w.heap.size := by
  rcases Nat.lt_or_ge W w.heap.size with g | g
  · exact g
  · rw [Array.getElem?_eq_none g] at h; cases h
section
variable {w w' : World} {B W now : Nat} {S : List Tm} {F : Nat → Prop}
theorem Whl.foot (h : Whl w B W now S F) {q : Nat} (hq : F q) : B ≤ q ∧ q < w.heap.size := by
  obtain ⟨T, M, v, L, f, n, hW, hB, hT, _, _, _, _, hF⟩ := h
  rcases (hF q).1 hq with rfl | hq
  · exact ⟨hB, blk_lt hW⟩
  · exact hT.lt hq
theorem Whl.off {P : Nat → Prop} (h : Whl w B W now S F) (o : Off P w w') (hP : ∀ q, F q → ¬ P q) : Whl w' B W now S F := by
  obtain ⟨T, M, v, L, f, n, hW, hB, hT, hk, hh, hp, hl, hF⟩ := h
  exact ⟨T, M, v, L, f, n, (o.block W (blk_lt hW) (hP W ((hF W).2 (Or.inl rfl)))).trans hW, hB, hT.off o (fun q hq => hP q ((hF q).2 (Or.inr hq))), hk, hh, hp, hl, hF⟩
theorem Whl.below (h : Whl w B W now S F) (hb : Below w.heap.size w w') : Whl w' B W now S F := h.off (Off.of_below (P := fun _ => False) hb) (fun _ _ => id)
theorem Whl.held (h : Whl w B W now S F) : Held now S ∧ S.length ≤ 4096 := by
  obtain ⟨_, _, _, _, _, _, _, _, _, _, hh, _, hl, _⟩ := h
  exact ⟨hh, hl⟩
theorem Whl.low {B' : Nat} (h : Whl w B W now S F) (hB : ∀ q, F q → B' ≤ q) : Whl w B' W now S F := by
  obtain ⟨T, M, v, L, f, n, hW, _, hT, hk, hh, hp, hl, hF⟩ := h
  refine ⟨T, M, v, L, f, n, hW, hB W ((hF W).2 (Or.inl rfl)), ⟨⟨hB T ((hF T).2 (Or.inr (Or.inl rfl))), hB M ((hF M).2 (Or.inr (Or.inr (Or.inl rfl))))⟩, hT.tb, fun i hi => ?_, hT.inj, hT.mp⟩, hk, hh, hp, hl, hF⟩
  have hr := hT.row i hi
  refine ⟨hr.1, ?_⟩
  rcases hr.2 with h1 | ⟨g, cap, cur, e1, hb, rest⟩
  · exact Or.inl h1
  · exact Or.inr ⟨g, cap, cur, e1, hB g ((hF g).2 (Or.inr (Or.inr (Or.inr ⟨i, hi, by rw [e1]; rfl⟩)))), rest⟩
end
/-- New: a wheel without timers. -/
theorem new_whl {now : Nat} (w : World) (hn : now ≤ MaxT) : Calls Tryd.prog 4 #[.int .i64 (now : Int)] w fun e w' => e = .returned (.tuple #[.pointer (some ⟨w.heap.size + 1 + 1, 0, none⟩), .nilIface]) ∧ ∃ F, Whl w' w.heap.size (w.heap.size + 1 + 1) now [] F ∧ Below w.heap.size w w' ∧ ∀ q, F q → w.heap.size ≤ q := by
  refine (new_ok w hn).mono ?_
  rintro e w' ⟨he, rfl⟩
  have b1 : Below w.heap.size w (((w.alloc (.map #[] 0)).alloc (.cells (newCs now w.heap.size) 53)).alloc (.cells #[.pointer (some ⟨w.heap.size + 1, 0, none⟩)] 55)) := (((Below.refl _ _).alloc (Nat.le_refl _) _).alloc (by simp) _).alloc (by simp; omega) _
  have hg : ∀ a b c : Obj, (((w.alloc a).alloc b).alloc c).heap[w.heap.size]? = some a ∧ (((w.alloc a).alloc b).alloc c).heap[w.heap.size + 1]? = some b ∧ (((w.alloc a).alloc b).alloc c).heap[w.heap.size + 1 + 1]? = some c := fun a b c => by
    refine ⟨?_, ?_, ?_⟩
    · show (((w.heap.push a).push b).push c)[w.heap.size]? = _
      rw [Array.getElem?_push, if_neg (by simp; omega), Array.getElem?_push, if_neg (by simp), Array.getElem?_push, if_pos rfl]
    · show (((w.heap.push a).push b).push c)[w.heap.size + 1]? = _
      rw [Array.getElem?_push, if_neg (by simp), Array.getElem?_push, if_pos (by simp)]
    · show (((w.heap.push a).push b).push c)[w.heap.size + 1 + 1]? = _
      rw [Array.getElem?_push, if_pos (by simp)]
  obtain ⟨g0, g1, g2⟩ := hg (.map #[] 0) (.cells (newCs now w.heap.size) 53) (.cells #[.pointer (some ⟨w.heap.size + 1, 0, none⟩)] 55)
  generalize ((w.alloc (.map #[] 0)).alloc (.cells (newCs now w.heap.size) 53)).alloc (.cells #[.pointer (some ⟨w.heap.size + 1, 0, none⟩)] 55) = Z at *
  have hm : MapF Z w.heap.size (fun _ => none) 0 := by
    have h1 := MapF.made w
    have h2 : (w.alloc (.map #[] 0)).heap[w.heap.size]? = some (.map #[] 0) := by
      show (w.heap.push _)[w.heap.size]? = _
      simp
    exact h1.keep (by rw [g0, h2])
  refine ⟨he, fun q => q = w.heap.size + 1 + 1 ∨ Ft (w.heap.size + 1) w.heap.size (fun _ => .slice none 0 0) q, ⟨w.heap.size + 1, w.heap.size, fun _ => .slice none 0 0, fun _ => [], fun _ => none, 0, g2, by omega, ⟨⟨by omega, Nat.le_refl _⟩, ⟨newCs now w.heap.size, g1, newCs_size _ _, ?_, fun i hi => ?_, ?_⟩, fun i _ => ERow.nil _ _ _ _ _, fun i j g _ _ e => (by cases e), hm⟩, ok_new now, ⟨List.Pairwise.nil, List.Pairwise.nil, fun x hx => (by cases hx), hn⟩, ?_, by simp, fun q => Iff.rfl⟩, b1, fun q hq => ?_⟩
  · unfold newCs
    rw [Array.getElem?_append_left (by simp), Array.getElem?_append_left (by simp)]
    rfl
  · unfold newCs
    rw [Array.getElem?_append_left (by simp; omega), Array.getElem?_append_right (by simp)]
    simp [hi]
  · unfold newCs
    rw [Array.getElem?_append_right (by simp)]
    simp
  · unfold allL pick; simp
  · rcases hq with hq | hq | hq | ⟨i, _, e⟩
    · omega
    · omega
    · omega
    · cases e
end Go.Proofs.YtdglnobapnohmaaDoor
