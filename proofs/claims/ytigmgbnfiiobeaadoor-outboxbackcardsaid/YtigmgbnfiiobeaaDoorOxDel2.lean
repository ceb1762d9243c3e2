/-
  slices.Delete of one message, walked; remove.
-/
import Derived.Test.YtigmgbnfiiobeaaDoorOxDel
namespace Go.Proofs.YtigmgbnfiiobeaaDoor
open Go.RowKit

set_option maxRecDepth 100000 in
set_option maxHeartbeats 2000000 in
theorem delete_any {w : World} {g k c i : Nat} {ms : List Msg} (h : ERow w 0 49 10 encM (.slice (some ⟨g, 0, none⟩) (k + 1) c) ms) (hi : i ≤ k) (hk : k < 32) :
    Calls Tryd.prog 57 #[.slice (some ⟨g, 0, none⟩) (k + 1) c, .int .i64 (i : Int), .int .i64 ((i : Int) + 1)] w fun e w' => e = .returned (.slice (some ⟨g, 0, none⟩) k c) ∧ ERow w' 0 49 10 encM (.slice (some ⟨g, 0, none⟩) k c) (ms.eraseIdx i) ∧ Off (fun q => q = g) w w' := by
  have hc : k + 1 ≤ c ∧ c ≤ maxLen := by
    rcases h.form with ⟨e, _⟩ | ⟨g', cap, e, _, _, h1, h2⟩
    · cases e
    · simp only [Value.slice.injEq] at e; have := h.len; omega
  obtain ⟨hc1, hc2⟩ := hc
  unfold maxLen at hc2
  obtain ⟨A, hA⟩ : ∃ A : Addr, (if c = i + 1 then (⟨g, 0, none⟩ : Addr) else ⟨g, (i + 1) * 10, none⟩) = A := ⟨_, rfl⟩
  obtain ⟨w1, w2, r1, r2, hr, ho⟩ := del_runs h hi A (fun hik => by rw [← hA, if_neg (by omega)])
  have HE : Hid (ERow w2 0 49 10 encM (.slice (some ⟨g, 0, none⟩) k c) (ms.eraseIdx i) ∧ Off (fun q => q = g) w w2) := ⟨hr, ho⟩
  clear hr ho h
  have q1 : (i : Int) ≤ k := by omega
  have q2 : (i : Int) + 1 ≤ (k : Int) + 1 := by omega
  have q3 : (k : Int) + 1 ≤ c := by omega
  have q5 : ((i : Int) == (i : Int) + 1) = false := by
    rw [beq_eq_false_iff_ne]; omega
  have q6 : i ≤ c := by omega
  have q7 : i + 1 ≤ c := by omega
  have q8 : (i : Int) ≤ (i : Int) + 1 := by omega
  have q9 : (i : Int) ≤ c := by omega
  have q10 : (0 : Int) ≤ (i : Int) + 1 := by omega
  have q11 : (0 : Int) ≤ (k : Int) + 1 := by omega
  by_cases hce : c = i + 1
  · rw [if_pos hce] at hA
    subst hA
    obtain rfl : k = i := by omega
    subst hce
    rw [Nat.sub_self] at r1
    go_enter Tryd.func57, Tryd.ntmps57
    go_wp2_with fail
    go_region_law (first | (refine step_app_run rfl (.tmp 22) (.tmp 25) 42 rfl rfl rfl (r1 _) ?_))
    all_goals
      go_wp2_with (at_builtin; refine wpList_clear_run rfl (.tmp 31) 42 _ rfl (r2 _) ?_)
      go_ret
      exact ⟨rfl, HE.out.1, HE.out.2⟩
  · rw [if_neg hce] at hA
    subst hA
    go_enter Tryd.func57, Tryd.ntmps57
    go_wp2_with fail
    go_region_law (first | (refine step_app_run rfl (.tmp 22) (.tmp 25) 42 rfl rfl rfl (r1 _) ?_))
    all_goals
      go_wp2_with (at_builtin; refine wpList_clear_run rfl (.tmp 31) 42 _ rfl (r2 _) ?_)
      go_ret
      exact ⟨rfl, HE.out.1, HE.out.2⟩
set_option maxRecDepth 100000 in
set_option maxHeartbeats 2000000 in
theorem remove_any {w : World} {kb i : Nat} {v : Value} {ms : List Msg} (h : Kd w kb v ms) (s : ByteArray) (hf : fi s ms = some i) : Calls Tryd.prog 47 #[.pointer (some ⟨kb, 0, none⟩), .string s] w fun e w' => e = .returned (.tuple #[]) ∧ KdQ w kb v (delS s ms) w' := by
  have hdel : delS s ms = ms.eraseIdx i := by unfold delS; rw [hf]
  have hfI : fiI s ms = i := by unfold fiI; rw [hf]
  rw [hdel]
  obtain ⟨m0, hm0, _⟩ := fi_some hf
  have hil := (List.getElem?_eq_some_iff.1 hm0).1
  obtain ⟨a, c, rfl, _⟩ := h.2.1.isSlice
  obtain ⟨g, rfl, hg, _⟩ := erow_cells h.2.1 hm0
  have hne := h.ne (g := g) rfl
  have hpl := place_any h s
  rw [hfI] at hpl
  obtain ⟨k, hk⟩ : ∃ k, ms.length = k + 1 := ⟨ms.length - 1, by omega⟩
  have HN : Hid (ms.length = k + 1) := hk
  have hk32 : k < 32 := by have := h.2.2; omega
  rw [hk] at h hil ⊢
  have HK : Hid (Kd w kb (.slice (some ⟨g, 0, none⟩) (k + 1) c) ms) := h
  clear h hdel hf hm0 hk hfI
  have q1 : ¬ (i : Int) < 0 := by omega
  go_enter Tryd.func47, Tryd.ntmps47
  go_wp2_with fail
  refine hpl.mono ?_
  rintro _ w1 ⟨rfl, hb1⟩
  have HB1 : Hid (Below w.heap.size w w1) := hb1
  have HK1 : Hid (Kd w1 kb (.slice (some ⟨g, 0, none⟩) (k + 1) c) ms) := HK.out.below hb1
  clear hpl hb1 HK
  have k1 := hcell HK1.out.1 1
  have hdl := delete_any (i := i) HK1.out.2.1 (by omega) hk32
  go_wp2_with fail
  refine hdl.mono ?_
  rintro _ w2 ⟨rfl, hr2, ho2⟩
  have hk2 : w2.heap[kb]? = some (.cells #[.func (.func 17) #[] #[], .slice (some ⟨g, 0, none⟩) (k + 1) c] 71 (0, 0)) := (ho2.block kb (blk_lt HK1.out.1) (fun e => hne e.symm)).trans HK1.out.1
  have e1 := hcell hk2 1
  have f1 := hfroz hk2 1
  have HZ : Hid (KdQ w kb (.slice (some ⟨g, 0, none⟩) (k + 1) c) (ms.eraseIdx i) (w2.setCell ⟨kb, 1, none⟩ (.slice (some ⟨g, 0, none⟩) k c))) := by
    have o4 : Off (fun q => q = kb ∨ some g = some q) w1 (w2.setCell ⟨kb, 1, none⟩ (.slice (some ⟨g, 0, none⟩) k c)) := Off.setCell (P := fun q => q = kb ∨ some g = some q) (ho2.mono fun q e => Or.inr (by rw [e])) (p := ⟨kb, 1, none⟩) (Or.inl rfl) _
    refine KdQ.of_below HB1.out ⟨.slice (some ⟨g, 0, none⟩) k c, ⟨set_heap hk2 1 _, ?_, by rw [List.length_eraseIdx, HN.out]; split <;> omega⟩, o4, fun q e => Or.inl e⟩
    exact ERow.keep hr2 fun q e => Below.heap_setCell _ _ _ q fun e' => by
      have : g = q := by simpa [Value.ownBlock] using e
      exact hne (this.trans e')
  clear hdl hr2 ho2 k1 hk2 hne
  go_wp2_with fail
  go_end0
  exact ⟨rfl, HZ.out⟩
end Go.Proofs.YtigmgbnfiiobeaaDoor
