/-
  The program's link: half, waitsForAnother.
-/
import Derived.Test.YtpcickhellkiaaaDoorLpIter
namespace Go.Proofs.YtpcickhellkiaaaDoor
open Go.RowKit Go.Shelf

attribute [local go_sem] Oper.semAt_some

/-- A block of cells stays where blocks that hold none are turned. -/
theorem blk_own {X Y : World} {row : Option Nat} {B : Nat} {cs : Array Value} {t : TypeId} (h : X.heap[B]? = some (.cells cs t (0, 0))) (hg : X.grownBy Y row) (hr : ∀ r, row = some r → ∃ o : Obj, X.heap[r]? = some o ∧ o.isCells = false) : Y.heap[B]? = some (.cells cs t (0, 0)) := by
  refine (hg.block B (blk_lt h) fun e => ?_).trans h
  obtain ⟨o, ho, hc⟩ := hr B e.symm
  rw [h] at ho
  cases ho
  cases hc
theorem take_last {n k : Nat} {ini : List (Fin n)} {last : Fin n} (hk : k ≤ n) (e : (List.finRange n).take k = ini ++ [last]) : k = last.val + 1 ∧ ini = (List.finRange n).take last.val := by
  have hl : ((List.finRange n).take k).length = k := by rw [List.length_take]; simp; omega
  obtain ⟨j, rfl⟩ : ∃ j, k = j + 1 := by
    cases k with
    | zero => simp at e
    | succ j => exact ⟨j, rfl⟩
  rw [fin_take_succ (by omega)] at e
  obtain ⟨e1, e2⟩ := List.append_inj' e rfl
  have e3 : (⟨j, by omega⟩ : Fin n) = last := by simpa using e2
  subst e3
  exact ⟨rfl, e1.symm⟩
theorem mem_finTake {n k : Nat} {j : Fin n} (h : j.val < k) : j ∈ (List.finRange n).take k := by
  rw [List.mem_take_iff_getElem]
  exact ⟨j.val, by simp; omega, by simp⟩
/-- The walk has been left at a broken piece. -/
def HfX (ps : List Pp) (B : Nat) (c : Code) (pre : List (Fin ps.length)) (W : World) : Prop := c = .ret ∧ ∃ ini last, pre = ini ++ [last] ∧ (∀ j ∈ ini, ps[j].br = false) ∧ ps[last].br = true ∧ Boxed W B 3 (.int .i64 (last.val : Int))
theorem HfX.own (ps : List Pp) (B : Nat) (c : Code) : Own (HfX ps B c) := fun pre X Y row hs hg hr => by
  obtain ⟨hc, ini, last, e1, e2, e3, e4⟩ := hs
  exact ⟨hc, ini, last, e1, e2, e3, blk_own e4 hg hr⟩
section
variable {w w' : World} {lb s : Nat} {F : Nat → Prop} {x y : Dw}
set_option maxRecDepth 100000 in
set_option maxHeartbeats 4000000 in
theorem phalf_any (h : Lk w lb F x y) (hs : s < 2) : Calls Tryd.prog 36 #[.pointer (some ⟨lb, s, none⟩)] w fun e w' => e = .returned (.int .i64 (dwS x y s).h) ∧ Below w.heap.size w w' := by
  have hz := h.side s
  have hL := hz.lies
  have hlb := blk_lt h.blk
  have d0 := (h.cell hs).1
  have hn := hz.len
  have HB : Hid (∀ (j : Nat) (p : Pp), (dwS x y s).ps[j]? = some p → p.br = decide ((dwS x y s).h = (j : Int))) := hz.br
  have hh1 := hz.ok.h1
  have hh2 := hz.ok.h2
  rw [show (sdL (dwS x y s)).2 = (dwS x y s).h from rfl] at hh1 hh2
  rw [hn.2.1] at hh2
  rw [hn.1] at d0 hh2
  clear h hz hn
  generalize (dwS x y s).ps = ps at *
  generalize (dwS x y s).a = za at *
  generalize (dwS x y s).c = zc at *
  generalize (dwS x y s).h = zh at *
  refine (callsIn_wide (n := 4)).1 ?_
  have hro : Fence.wide.round = none := rfl
  have h1 : 1 ≤ 4 := by omega
  refine callsIn_of_wp_marks Tryd.func36 rfl trivial ?_ hro
  simp only [Tryd.ntmps36, List.size_toArray, List.length_cons, List.length_nil, Nat.reduceAdd, Nat.reduceSub, Array.replicate_succ, Array.replicate_zero, List.push_toArray, List.append_toArray, List.nil_append, List.cons_append]
  gi_wp2_with (refine ⟨trivial, ?_⟩; gi_at_call 37; refine (all_in Fence.wide (4 - 1) trivial hro _ _).mono ?_; rintro e w' ⟨rfl, rfl⟩)
  have bR := (Boxed.new w 3 (.int .i64 0)).alloc (.cells #[.pointer (some ⟨lb, s, none⟩)] 71)
  have bN := Boxed.new (w.alloc (.cells #[.int .i64 0] 3)) 71 (.pointer (some ⟨lb, s, none⟩))
  simp only [World.size_alloc] at bN
  have hB0 : Below w.heap.size w ((w.alloc (.cells #[.int .i64 0] 3)).alloc (.cells #[.pointer (some ⟨lb, s, none⟩)] 71)) := ((Below.refl _ w).alloc (Nat.le_refl _) _).alloc (by simp) _
  have hsz : ((w.alloc (.cells #[.int .i64 0] 3)).alloc (.cells #[.pointer (some ⟨lb, s, none⟩)] 71)).heap.size = w.heap.size + 2 := by simp
  obtain ⟨W0, hW0⟩ : ∃ W0, (w.alloc (.cells #[.int .i64 0] 3)).alloc (.cells #[.pointer (some ⟨lb, s, none⟩)] 71) = W0 := ⟨_, rfl⟩
  rw [hW0] at bR bN hB0 hsz ⊢
  clear hW0
  refine wpIn_rangeFunc_ownH hro h1 (gf := 63) (lb := #[.pointer (some ⟨w.heap.size + 1, 0, none⟩)]) rfl trivial (enters_of Tryd.func63 (by kernel_rfl) rfl)
    (all_stops Fence.wide (4 - 1) trivial hro (by omega) (w.heap.size + 1) w.heap.size lb s za zc ps W0 hlb (by omega) (by omega) bN.cell ((hB0.cell (p := ⟨lb, s, none⟩) hlb).trans d0) (hL.below hB0)) belowK_t (belowK_b (by omega)) (Below.refl _ _) (fun _ => rfl)
    (fun pre W => ((∀ j ∈ pre, ps[j].br = false) ∧ Boxed W w.heap.size 3 (.int .i64 0)) ∧ Below w.heap.size w W)
    (fun c pre W => HfX ps w.heap.size c pre W ∧ Below w.heap.size w W)
    (OwnFrom.and (OwnFrom.and (ownFrom_pure _ _) (Own.from (boxed_own _ _ _) _)) (ownFrom_below (Nat.le_refl _) (by omega)))
    (fun c => OwnFrom.and (Own.from (HfX.own ps w.heap.size c) _) (ownFrom_below (Nat.le_refl _) (by omega)))
    ⟨⟨by simp, bR⟩, hB0⟩
    (fun j a' W => ∃ Bx, w.heap.size < Bx ∧ W.heap[Bx]? = some (.cells #[.slice ps[j].a ps[j].n ps[j].c, .bool ps[j].br] 79 (0, 0)) ∧ a' = { tmps := #[.pointer (some ⟨lb, s, none⟩), undef, .pointer (some ⟨w.heap.size, 0, none⟩), .int .i64 (j.val : Int), .pointer (some ⟨Bx, 0, none⟩), .pointer (some ⟨lb, s, none⟩), .func (.func 63) #[] #[.pointer (some ⟨w.heap.size + 1, 0, none⟩)], .int .i64 (j.val : Int), .agg #[.slice ps[j].a ps[j].n ps[j].c, .bool ps[j].br], undef, undef, undef], defers := [] })
    (fun j a' _ X Y row hs hg hr => by obtain ⟨Bx, h1, h2, h3⟩ := hs; exact ⟨Bx, h1, blk_own h2 hg (fun r e => (hr r e).2), h3⟩)
    ?assign ?body ?done ?stop
  case assign =>
    rintro l pre j W K ⟨⟨hp, bR1⟩, hB1⟩ hK
    simp only [encs]
    gi_wp2
    exact hK _ _ ((KeepsOthers.alloc _ _).from _) ((Below.refl _ W).alloc hB1.size _) ⟨⟨hp, bR1.alloc _⟩, hB1.alloc hB1.size _⟩ ⟨W.heap.size, bR1.lt, World.alloc_heap_new W _, rfl⟩
  case body =>
    rintro l pre j a' W hl ⟨r, hr⟩ ⟨⟨hp, bR1⟩, hB1⟩ ⟨Bx, hBx, bX, rfl⟩ hlt
    have cR := bR1.cell
    have fR := bR1.frozen
    have cX := hcell bX 1
    simp only [List.getElem?_toArray, List.getElem?_cons_succ, List.getElem?_cons_zero] at cX
    by_cases hb : ps[j].br = true
    · rw [hb] at cX
      gi_wp2
      exact ⟨(KeepsOthers.setCell _ _ _).from _, ⟨rfl, pre, j, rfl, hp, hb, bR1.set _⟩, hB1.setCell (p := ⟨w.heap.size, 0, none⟩) (Nat.le_refl _) _⟩
    · rw [Bool.not_eq_true] at hb
      rw [hb] at cX
      gi_wp2
      exact ⟨KeepsFrom.refl _ _, Below.refl _ _, ⟨fun q hq => (List.mem_append.1 hq).elim (hp q) (fun e => by rw [List.mem_singleton] at e; subst e; exact hb), bR1⟩, hB1⟩
  case done =>
    rintro D ys W hD rfl ⟨⟨hp, bR1⟩, hB1⟩ hK
    have cR := bR1.cell
    have fR := bR1.frozen
    gi_wp2
    have hK' := (KeepsOthers.setCell W ⟨w.heap.size, 0, none⟩ (.int .i64 (-1))).same D _ hK rfl
    refine ⟨by simp, .inl ⟨_, _, rfl, run_takeDeferred hK', ?_⟩⟩
    have hc5 := cell_kept (bR1.set (.int .i64 (-1))).cell (grownBy_putObj' _ D (.deferred none)) (fun r e => by cases e; exact ⟨_, hK', rfl⟩)
    have hz : zh = -1 := by
      by_cases g : zh = -1
      · exact g
      · have hj : zh.toNat < ps.length := by omega
        have e1 := HB.out zh.toNat ps[zh.toNat] (List.getElem?_eq_getElem hj)
        have e2 := hp ⟨zh.toNat, hj⟩ (by simp)
        simp only [Fin.getElem_fin] at e2
        rw [e2] at e1
        have := of_decide_eq_false e1.symm
        omega
    refine ⟨.int .i64 (-1), ?_, by rw [hz], (hB1.setCell (p := ⟨w.heap.size, 0, none⟩) (Nat.le_refl _) _).trans (belowK_b (w := w) (Nat.le_refl _) _ D _ _ (by omega) hK' rfl rfl)⟩
    simp [results, Tryd.f36, go_sem, hc5]
  case stop =>
    rintro D c pre W hD ⟨k, hk, rfl⟩ ⟨⟨rfl, ini, last, e1, e2, e3, bR1⟩, hB1⟩ hK
    gi_wp2
    refine ⟨by simp, .inl ⟨_, _, rfl, run_takeDeferred hK, ?_⟩⟩
    have hc5 := cell_kept bR1.cell (grownBy_putObj' _ D (.deferred none)) (fun r e => by cases e; exact ⟨_, hK, rfl⟩)
    have hz : zh = (last.val : Int) := by
      have e5 := HB.out last.val ps[last.val] (List.getElem?_eq_getElem last.isLt)
      simp only [Fin.getElem_fin] at e3
      rw [e3] at e5
      exact of_decide_eq_true e5.symm
    refine ⟨.int .i64 (last.val : Int), ?_, by rw [hz], hB1.trans (belowK_b (w := w) (Nat.le_refl _) W D _ _ (by omega) hK rfl rfl)⟩
    simp [results, Tryd.f36, go_sem, hc5]
set_option maxRecDepth 100000 in
set_option maxHeartbeats 2000000 in
theorem waits_any (h : Lk w lb F x y) (hs : s < 2) (i : Int) : Calls Tryd.prog 34 #[.pointer (some ⟨lb, s, none⟩), .int .i64 i] w fun e w' => e = .returned (.bool ((dwS x y s).h != -1 && (dwS x y s).h != i)) ∧ Below w.heap.size w w' := by
  have HH := phalf_any h hs
  clear h
  generalize (dwS x y s).h = zh at *
  by_cases g : zh = -1
  · subst g
    go_enter Tryd.func34, Tryd.ntmps34
    go_wp2_with fail
    refine HH.mono ?_
    rintro _ w1 ⟨rfl, hb⟩
    have HB : Hid (Below w.heap.size w w1) := hb
    clear hb
    go_wp2_with fail
    go_ret
    exact ⟨rfl, HB.out⟩
  · have g1 : (zh != -1) = true := by simpa using g
    rw [g1, Bool.true_and]
    go_enter Tryd.func34, Tryd.ntmps34
    go_wp2_with fail
    refine HH.mono ?_
    rintro _ w1 ⟨rfl, hb⟩
    have HB : Hid (Below w.heap.size w w1) := hb
    clear hb
    go_wp2_with fail
    go_ret
    exact ⟨rfl, HB.out⟩
end
end Go.Proofs.YtpcickhellkiaaaDoor
