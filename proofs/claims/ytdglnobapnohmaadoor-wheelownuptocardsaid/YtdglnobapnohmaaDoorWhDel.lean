/-
  slices.Delete of a row's last timer.
-/
import Derived.Test.YtdglnobapnohmaaDoorWhPut
namespace Go.Proofs.YtdglnobapnohmaaDoor
open Go.RowKit

theorem run_clear1 {w : World} {g o c : Nat} (hc : ∀ j, j < 2 → (w.cell? ⟨g, o + j, none⟩).isSome = true) (hf : ∀ j, j < 2 → w.frozen? ⟨g, o + j, none⟩ = false) (ty : TypeId) :
    (Builtin.clear_ #[49] ty #[.slice (some ⟨g, o, none⟩) 1 c]).run Tryd.prog w = .ok (.tuple #[]) (w.setCells g o [.int .i64 0, .int .i64 0]) := by
  have hst := run_storeCells_cells (P := Tryd.prog) g o [.int .i64 0, .int .i64 0] 0 w (by simpa using hc) (by simpa using hf) (fun u hu => by simp only [List.mem_cons, List.not_mem_nil, or_false] at hu; rcases hu with rfl | rfl <;> rfl)
  simp only [Nat.add_zero] at hst
  have hz : (zeroValue 68).run Tryd.prog w = .ok (.agg #[.int .i64 0, .int .i64 0]) w := by kernel_rfl
  have hzc : (Builtin.zeroCells (Value.agg #[.int .i64 0, .int .i64 0]).cells 1).toList = [.int .i64 0, .int .i64 0] := by kernel_rfl
  simp [Builtin.clear_, run_underlying Tryd.underlying49, hz, hzc, hst]
theorem setCells2 (w : World) (g o : Nat) (a b : Value) : w.setCells g o [a, b] = (w.setCell ⟨g, o, none⟩ a).setCell ⟨g, o + 1, none⟩ b := rfl
theorem TRow.cutLast {w : World} {B g i c : Nat} {xs : List Tm} (h : TRow w B (.slice (some ⟨g, 0, none⟩) (i + 1) c) xs) (a b : Value) : TRow (w.setCells g (i * 2) [a, b]) B (.slice (some ⟨g, 0, none⟩) i c) (xs.take i) ∧ Off (fun q => q = g) w (w.setCells g (i * 2) [a, b]) := by
  have hn := h.len
  rcases h.2 with ⟨h0, _⟩ | ⟨g', cap', cur, e, hB, hg, hc, hM, hs, ht⟩
  · cases h0
  simp only [Value.slice.injEq, Option.some.injEq, Addr.mk.injEq, and_true] at e
  obtain ⟨rfl, hnn, rfl⟩ := e
  rw [setCells2]
  have h1 := heap_set (j := i * 2) (u := a) hg
  have h2 := heap_set (j := i * 2 + 1) (u := b) h1
  have hl : (xs.take i).length = i := by rw [List.length_take]; omega
  refine ⟨⟨by rw [flat_len encT_len], Or.inr ⟨g, c, _, by rw [hl], hB, h2, by omega, hM, by simpa using hs, ?_⟩⟩, (((Off.refl (fun q => q = g) w).setCell (p := ⟨g, i * 2, none⟩) rfl a).setCell (p := ⟨g, i * 2 + 1, none⟩) rfl b)⟩
  rw [hl]
  have e1 : (xs.take i).flatMap encT = (xs.flatMap encT).take (i * 2) := by
    have hx : xs.flatMap encT = (xs.take i).flatMap encT ++ (xs.drop i).flatMap encT := by rw [← List.flatMap_append, List.take_append_drop]
    rw [hx, List.take_left' (by rw [flat_len encT_len, hl])]
  rw [e1, ← ht, List.take_take, Nat.min_eq_left (by omega)]
  refine List.ext_getElem? fun j => ?_
  rw [List.getElem?_take, List.getElem?_take]
  split
  · rw [Array.getElem?_toList, Array.getElem?_toList, Array.getElem?_setIfInBounds_ne (by omega), Array.getElem?_setIfInBounds_ne (by omega)]
  · rfl
theorem run_append0 {w : World} {g i c : Nat} (hi : i ≤ c) (a : Option Addr) (c' : Nat) (ty : TypeId) : (Builtin.append_ #[49, 49] ty #[.slice (some ⟨g, 0, none⟩) i c, .slice a 0 c']).run Tryd.prog w = .ok (.slice (some ⟨g, 0, none⟩) i c) w := by
  obtain ⟨inf, z, hin, _⟩ := celT
  cases a <;> simp [Builtin.append_, run_underlying Tryd.underlying49, sizeOf, typeInfo, hin, Builtin.lenOf, Builtin.firstCells, loadCells, loadCellsFrom, hi, storeCells]
theorem wpList_clear_run {P : Program} {w w' : World} {ops : Array Oper} {rest : List Oper} {o : Oper} {a : Act} {Q : Exit → Act → World → Prop} (hg : o.guard = none) (x : Operand) (t : TypeId) (hop : o.op = Op.call { callee := Callee.builtin Builtin.clear, args := #[x], argTypes := #[t] }) {xv : Value} (hx : a.eval x = xv) (hr : (Builtin.clear_ #[t] o.type #[xv]).run P w = .ok (.tuple #[]) w') (hK : wpList P ops Q rest (a.put o.dst (.tuple #[])) w') :
    wpList P ops Q (o :: rest) a w := by
  refine wpList_plain hg fun K' hK' => ?_
  unfold Oper.wp
  simp [execOp, hop, resolve, invoke, builtin, hx, hr, Result.andThen]
  exact hK' _ _ hK
set_option maxRecDepth 100000 in
set_option maxHeartbeats 2000000 in
theorem delete_last {w : World} {B g i c : Nat} {xs : List Tm} (h : TRow w B (.slice (some ⟨g, 0, none⟩) (i + 1) c) xs) (hl : i < 1000000) :
    Calls Tryd.prog 48 #[.slice (some ⟨g, 0, none⟩) (i + 1) c, .int .i64 (i : Int), .int .i64 ((i + 1 : Nat) : Int)] w fun e w' => e = .returned (.slice (some ⟨g, 0, none⟩) i c) ∧ TRow w' B (.slice (some ⟨g, 0, none⟩) i c) (xs.take i) ∧ Off (fun q => q = g) w w' := by
  have hn := h.len
  have hic : i + 1 ≤ c := by
    rcases h.form with ⟨e, _⟩ | ⟨g', cap, e, _, _, hc, _⟩
    · cases e
    · simp only [Value.slice.injEq] at e
      omega
  have hcm : c ≤ maxLen := by
    rcases h.form with ⟨e, _⟩ | ⟨g', cap, e, _, _, _, hc⟩
    · cases e
    · simp only [Value.slice.injEq] at e
      omega
  unfold maxLen at hcm
  have hex : ∃ x, xs[i]? = some x := ⟨_, List.getElem?_eq_getElem (by omega)⟩
  obtain ⟨x, hx⟩ := hex
  obtain ⟨g', eg, hg, hcs⟩ := h.at_ encT_len hx
  obtain rfl : g = g' := by simpa using eg
  have HZ : Hid (TRow (w.setCells g (i * 2) [.int .i64 0, .int .i64 0]) B (.slice (some ⟨g, 0, none⟩) i c) (xs.take i) ∧ Off (fun q => q = g) w (w.setCells g (i * 2) [.int .i64 0, .int .i64 0])) := h.cutLast _ _
  have hcl : ∀ (c' : Nat) ty, (Builtin.clear_ #[49] ty #[.slice (some ⟨g, i * 2, none⟩) 1 c']).run Tryd.prog w.drew = .ok (.tuple #[]) (w.setCells g (i * 2) [.int .i64 0, .int .i64 0]).drew := fun c' ty => run_clear1 (w := w.drew) (fun j hj => by
    rw [show w.drew.cell? ⟨g, i * 2 + j, none⟩ = w.cell? ⟨g, i * 2 + j, none⟩ from rfl, hcs j hj]
    rcases (by omega : j = 0 ∨ j = 1) with rfl | rfl <;> rfl) (fun j _ => h.thaw _) ty
  have hi0 : (i : Int) ≤ (i : Int) + 1 := by omega
  have hic1 : (i : Int) + 1 ≤ c := by omega
  have hne : ((i : Int) == (i : Int) + 1) = false := by simp; omega
  have hi1 : (0 : Int) ≤ (i : Int) + 1 := by omega
  have hic2 : i ≤ c := by omega
  have hic3 : (i : Int) ≤ c := by omega
  clear h hcs hx hn
  rcases (by omega : c = i + 1 ∨ ¬ c = i + 1) with hc | hc
  · subst hc
    go_enter Tryd.func48, Tryd.ntmps48
    go_wp2_with fail
    go_region_law (fail)
    go_wp2_with fail
    go_ret
    exact ⟨rfl, HZ.out.1.off (P := fun _ => False) ((Off.refl _ _).drew) (fun _ _ => id), HZ.out.2.drew⟩
  ·
    go_enter Tryd.func48, Tryd.ntmps48
    go_wp2_with fail
    go_region_law (fail)
    go_wp2_with fail
    go_ret
    exact ⟨rfl, HZ.out.1.off (P := fun _ => False) ((Off.refl _ _).drew) (fun _ _ => id), HZ.out.2.drew⟩
end Go.Proofs.YtdglnobapnohmaaDoor
