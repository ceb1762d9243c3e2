import Derived.Test.YtdglnobapnohmaaDoorWhOpenD
import Derived.Test.YtdglnobapnohmaaDoorWhSets
import Derived.ProofKit
import Derived.OpenShut
import Derived.Deep.DeepHandedRow
import Derived.Deep.Slices
import Derived.LaidMore
/-
  A list of Ops, opened.
-/
namespace Go.Proofs.YtdglnobapnohmaaDoor
open Go.ChangeShapes Go.WideShapes Go.ChangeAt Go.RowKit Go.Deep

theorem cellsInt : Tryd.prog.cellsOf 3 = 1 := by kernel_rfl
theorem cellsStr : Tryd.prog.cellsOf 9 = 1 := by kernel_rfl
theorem cellsOp : Tryd.prog.cellsOf 44 = 4 := by kernel_rfl
theorem keyI_of_wf {k : Int} (h : (Lit.int .i64 k).wf = true) : KeyI k := by
  simp [Lit.wf, IntKind.min, IntKind.max, IntKind.signed, IntKind.bits] at h
  unfold KeyI
  omega
section
variable {H : Type} {enc : TypeId × Value → H} {W : World} {base : Nat} {spare : Nat → Bool} {held : Bool}
theorem one_int {n : Nat} {c : Value} {x : DataW H × List MemPlace} (h : DataW.trod enc Tryd.prog W base spare held n 3 [c] = some x) : ∃ k, c = .int .i64 k ∧ KeyI k := by
  obtain ⟨k, e, _, hw⟩ := DataW.trod_int Tryd.underlying3 h
  exact ⟨k, List.head_eq_of_cons_eq e, keyI_of_wf hw⟩
theorem one_str {n : Nat} {c : Value} {x : DataW H × List MemPlace} (h : DataW.trod enc Tryd.prog W base spare held n 9 [c] = some x) : ∃ s, c = .string s := by
  obtain ⟨k, e, _, _⟩ := DataW.trod_string Tryd.underlying9 h
  exact ⟨k, List.head_eq_of_cons_eq e⟩
theorem cells_at {a : Addr} {n : Nat} {cs : List Value} (h : W.cells? base a n = some cs) (hn : 0 < n) : ∃ b o, a = ⟨b, o, none⟩ ∧ ∀ j v, cs[j]? = some v → W.cell? ⟨b, o + j, none⟩ = some v := by
  obtain ⟨_, hlen, hc⟩ := World.cells?_some h
  obtain ⟨b, o, sp⟩ := a
  have h0 := hc 0 hn
  rw [List.getElem?_eq_getElem (by omega)] at h0
  have hs : sp = none := by simpa [Addr.add] using World.cell?_spot h0
  subst hs
  refine ⟨b, o, rfl, fun j v hv => ?_⟩
  have hj : j < n := by rw [← hlen]; exact (List.getElem?_eq_some_iff.1 hv).1
  have := hc j hj
  rw [Addr.add_lit] at this
  rw [this, hv]
theorem four {α : Type} {l : List α} (h : l.length = 4) : ∃ c0 c1 c2 c3, l = [c0, c1, c2, c3] := by
  match l, h with
  | [c0, c1, c2, c3], _ => exact ⟨c0, c1, c2, c3, rfl⟩
theorem open_op {n : Nat} {cs : List Value} {x : DataW H × List MemPlace} {b o : Nat} (h : DataW.trod enc Tryd.prog W base spare held n 44 cs = some x) (hc : ∀ j v, cs[j]? = some v → W.cell? ⟨b, o + j, none⟩ = some v) :
    ∃ y : Opv, (b < W.heap.size ∧ W.cell? ⟨b, o, none⟩ = some (.int .i64 y.kind) ∧ W.cell? ⟨b, o + 1, none⟩ = some (.int .i64 y.key) ∧ W.cell? ⟨b, o + 2, none⟩ = some (.string y.text) ∧ W.cell? ⟨b, o + 3, none⟩ = some (.int .i64 y.tick)) ∧ KeyI y.key ∧ KeyI y.tick := by
  obtain ⟨xs, m, _, _, hcl, hlen, hfl⟩ := DataW.trod_struct Tryd.underlying44 h
  obtain ⟨c0, c1, c2, c3, rfl⟩ := four (l := cs) (by rw [hcl, cellsOp])
  obtain ⟨x0, x1, x2, x3, rfl⟩ := four (l := xs) hlen
  have g0 : DataW.trod enc Tryd.prog W base spare held m 3 [c0] = some x0 := by simpa [cellsInt] using hfl 0 _ rfl
  have g1 : DataW.trod enc Tryd.prog W base spare held m 3 [c1] = some x1 := by simpa [cellsInt] using hfl 1 _ rfl
  have g2 : DataW.trod enc Tryd.prog W base spare held m 9 [c2] = some x2 := by simpa [cellsInt, cellsStr] using hfl 2 _ rfl
  have g3 : DataW.trod enc Tryd.prog W base spare held m 3 [c3] = some x3 := by simpa [cellsInt, cellsStr] using hfl 3 _ rfl
  obtain ⟨kd, rfl, _⟩ := one_int g0
  obtain ⟨ky, rfl, hky⟩ := one_int g1
  obtain ⟨tx, rfl⟩ := one_str g2
  obtain ⟨tk, rfl, htk⟩ := one_int g3
  exact ⟨⟨kd, ky, tx, tk⟩, ⟨cell_lt (hc 0 _ rfl), hc 0 _ rfl, hc 1 _ rfl, hc 2 _ rfl, hc 3 _ rfl⟩, hky, htk⟩
theorem open_opl {n : Nat} {cs : List Value} {x : DataW H × List MemPlace} (h : DataW.trod enc Tryd.prog W base spare held n 22 cs = some x) :
    ∃ ao cap xs, cs = [.slice ao xs.length cap] ∧ Opl W ao xs ∧ OpsI xs ∧ xs.length ≤ maxLen := by
  rcases open_slice Tryd.underlying22 h with ⟨rfl, _⟩ | ⟨a, len, cap, m, n', D, Pl, rfl, _, hl, hm, hmm, _, hx⟩
  · exact ⟨none, 0, [], rfl, fun k x hk => (by simp at hk), fun y hy => (by cases hy), Nat.zero_le _⟩
  · have hlm : len ≤ m := by rw [hmm]; split <;> omega
    have key : ∀ k, k < len → ∃ y : Opv, (∃ b off, some a = some ⟨b, off, none⟩ ∧ b < W.heap.size ∧ W.cell? ⟨b, off + k * 4, none⟩ = some (.int .i64 y.kind) ∧ W.cell? ⟨b, off + k * 4 + 1, none⟩ = some (.int .i64 y.key) ∧ W.cell? ⟨b, off + k * 4 + 2, none⟩ = some (.string y.text) ∧ W.cell? ⟨b, off + k * 4 + 3, none⟩ = some (.int .i64 y.tick)) ∧ KeyI y.key ∧ KeyI y.tick := by
      have hsp : 0 < len → a.spot = none := fun h0 => by
        obtain ⟨cs', h1, _⟩ := hx 0 (by omega)
        rw [Nat.zero_mul] at h1
        obtain ⟨b, o, e, _⟩ := cells_at h1 (by rw [cellsOp]; decide)
        have : a.add 0 = a := rfl
        rw [this] at e; rw [e]
      intro k hk
      obtain ⟨b, off, sp⟩ := a
      obtain rfl : sp = none := hsp (by omega)
      obtain ⟨cs', h1, h2⟩ := hx k (by omega)
      rw [cellsOp] at h1
      obtain ⟨b', o', e, hc⟩ := cells_at h1 (by decide)
      rw [Addr.add_lit] at e
      obtain ⟨rfl, rfl⟩ : b = b' ∧ off + k * 4 = o' := by simpa using e
      obtain ⟨y, hy, hp⟩ := open_op h2 hc
      exact ⟨y, ⟨b, off, rfl, hy⟩, hp⟩
    haveI : Inhabited Opv := ⟨⟨0, 0, ⟨#[]⟩, 0⟩⟩
    obtain ⟨Y, hY⟩ := choose_lt (α := Opv) (p := fun k y => (∃ b off, some a = some ⟨b, off, none⟩ ∧ b < W.heap.size ∧ W.cell? ⟨b, off + k * 4, none⟩ = some (.int .i64 y.kind) ∧ W.cell? ⟨b, off + k * 4 + 1, none⟩ = some (.int .i64 y.key) ∧ W.cell? ⟨b, off + k * 4 + 2, none⟩ = some (.string y.text) ∧ W.cell? ⟨b, off + k * 4 + 3, none⟩ = some (.int .i64 y.tick)) ∧ KeyI y.key ∧ KeyI y.tick) key
    refine ⟨some a, cap, (List.range len).map Y, by simp, fun k x hk => ?_, fun y hy => ?_, by simp; omega⟩
    · simp only [List.getElem?_map, Option.map_eq_some_iff] at hk
      obtain ⟨i, hi, rfl⟩ := hk
      obtain ⟨hi1, hi2⟩ := List.getElem?_eq_some_iff.1 hi
      simp at hi1 hi2
      subst hi2
      exact (hY k hi1).1
    · obtain ⟨i, hi, rfl⟩ := List.mem_map.1 hy
      exact (hY i (List.mem_range.1 hi)).2
end
end Go.Proofs.YtdglnobapnohmaaDoor

/-
  A list of Ops, opened under the second form's bound.
-/
namespace Go.Proofs.YtdglnobapnohmaaDoor
open Go.ChangeShapes Go.WideShapes Go.ChangeAt Go.RowKit Go.Deep

theorem bulk_one {H : Type} (d : DataW H) : 1 ≤ Rows.uptoBulk d := by
  cases d with
  | lit l => cases l <;> simp [Rows.uptoBulk]
  | nil => simp [Rows.uptoBulk]
  | ptr d => simp [Rows.uptoBulk]
  | slice a b => simp [Rows.uptoBulk]
  | agg a => simp [Rows.uptoBulk]
  | iface t d => simp [Rows.uptoBulk]
  | map a => simp [Rows.uptoBulk]
  | held a => simp [Rows.uptoBulk]
theorem bulk_len {H : Type} : ∀ (l : List (DataW H)), l.length ≤ Rows.uptoBulkAll l
  | [] => by simp [Rows.uptoBulkAll]
  | x :: r => by have h1 := bulk_one x; have h2 := bulk_len r; simp only [Rows.uptoBulkAll, List.length_cons]; omega
theorem open_opu {H : Type} {enc : TypeId × Value → H} {W : World} {base : Nat} {spare : Nat → Bool} {held : Bool} {n : Nat} {cs : List Value} {x : DataW H × List MemPlace} (h : DataW.trod enc Tryd.prog W base spare held n 22 cs = some x) (hb : Rows.uptoBulk x.1 ≤ 1048576) :
    ∃ ao cap xs, cs = [.slice ao xs.length cap] ∧ Opl W ao xs ∧ OpsI xs ∧ xs.length ≤ 1048576 := by
  obtain ⟨ao, cap, xs, e, h1, h2, _⟩ := open_opl h
  refine ⟨ao, cap, xs, e, h1, h2, ?_⟩
  rcases open_slice Tryd.underlying22 h with ⟨e', _⟩ | ⟨a, len, cap', m, n', D, Pl, e', _, hl, hm, hmm, hxe, hx⟩
  · rw [e] at e'
    have := List.head_eq_of_cons_eq e'
    simp only [Value.slice.injEq] at this
    omega
  · rw [e] at e'
    have := List.head_eq_of_cons_eq e'
    simp only [Value.slice.injEq] at this
    have hlen : xs.length = len := this.2.1
    rw [hxe] at hb
    simp only [Rows.uptoBulk] at hb
    have h3 := bulk_len ((List.range len).map D)
    simp only [List.length_map, List.length_range] at h3
    omega
end Go.Proofs.YtdglnobapnohmaaDoor
