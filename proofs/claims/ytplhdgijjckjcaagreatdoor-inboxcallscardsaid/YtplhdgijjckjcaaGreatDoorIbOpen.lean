/-
  Arguments opened: entries, lists of calls.
-/
import Derived.Test.YtplhdgijjckjcaaGreatDoorRows
import Derived.Test.YtplhdgijjckjcaaGreatDoorIbHanded
import Derived.ProofKit
import Derived.OpenShut
import Derived.Deep.DeepHandedRow
import Derived.Deep.Slices
import Derived.LaidMore
import Derived.SizedLaws
import Derived.Stop.Asserts
namespace Go.Proofs.YtplhdgijjckjcaaGreatDoor
open Go.ChangeShapes Go.WideShapes Go.ChangeAt Go.RowKit Go.Deep

theorem own : ownKnob Tryz.prog.godebug = none := by kernel_rfl
theorem typesSize : Tryz.prog.types.size = 170 := by kernel_rfl
theorem cellsInt : Tryz.prog.cellsOf 3 = 1 := by kernel_rfl
theorem cellsString : Tryz.prog.cellsOf 9 = 1 := by kernel_rfl
theorem cellsU8 : Tryz.prog.cellsOf 5 = 1 := by kernel_rfl
theorem cellsBytes : Tryz.prog.cellsOf 27 = 1 := by kernel_rfl
theorem cellsEnt : Tryz.prog.cellsOf 29 = 7 := by kernel_rfl
theorem bytesU8 : Tryz.prog.bytesOf 5 = 1 := by kernel_rfl
theorem reachBytes_90 : reachBytes + 90 ≤ 140737488355328 := by decide
theorem weights_mem_all {H : Type} {P : Program} {e : TypeId} : ∀ {ds : List (DataW H)} {d : DataW H}, d ∈ ds → ∀ n ∈ d.weights P e, n ∈ DataW.weightsAll P e ds
  | d0 :: ds, d, hd, n, hn => by
    simp only [DataW.weightsAll, List.mem_append]
    rcases List.mem_cons.1 hd with rfl | h
    · exact Or.inl hn
    · exact Or.inr (weights_mem_all h n hn)
theorem choose_lt {α : Type} [Inhabited α] {n : Nat} {p : Nat → α → Prop} (h : ∀ k, k < n → ∃ y, p k y) : ∃ f : Nat → α, ∀ k, k < n → p k (f k) := by
  refine ⟨fun k => if hk : k < n then (h k hk).choose else default, fun k hk => ?_⟩
  simp only [hk, dif_pos]
  exact (h k hk).choose_spec
theorem seven {α : Type} {l : List α} (h : l.length = 7) : ∃ c0 c1 c2 c3 c4 c5 c6, l = [c0, c1, c2, c3, c4, c5, c6] := by
  match l, h with
  | [c0, c1, c2, c3, c4, c5, c6], _ => exact ⟨c0, c1, c2, c3, c4, c5, c6, rfl⟩
theorem thirteen {α : Type} {l : List α} (h : l.length = 13) : ∃ c0 c1 c2 c3 c4 c5 c6 c7 c8 c9 c10 c11 c12, l = [c0, c1, c2, c3, c4, c5, c6, c7, c8, c9, c10, c11, c12] := by
  match l, h with
  | [c0, c1, c2, c3, c4, c5, c6, c7, c8, c9, c10, c11, c12], _ => exact ⟨c0, c1, c2, c3, c4, c5, c6, c7, c8, c9, c10, c11, c12, rfl⟩
section
variable {H : Type} {enc : TypeId × Value → H} {W : World} {base : Nat} {spare : Nat → Bool} {held : Bool}
theorem one_int {n : Nat} {c : Value} {x : DataW H × List MemPlace} (h : DataW.trod enc Tryz.prog W base spare held n 3 [c] = some x) : ∃ k, c = .int .i64 k := by
  obtain ⟨k, e, _, _⟩ := DataW.trod_int Tryz.underlying3 h
  exact ⟨k, List.head_eq_of_cons_eq e⟩
theorem one_str {n : Nat} {c : Value} {x : DataW H × List MemPlace} (h : DataW.trod enc Tryz.prog W base spare held n 9 [c] = some x) : ∃ s, c = .string s ∧ KeyS s := by
  obtain ⟨k, e, _, h1⟩ := DataW.trod_string Tryz.underlying9 h
  exact ⟨k, List.head_eq_of_cons_eq e, h1⟩
theorem cells_at {a : Addr} {n : Nat} {cs : List Value} (h : W.cells? base a n = some cs) (hn : 0 < n) : ∃ b o, a = ⟨b, o, none⟩ ∧ ∀ j v, cs[j]? = some v → W.cell? ⟨b, o + j, none⟩ = some v := by
  obtain ⟨_, hlen, hc⟩ := World.cells?_some h
  obtain ⟨b, o, sp⟩ := a
  have h0 := hc 0 hn
  rw [List.getElem?_eq_getElem (by omega)] at h0
  have hs : sp = none := by simpa [Addr.add] using World.cell?_spot h0
  subst hs
  refine ⟨b, o, rfl, fun j v hv => ?_⟩
  have hj : j < n := by rw [← hlen]; exact (List.getElem?_eq_some_iff.1 hv).1
  have := hc j hj
  rw [Addr.add_lit] at this
  rw [this, hv]
theorem open_bytes {n : Nat} {cs : List Value} {x : DataW H × List MemPlace} (h : DataW.trod enc Tryz.prog W base spare held n 27 cs = some x) :
    ∃ po pl pc bs, cs = [.slice po pl pc] ∧ Byts W po pl bs ∧ (pl = 0 ∨ ∃ el sp, x.1 = .slice el sp ∧ el.length = pl) := by
  rcases open_ints Tryz.underlying27 Tryz.underlying5 cellsU8 h with ⟨rfl, _⟩ | ⟨a, len, cap, zs, rfl, _, hl, hm, hz, hxx, hc, _⟩
  · exact ⟨none, 0, 0, [], rfl, ⟨rfl, fun j hj => (by omega)⟩, Or.inl rfl⟩
  · have hzl : len ≤ zs.length := by rw [hz]; split <;> omega
    refine ⟨some a, len, cap, zs.take len, rfl, ⟨by simp; omega, fun j hj => ?_⟩, Or.inr ⟨_, _, by rw [hxx], by simp [lits]; omega⟩⟩
    · obtain ⟨b, o, sp⟩ := a
      have h0 := hc 0 (by omega)
      have hs : sp = none := by simpa [Addr.add] using World.cell?_spot h0
      subst hs
      have hj' := hc j (by omega)
      rw [Addr.add_lit] at hj'
      refine ⟨b, o, rfl, cell_lt hj', ?_⟩
      rw [hj']
      simp [List.getD_eq_getElem?_getD, hj]
/-- A byte list's weight. -/
theorem weigh {d : DataW H} {pl : Nat} (h : pl = 0 ∨ ∃ el sp, d = .slice el sp ∧ el.length = pl) (hw : ∀ n ∈ d.weights Tryz.prog 27, n ≤ reachBytes) : pl + 90 ≤ 140737488355328 := by
  have hr := reachBytes_90
  rcases h with h0 | ⟨el, sp, e4, hel⟩
  · omega
  · have := hw ((el.length + sp.length) * Tryz.prog.bytesOf 5) (by
      rw [e4]
      simp [DataW.weights, Tryz.underlying27])
    rw [bytesU8] at this
    omega
set_option maxRecDepth 100000 in
set_option maxHeartbeats 1000000 in
theorem open_entry {n : Nat} {cs : List Value} {x : DataW H × List MemPlace} (h : DataW.trod enc Tryz.prog W base spare held n 29 cs = some x) :
    ∃ e : Ent, cs = encE e ∧ Lies W e ∧ KeyS e.ct ∧ ((∀ n ∈ x.1.weights Tryz.prog 29, n ≤ reachBytes) → e.tn + 90 ≤ 140737488355328 ∧ e.cn + 90 ≤ 140737488355328 ∧ e.an + 90 ≤ 140737488355328) := by
  obtain ⟨xs, m, _, hxe, hcl, hlen, hfl⟩ := DataW.trod_struct Tryz.underlying29 h
  obtain ⟨c0, c1, c2, c3, c4, c5, c6, rfl⟩ := seven (l := cs) (by rw [hcl, cellsEnt])
  obtain ⟨x0, x1, x2, x3, x4, x5, x6, rfl⟩ := seven (l := xs) hlen
  have g0 : DataW.trod enc Tryz.prog W base spare held m 9 [c0] = some x0 := by simpa [cellsString] using hfl 0 _ rfl
  have g1 : DataW.trod enc Tryz.prog W base spare held m 27 [c1] = some x1 := by simpa [cellsString, cellsBytes] using hfl 1 _ rfl
  have g2 : DataW.trod enc Tryz.prog W base spare held m 3 [c2] = some x2 := by simpa [cellsString, cellsBytes, cellsInt] using hfl 2 _ rfl
  have g3 : DataW.trod enc Tryz.prog W base spare held m 3 [c3] = some x3 := by simpa [cellsString, cellsBytes, cellsInt] using hfl 3 _ rfl
  have g4 : DataW.trod enc Tryz.prog W base spare held m 27 [c4] = some x4 := by simpa [cellsString, cellsBytes, cellsInt] using hfl 4 _ rfl
  have g5 : DataW.trod enc Tryz.prog W base spare held m 9 [c5] = some x5 := by simpa [cellsString, cellsBytes, cellsInt] using hfl 5 _ rfl
  have g6 : DataW.trod enc Tryz.prog W base spare held m 27 [c6] = some x6 := by simpa [cellsString, cellsBytes, cellsInt] using hfl 6 _ rfl
  obtain ⟨ct, rfl, hk⟩ := one_str g0
  obtain ⟨tp, tn, tc, tx, e1, hB1, hw1⟩ := open_bytes g1
  obtain rfl := List.head_eq_of_cons_eq e1
  obtain ⟨nu, rfl⟩ := one_int g2
  obtain ⟨tk, rfl⟩ := one_int g3
  obtain ⟨cp, cn, cc, cx, e4, hB4, hw4⟩ := open_bytes g4
  obtain rfl := List.head_eq_of_cons_eq e4
  obtain ⟨cd, rfl, _⟩ := one_str g5
  obtain ⟨ap, an, ac, ax, e6, hB6, hw6⟩ := open_bytes g6
  obtain rfl := List.head_eq_of_cons_eq e6
  refine ⟨⟨ct, tp, tn, tc, tx, nu, tk, cp, cn, cc, cx, cd, ap, an, ac, ax⟩, rfl, ⟨hB1, hB4, hB6⟩, hk, fun hw => ⟨weigh hw1 fun n hn => hw n ?_, weigh hw4 fun n hn => hw n ?_, weigh hw6 fun n hn => hw n ?_⟩⟩
  · rw [hxe]
    simp only [DataW.weights, Tryz.underlying29]
    exact DataW.weights_mem_each (j := 1) (t := 27) (d := x1.1) rfl rfl _ hn
  · rw [hxe]
    simp only [DataW.weights, Tryz.underlying29]
    exact DataW.weights_mem_each (j := 4) (t := 27) (d := x4.1) rfl rfl _ hn
  · rw [hxe]
    simp only [DataW.weights, Tryz.underlying29]
    exact DataW.weights_mem_each (j := 6) (t := 27) (d := x6.1) rfl rfl _ hn
theorem cellsOp : Tryz.prog.cellsOf 31 = 13 := by kernel_rfl
set_option maxRecDepth 100000 in
set_option maxHeartbeats 1000000 in
theorem open_op {n : Nat} {cs : List Value} {x : DataW H × List MemPlace} {b o : Nat} (h : DataW.trod enc Tryz.prog W base spare held n 31 cs = some x) (hc : ∀ j v, cs[j]? = some v → W.cell? ⟨b, o + j, none⟩ = some v) :
    ∃ y : Opv, (b < W.heap.size ∧ OpAt W b o y) ∧ ((∀ n ∈ x.1.weights Tryz.prog 31, n ≤ reachBytes) → OpOk y) := by
  obtain ⟨xs, m, _, hxe, hcl, hlen, hfl⟩ := DataW.trod_struct Tryz.underlying31 h
  obtain ⟨c0, c1, c2, c3, c4, c5, c6, c7, c8, c9, c10, c11, c12, rfl⟩ := thirteen (l := cs) (by rw [hcl, cellsOp])
  obtain ⟨x0, x1, x2, x3, x4, x5, x6, rfl⟩ := seven (l := xs) hlen
  have g0 : DataW.trod enc Tryz.prog W base spare held m 3 [c0] = some x0 := by simpa [cellsInt] using hfl 0 _ rfl
  have g1 : DataW.trod enc Tryz.prog W base spare held m 3 [c1] = some x1 := by simpa [cellsInt] using hfl 1 _ rfl
  have g2 : DataW.trod enc Tryz.prog W base spare held m 3 [c2] = some x2 := by simpa [cellsInt] using hfl 2 _ rfl
  have g3 : DataW.trod enc Tryz.prog W base spare held m 29 [c3, c4, c5, c6, c7, c8, c9] = some x3 := by simpa [cellsInt, cellsEnt] using hfl 3 _ rfl
  have g4 : DataW.trod enc Tryz.prog W base spare held m 9 [c10] = some x4 := by simpa [cellsInt, cellsEnt, cellsString] using hfl 4 _ rfl
  have g5 : DataW.trod enc Tryz.prog W base spare held m 9 [c11] = some x5 := by simpa [cellsInt, cellsEnt, cellsString] using hfl 5 _ rfl
  have g6 : DataW.trod enc Tryz.prog W base spare held m 27 [c12] = some x6 := by simpa [cellsInt, cellsEnt, cellsString, cellsBytes] using hfl 6 _ rfl
  obtain ⟨kd, rfl⟩ := one_int g0
  obtain ⟨of_, rfl⟩ := one_int g1
  obtain ⟨nn, rfl⟩ := one_int g2
  obtain ⟨e, e3, hL, hk, hw3⟩ := open_entry g3
  simp only [encE, List.cons.injEq, and_true] at e3
  obtain ⟨rfl, rfl, rfl, rfl, rfl, rfl, rfl⟩ := e3
  obtain ⟨ct, rfl, hk2⟩ := one_str g4
  obtain ⟨cd, rfl, _⟩ := one_str g5
  obtain ⟨ap, an, ac, ax, e6, hB6, hw6⟩ := open_bytes g6
  obtain rfl := List.head_eq_of_cons_eq e6
  refine ⟨⟨kd, of_, nn, e, ct, cd, ap, an, ac, ax⟩, ⟨cell_lt (hc 0 _ rfl), ⟨fun q hq => ?_, hL, hB6⟩⟩, fun hw => ?_⟩
  · rcases (by omega : q = 0 ∨ q = 1 ∨ q = 2 ∨ q = 3 ∨ q = 4 ∨ q = 5 ∨ q = 6 ∨ q = 7 ∨ q = 8 ∨ q = 9 ∨ q = 10 ∨ q = 11 ∨ q = 12) with rfl | rfl | rfl | rfl | rfl | rfl | rfl | rfl | rfl | rfl | rfl | rfl | rfl <;> exact hc _ _ rfl
  · have h3 := hw3 fun n hn => hw n (by
      rw [hxe]
      simp only [DataW.weights, Tryz.underlying31]
      exact DataW.weights_mem_each (j := 3) (t := 29) (d := x3.1) rfl rfl _ hn)
    have h6 := weigh hw6 fun n hn => hw n (by
      rw [hxe]
      simp only [DataW.weights, Tryz.underlying31]
      exact DataW.weights_mem_each (j := 6) (t := 27) (d := x6.1) rfl rfl _ hn)
    exact ⟨hk, hk2, h3.1, h3.2.1, h3.2.2, h6⟩
set_option maxRecDepth 100000 in
set_option maxHeartbeats 1000000 in
theorem open_ops {n : Nat} {cs : List Value} {x : DataW H × List MemPlace} (h : DataW.trod enc Tryz.prog W base spare held n 22 cs = some x) :
    ∃ ao cap xs, cs = [.slice ao xs.length cap] ∧ Ops W ao xs ∧ xs.length ≤ 9223372036854775807 ∧ ∀ y ∈ xs, (∀ n ∈ x.1.weights Tryz.prog 22, n ≤ reachBytes) → OpOk y := by
  rcases open_slice Tryz.underlying22 h with ⟨rfl, _⟩ | ⟨a, len, cap, m, n', D, Pl, rfl, _, hl, hm, hmm, hxe, hx⟩
  · exact ⟨none, 0, [], rfl, fun k x hk => (by simp at hk), by decide, fun y hy => (by cases hy)⟩
  · have hlm : len ≤ m := by rw [hmm]; split <;> omega
    have key : ∀ k, k < len → ∃ y : Opv, (∃ b off, a = ⟨b, off, none⟩ ∧ b < W.heap.size ∧ OpAt W b (off + k * 13) y) ∧ ((∀ n ∈ (D k).weights Tryz.prog 31, n ≤ reachBytes) → OpOk y) := by
      have hsp : 0 < len → a.spot = none := fun h0 => by
        obtain ⟨cs', h1, _⟩ := hx 0 (by omega)
        rw [Nat.zero_mul] at h1
        obtain ⟨b, o, e, _⟩ := cells_at h1 (by rw [cellsOp]; decide)
        have : a.add 0 = a := rfl
        rw [this] at e; rw [e]
      intro k hk
      obtain ⟨b, off, sp⟩ := a
      obtain rfl : sp = none := hsp (by omega)
      obtain ⟨cs', h1, h2⟩ := hx k (by omega)
      rw [cellsOp] at h1
      obtain ⟨b', o', e, hc⟩ := cells_at h1 (by decide)
      rw [Addr.add_lit] at e
      obtain ⟨rfl, rfl⟩ : b = b' ∧ off + k * 13 = o' := by simpa using e
      obtain ⟨y, hy, hp⟩ := open_op h2 hc
      exact ⟨y, ⟨b, off, rfl, hy.1, hy.2⟩, hp⟩
    haveI : Inhabited Opv := ⟨⟨0, 0, 0, zE, ⟨#[]⟩, ⟨#[]⟩, none, 0, 0, []⟩⟩
    obtain ⟨Y, hY⟩ := choose_lt (α := Opv) (p := fun k y => (∃ b off, a = ⟨b, off, none⟩ ∧ b < W.heap.size ∧ OpAt W b (off + k * 13) y) ∧ ((∀ n ∈ (D k).weights Tryz.prog 31, n ≤ reachBytes) → OpOk y)) key
    refine ⟨some a, cap, (List.range len).map Y, by simp, fun k x hk => ?_, by simp; unfold maxLen at hm; omega, fun y hy => ?_⟩
    · simp only [List.getElem?_map, Option.map_eq_some_iff] at hk
      obtain ⟨i, hi, rfl⟩ := hk
      obtain ⟨hi1, hi2⟩ := List.getElem?_eq_some_iff.1 hi
      simp at hi1 hi2
      subst hi2
      obtain ⟨⟨b, off, e, hb, ho⟩, _⟩ := hY k hi1
      exact ⟨b, off, by rw [e], hb, ho⟩
    · obtain ⟨i, hi, rfl⟩ := List.mem_map.1 hy
      have hy2 := (hY i (List.mem_range.1 hi)).2
      refine fun hw => hy2 fun n hn => hw n ?_
      rw [hxe]
      simp only [DataW.weights, Tryz.underlying22]
      exact List.mem_cons_of_mem _ (List.mem_append_left _ (weights_mem_all (List.mem_map_of_mem hi) n hn))
end
end Go.Proofs.YtplhdgijjckjcaaGreatDoor
