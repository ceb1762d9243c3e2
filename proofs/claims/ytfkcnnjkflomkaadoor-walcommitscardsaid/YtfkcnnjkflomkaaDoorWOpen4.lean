import Derived.Test.YtfkcnnjkflomkaaDoorWOpen
import Derived.Test.YtfkcnnjkflomkaaDoorWShort
import Derived.Test.YtfkcnnjkflomkaaDoorWSizes
import Derived.Lib.LaidTab
/-
  Arguments opened: lists of byte strings, lists of bools; the table of the sum.
-/
namespace Go.Proofs.YtfkcnnjkflomkaaDoor
open Go.ChangeShapes Go.WideShapes Go.ChangeAt Go.RowKit Go.Deep

theorem gHalves : Tryd.prog.globalNamed "courier/wal.halves" = some 1 := by kernel_rfl
theorem tHalves : (Tryd.prog.globals[1]?).map (·.type) = some 166 := by kernel_rfl
theorem cellsU32 : Tryd.prog.cellsOf 142 = 1 := by kernel_rfl
theorem cellsHalves : Tryd.prog.cellsOf 166 = 16 := by kernel_rfl
theorem cellsBytes1 : Tryd.prog.cellsOf 28 = 1 := by kernel_rfl
theorem cellsBool1 : Tryd.prog.cellsOf 4 = 1 := by kernel_rfl
theorem halves_of {W : World} {rest : List (String × DataW Unit)} (h : laidMet Tryd.prog (("courier/wal.halves", Rows.laid_courier_wal_halves) :: rest) W) : Halves W := by
  have ht : Lib.TabIs Tryd.prog W "courier/wal.halves" .u32 halvesTab :=
    Lib.tabIs_of_head (rest := rest) gHalves tHalves Tryd.underlying166 Tryd.underlying142 cellsU32 cellsHalves h
  intro j hj
  rcases (by omega : j = 0 ∨ j = 1 ∨ j = 2 ∨ j = 3 ∨ j = 4 ∨ j = 5 ∨ j = 6 ∨ j = 7 ∨ j = 8 ∨ j = 9 ∨ j = 10 ∨ j = 11 ∨ j = 12 ∨ j = 13 ∨ j = 14 ∨ j = 15) with rfl | rfl | rfl | rfl | rfl | rfl | rfl | rfl | rfl | rfl | rfl | rfl | rfl | rfl | rfl | rfl
  all_goals exact ht.cell gHalves _ (by decide)
theorem weights_mem_all {H : Type} {P : Program} {e : TypeId} : ∀ {ds : List (DataW H)} {d : DataW H}, d ∈ ds → ∀ n ∈ d.weights P e, n ∈ DataW.weightsAll P e ds
  | d0 :: ds, d, hd, n, hn => by
    simp only [DataW.weightsAll, List.mem_append]
    rcases List.mem_cons.1 hd with rfl | h
    · exact Or.inl hn
    · exact Or.inr (weights_mem_all h n hn)
section
variable {H : Type} {enc : TypeId × Value → H} {W : World} {base : Nat} {spare : Nat → Bool} {held : Bool}
theorem open_lists {n : Nat} {cs : List Value} {x : DataW H × List MemPlace} (h : DataW.trod enc Tryd.prog W base spare held n 22 cs = some x) :
    ∃ ao cap xs, cs = [.slice ao xs.length cap] ∧ Bls W ao xs ∧ xs.length ≤ maxLen ∧ ∀ y ∈ xs, (y.po = none → y.pc = 0) ∧ ((∀ n ∈ x.1.weights Tryd.prog 22, n ≤ reachBytes) → y.pl ≤ 140737488355328) := by
  rcases open_slice1 Tryd.underlying22 cellsBytes1 h with ⟨rfl, _⟩ | ⟨a, len, cap, m, n', V, D, Pl, rfl, _, hl, hm, hmm, hxe, hx⟩
  · exact ⟨none, 0, [], rfl, fun k x hk => (by simp at hk), Nat.zero_le _, fun y hy => (by cases hy)⟩
  · have hlm : len ≤ m := by rw [hmm]; split <;> omega
    have key : ∀ k, k < len → ∃ y : Blv, (∃ b off, a = ⟨b, off, none⟩ ∧ b < W.heap.size ∧ W.cell? ⟨b, off + k, none⟩ = some (.slice y.po y.pl y.pc) ∧ Byts W y.po y.pl y.bs) ∧ (y.po = none → y.pc = 0) ∧ ((∀ n ∈ (D k).weights Tryd.prog 28, n ≤ reachBytes) → y.pl ≤ 140737488355328) := by
      intro k hk
      obtain ⟨h1, h2⟩ := hx k (by omega)
      obtain ⟨b, off, sp⟩ := a
      have hs : sp = none := by
        have h0 := (hx 0 (by omega)).1
        simpa [Addr.add] using World.cell?_spot h0
      subst hs
      rw [Addr.add_lit] at h1
      obtain ⟨po, pl, pc, bs, e4, hB, hpl, hpc, _, hw4, _⟩ := open_bytes h2
      have e5 : V k = .slice po pl pc := by simpa using e4
      rw [e5] at h1
      refine ⟨⟨po, pl, pc, bs⟩, ⟨b, off, rfl, cell_lt h1, h1, hB⟩, hpc, fun hw => ?_⟩
      rcases hw4 with h0 | ⟨el, sp, e4, hel⟩
      · show pl ≤ _
        omega
      · show pl ≤ _
        have hr : reachBytes = 140737488351232 := rfl
        have e6 : D k = .slice el sp := e4
        have := hw ((el.length + sp.length) * Tryd.prog.bytesOf 5) (by
          rw [e6]
          simp [DataW.weights, Tryd.underlying28])
        rw [bytesU8] at this
        omega
    haveI : Inhabited Blv := ⟨⟨none, 0, 0, []⟩⟩
    obtain ⟨Y, hY⟩ := choose_lt (α := Blv) (p := fun k y => (∃ b off, a = ⟨b, off, none⟩ ∧ b < W.heap.size ∧ W.cell? ⟨b, off + k, none⟩ = some (.slice y.po y.pl y.pc) ∧ Byts W y.po y.pl y.bs) ∧ (y.po = none → y.pc = 0) ∧ ((∀ n ∈ (D k).weights Tryd.prog 28, n ≤ reachBytes) → y.pl ≤ 140737488355328)) key
    refine ⟨some a, cap, (List.range len).map Y, by simp, fun k x hk => ?_, by simp; omega, fun y hy => ?_⟩
    · simp only [List.getElem?_map, Option.map_eq_some_iff] at hk
      obtain ⟨i, hi, rfl⟩ := hk
      obtain ⟨hi1, hi2⟩ := List.getElem?_eq_some_iff.1 hi
      simp at hi1 hi2
      subst hi2
      obtain ⟨⟨b, off, e, ho⟩, _⟩ := hY k hi1
      exact ⟨b, off, by rw [e], ho⟩
    · obtain ⟨i, hi, rfl⟩ := List.mem_map.1 hy
      have hy2 := (hY i (List.mem_range.1 hi)).2
      refine ⟨hy2.1, fun hw => hy2.2 fun n hn => hw n ?_⟩
      rw [hxe]
      simp only [DataW.weights, Tryd.underlying22]
      exact List.mem_cons_of_mem _ (List.mem_append_left _ (weights_mem_all (List.mem_map_of_mem hi) n hn))
theorem open_bos {n : Nat} {cs : List Value} {x : DataW H × List MemPlace} (h : DataW.trod enc Tryd.prog W base spare held n 23 cs = some x) :
    ∃ ao cap xs, cs = [.slice ao xs.length cap] ∧ Bos W ao xs ∧ xs.length ≤ maxLen := by
  rcases open_slice1 Tryd.underlying23 cellsBool1 h with ⟨rfl, _⟩ | ⟨a, len, cap, m, n', V, D, Pl, rfl, _, hl, hm, hmm, hxe, hx⟩
  · exact ⟨none, 0, [], rfl, fun k x hk => (by simp at hk), Nat.zero_le _⟩
  · have hlm : len ≤ m := by rw [hmm]; split <;> omega
    have key : ∀ k, k < len → ∃ y : Bool, ∃ b off, a = ⟨b, off, none⟩ ∧ b < W.heap.size ∧ W.cell? ⟨b, off + k, none⟩ = some (.bool y) := by
      intro k hk
      obtain ⟨h1, h2⟩ := hx k (by omega)
      obtain ⟨b, off, sp⟩ := a
      have hs : sp = none := by
        have h0 := (hx 0 (by omega)).1
        simpa [Addr.add] using World.cell?_spot h0
      subst hs
      rw [Addr.add_lit] at h1
      obtain ⟨y, e1, _⟩ := DataW.trod_bool Tryd.underlying4 h2
      have e5 : V k = .bool y := by simpa using e1
      rw [e5] at h1
      exact ⟨y, b, off, rfl, cell_lt h1, h1⟩
    obtain ⟨Y, hY⟩ := choose_lt (α := Bool) (p := fun k y => ∃ b off, a = ⟨b, off, none⟩ ∧ b < W.heap.size ∧ W.cell? ⟨b, off + k, none⟩ = some (.bool y)) key
    refine ⟨some a, cap, (List.range len).map Y, by simp, fun k x hk => ?_, by simp; omega⟩
    simp only [List.getElem?_map, Option.map_eq_some_iff] at hk
    obtain ⟨i, hi, rfl⟩ := hk
    obtain ⟨hi1, hi2⟩ := List.getElem?_eq_some_iff.1 hi
    simp at hi1 hi2
    subst hi2
    obtain ⟨b, off, e, ho⟩ := hY k hi1
    exact ⟨b, off, by rw [e], ho⟩
end
end Go.Proofs.YtfkcnnjkflomkaaDoor

/-
  An opening of [][]byte that tells that the bytes are bytes.
-/
namespace Go.Proofs.YtfkcnnjkflomkaaDoor
open Go.ChangeShapes Go.WideShapes Go.ChangeAt Go.RowKit Go.Deep

section
variable {H : Type} {enc : TypeId × Value → H} {W : World} {base : Nat} {spare : Nat → Bool} {held : Bool}
theorem open_lists2 {n : Nat} {cs : List Value} {x : DataW H × List MemPlace} (h : DataW.trod enc Tryd.prog W base spare held n 22 cs = some x) :
    ∃ ao cap xs, cs = [.slice ao xs.length cap] ∧ Bls W ao xs ∧ xs.length ≤ maxLen ∧ ∀ y ∈ xs, (y.po = none → y.pc = 0) ∧ ((∀ n ∈ x.1.weights Tryd.prog 22, n ≤ reachBytes) → y.pl ≤ 140737488355328) ∧ ∀ z ∈ y.bs, 0 ≤ z ∧ z ≤ 255 := by
  rcases open_slice1 Tryd.underlying22 cellsBytes1 h with ⟨rfl, _⟩ | ⟨a, len, cap, m, n', V, D, Pl, rfl, _, hl, hm, hmm, hxe, hx⟩
  · exact ⟨none, 0, [], rfl, fun k x hk => (by simp at hk), Nat.zero_le _, fun y hy => (by cases hy)⟩
  · have hlm : len ≤ m := by rw [hmm]; split <;> omega
    have key : ∀ k, k < len → ∃ y : Blv, (∃ b off, a = ⟨b, off, none⟩ ∧ b < W.heap.size ∧ W.cell? ⟨b, off + k, none⟩ = some (.slice y.po y.pl y.pc) ∧ Byts W y.po y.pl y.bs) ∧ (y.po = none → y.pc = 0) ∧ ((∀ n ∈ (D k).weights Tryd.prog 28, n ≤ reachBytes) → y.pl ≤ 140737488355328) ∧ ∀ z ∈ y.bs, 0 ≤ z ∧ z ≤ 255 := by
      intro k hk
      obtain ⟨h1, h2⟩ := hx k (by omega)
      obtain ⟨b, off, sp⟩ := a
      have hs : sp = none := by
        have h0 := (hx 0 (by omega)).1
        simpa [Addr.add] using World.cell?_spot h0
      subst hs
      rw [Addr.add_lit] at h1
      obtain ⟨po, pl, pc, bs, e4, hB, hpl, hpc, _, hw4, hrr⟩ := open_bytes h2
      have e5 : V k = .slice po pl pc := by simpa using e4
      rw [e5] at h1
      refine ⟨⟨po, pl, pc, bs⟩, ⟨b, off, rfl, cell_lt h1, h1, hB⟩, hpc, fun hw => ?_, hrr⟩
      rcases hw4 with h0 | ⟨el, sp, e4, hel⟩
      · show pl ≤ _
        omega
      · show pl ≤ _
        have hr : reachBytes = 140737488351232 := rfl
        have e6 : D k = .slice el sp := e4
        have := hw ((el.length + sp.length) * Tryd.prog.bytesOf 5) (by
          rw [e6]
          simp [DataW.weights, Tryd.underlying28])
        rw [bytesU8] at this
        omega
    haveI : Inhabited Blv := ⟨⟨none, 0, 0, []⟩⟩
    obtain ⟨Y, hY⟩ := choose_lt (α := Blv) (p := fun k y => (∃ b off, a = ⟨b, off, none⟩ ∧ b < W.heap.size ∧ W.cell? ⟨b, off + k, none⟩ = some (.slice y.po y.pl y.pc) ∧ Byts W y.po y.pl y.bs) ∧ (y.po = none → y.pc = 0) ∧ ((∀ n ∈ (D k).weights Tryd.prog 28, n ≤ reachBytes) → y.pl ≤ 140737488355328) ∧ ∀ z ∈ y.bs, 0 ≤ z ∧ z ≤ 255) key
    refine ⟨some a, cap, (List.range len).map Y, by simp, fun k x hk => ?_, by simp; omega, fun y hy => ?_⟩
    · simp only [List.getElem?_map, Option.map_eq_some_iff] at hk
      obtain ⟨i, hi, rfl⟩ := hk
      obtain ⟨hi1, hi2⟩ := List.getElem?_eq_some_iff.1 hi
      simp at hi1 hi2
      subst hi2
      obtain ⟨⟨b, off, e, ho⟩, _⟩ := hY k hi1
      exact ⟨b, off, by rw [e], ho⟩
    · obtain ⟨i, hi, rfl⟩ := List.mem_map.1 hy
      have hy2 := (hY i (List.mem_range.1 hi)).2
      refine ⟨hy2.1, fun hw => hy2.2.1 fun n hn => hw n ?_, hy2.2.2⟩
      rw [hxe]
      simp only [DataW.weights, Tryd.underlying22]
      exact List.mem_cons_of_mem _ (List.mem_append_left _ (weights_mem_all (List.mem_map_of_mem hi) n hn))
end
end Go.Proofs.YtfkcnnjkflomkaaDoor

/-
  Arguments opened: two tears; both tables that are laid.
-/
namespace Go.Proofs.YtfkcnnjkflomkaaDoor
open Go.ChangeShapes Go.WideShapes Go.ChangeAt Go.RowKit Go.Deep

theorem cellsInt1 : Tryd.prog.cellsOf 3 = 1 := by kernel_rfl
theorem cellsTear : Tryd.prog.cellsOf 51 = 2 := by kernel_rfl
theorem cellsTears : Tryd.prog.cellsOf 52 = 4 := by kernel_rfl
theorem okWide_array {P : Program} {W : World} {r : Reach} {b0 : Nat} {v : Value} {t e : TypeId} {n : Nat} (ht : P.underlying t = some (.array e n)) (h : Value.okWide P W r b0 t v) : ∃ cs, v = .agg cs ∧ cs.size = P.cellsOf t := by
  simp only [Value.okWide, ht] at h
  obtain ⟨cs, h1, h2, _⟩ := h
  exact ⟨cs, h1, h2⟩
theorem tears_two {α : Type} {l : List α} (h : l.length = 2) : ∃ c0 c1, l = [c0, c1] := by
  match l, h with
  | [c0, c1], _ => exact ⟨c0, c1, rfl⟩
theorem tears_four {α : Type} {l : List α} (h : l.length = 4) : ∃ c0 c1 c2 c3, l = [c0, c1, c2, c3] := by
  match l, h with
  | [c0, c1, c2, c3], _ => exact ⟨c0, c1, c2, c3, rfl⟩
section
variable {H : Type} {enc : TypeId × Value → H} {W : World} {base : Nat} {spare : Nat → Bool} {held : Bool}
theorem one_int1 {n : Nat} {c : Value} {x : DataW H × List MemPlace} (h : DataW.trod enc Tryd.prog W base spare held n 3 [c] = some x) : ∃ k, c = .int .i64 k := by
  obtain ⟨k, e, _, _⟩ := DataW.trod_int Tryd.underlying3 h
  exact ⟨k, List.head_eq_of_cons_eq e⟩
theorem open_tear1 {n : Nat} {c0 c1 : Value} {x : DataW H × List MemPlace} (h : DataW.trod enc Tryd.prog W base spare held n 51 [c0, c1] = some x) : ∃ k z, c0 = .int .i64 k ∧ c1 = .int .i64 z := by
  obtain ⟨xs, m, _, _, _, hlen, hfl⟩ := DataW.trod_struct Tryd.underlying51 h
  obtain ⟨x0, x1, rfl⟩ := tears_two (l := xs) hlen
  have g0 : DataW.trod enc Tryd.prog W base spare held m 3 [c0] = some x0 := by simpa [cellsInt1] using hfl 0 _ rfl
  have g1 : DataW.trod enc Tryd.prog W base spare held m 3 [c1] = some x1 := by simpa [cellsInt1] using hfl 1 _ rfl
  obtain ⟨k, rfl⟩ := one_int1 g0
  obtain ⟨z, rfl⟩ := one_int1 g1
  exact ⟨k, z, rfl, rfl⟩
theorem open_tears1 {n : Nat} {c0 c1 c2 c3 : Value} {x : DataW H × List MemPlace} (h : DataW.trod enc Tryd.prog W base spare held n 52 [c0, c1, c2, c3] = some x) :
    ∃ k0 z0 k1 z1, c0 = .int .i64 k0 ∧ c1 = .int .i64 z0 ∧ c2 = .int .i64 k1 ∧ c3 = .int .i64 z1 := by
  obtain ⟨xs, m, _, _, _, hlen, hfl⟩ := DataW.trod_array Tryd.underlying52 h
  obtain ⟨x0, x1, rfl⟩ := tears_two (l := xs) hlen
  have g0 : DataW.trod enc Tryd.prog W base spare held m 51 [c0, c1] = some x0 := by simpa [cellsTear] using hfl 0 (by omega)
  have g1 : DataW.trod enc Tryd.prog W base spare held m 51 [c2, c3] = some x1 := by simpa [cellsTear] using hfl 1 (by omega)
  obtain ⟨k0, z0, rfl, rfl⟩ := open_tear1 g0
  obtain ⟨k1, z1, rfl, rfl⟩ := open_tear1 g1
  exact ⟨k0, z0, k1, z1, rfl, rfl, rfl, rfl⟩
end
end Go.Proofs.YtfkcnnjkflomkaaDoor
