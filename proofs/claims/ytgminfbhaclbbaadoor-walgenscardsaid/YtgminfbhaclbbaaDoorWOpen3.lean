/-
  An opening of [][]byte that tells that the bytes are bytes.
-/
import Derived.Test.YtgminfbhaclbbaaDoorWOpen2
namespace Go.Proofs.YtgminfbhaclbbaaDoor
open Go.ChangeShapes Go.WideShapes Go.ChangeAt Go.RowKit Go.Deep

section
variable {H : Type} {enc : TypeId × Value → H} {W : World} {base : Nat} {spare : Nat → Bool} {held : Bool}
theorem open_lists2 {n : Nat} {cs : List Value} {x : DataW H × List MemPlace} (h : DataW.trod enc Tryd.prog W base spare held n 22 cs = some x) :
    ∃ ao cap xs, cs = [.slice ao xs.length cap] ∧ Bls W ao xs ∧ xs.length ≤ maxLen ∧ ∀ y ∈ xs, (y.po = none → y.pc = 0) ∧ ((∀ n ∈ x.1.weights Tryd.prog 22, n ≤ reachBytes) → y.pl ≤ 140737488355328) ∧ ∀ z ∈ y.bs, 0 ≤ z ∧ z ≤ 255 := by
  rcases open_slice1 Tryd.underlying22 cellsBytes1 h with ⟨rfl, _⟩ | ⟨a, len, cap, m, n', V, D, Pl, rfl, _, hl, hm, hmm, hxe, hx⟩
  · exact ⟨none, 0, [], rfl, fun k x hk => (by simp at hk), Nat.zero_le _, fun y hy => (by cases hy)⟩
  · have hlm : len ≤ m := by rw [hmm]; split <;> omega
    have key : ∀ k, k < len → ∃ y : Blv, (∃ b off, a = ⟨b, off, none⟩ ∧ b < W.heap.size ∧ W.cell? ⟨b, off + k, none⟩ = some (.slice y.po y.pl y.pc) ∧ Byts W y.po y.pl y.bs) ∧ (y.po = none → y.pc = 0) ∧ ((∀ n ∈ (D k).weights Tryd.prog 28, n ≤ reachBytes) → y.pl ≤ 140737488355328) ∧ ∀ z ∈ y.bs, 0 ≤ z ∧ z ≤ 255 := by
      intro k hk
      obtain ⟨h1, h2⟩ := hx k (by omega)
      obtain ⟨b, off, sp⟩ := a
      have hs : sp = none := by
        have h0 := (hx 0 (by omega)).1
        simpa [Addr.add] using World.cell?_spot h0
      subst hs
      rw [Addr.add_lit] at h1
      obtain ⟨po, pl, pc, bs, e4, hB, hpl, hpc, _, hw4, hrr⟩ := open_bytes h2
      have e5 : V k = .slice po pl pc := by simpa using e4
      rw [e5] at h1
      refine ⟨⟨po, pl, pc, bs⟩, ⟨b, off, rfl, cell_lt h1, h1, hB⟩, hpc, fun hw => ?_, hrr⟩
      rcases hw4 with h0 | ⟨el, sp, e4, hel⟩
      · show pl ≤ _
        omega
      · show pl ≤ _
        have hr : reachBytes = 140737488351232 := rfl
        have e6 : D k = .slice el sp := e4
        have := hw ((el.length + sp.length) * Tryd.prog.bytesOf 5) (by
          rw [e6]
          simp [DataW.weights, Tryd.underlying28])
        rw [bytesU8] at this
        omega
    haveI : Inhabited Blv := ⟨⟨none, 0, 0, []⟩⟩
    obtain ⟨Y, hY⟩ := choose_lt (α := Blv) (p := fun k y => (∃ b off, a = ⟨b, off, none⟩ ∧ b < W.heap.size ∧ W.cell? ⟨b, off + k, none⟩ = some (.slice y.po y.pl y.pc) ∧ Byts W y.po y.pl y.bs) ∧ (y.po = none → y.pc = 0) ∧ ((∀ n ∈ (D k).weights Tryd.prog 28, n ≤ reachBytes) → y.pl ≤ 140737488355328) ∧ ∀ z ∈ y.bs, 0 ≤ z ∧ z ≤ 255) key
    refine ⟨some a, cap, (List.range len).map Y, by simp, fun k x hk => ?_, by simp; omega, fun y hy => ?_⟩
    · simp only [List.getElem?_map, Option.map_eq_some_iff] at hk
      obtain ⟨i, hi, rfl⟩ := hk
      obtain ⟨hi1, hi2⟩ := List.getElem?_eq_some_iff.1 hi
      simp at hi1 hi2
      subst hi2
      obtain ⟨⟨b, off, e, ho⟩, _⟩ := hY k hi1
      exact ⟨b, off, by rw [e], ho⟩
    · obtain ⟨i, hi, rfl⟩ := List.mem_map.1 hy
      have hy2 := (hY i (List.mem_range.1 hi)).2
      refine ⟨hy2.1, fun hw => hy2.2.1 fun n hn => hw n ?_, hy2.2.2⟩
      rw [hxe]
      simp only [DataW.weights, Tryd.underlying22]
      exact List.mem_cons_of_mem _ (List.mem_append_left _ (weights_mem_all (List.mem_map_of_mem hi) n hn))
end
end Go.Proofs.YtgminfbhaclbbaaDoor
