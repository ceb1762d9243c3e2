/-
  Arguments opened: a list of Ops, with the bound of each Op's bytes.
-/
import Derived.Test.YtlgjjemfckmidaaOpenArgs
namespace Go.Proofs.Ytlgjjemfckmidaa
open Go.ChangeShapes Go.WideShapes Go.ChangeAt Go.RowKit Go.Deep

theorem weights_mem_all {H : Type} {P : Program} {e : TypeId} : ∀ {ds : List (DataW H)} {d : DataW H}, d ∈ ds → ∀ n ∈ d.weights P e, n ∈ DataW.weightsAll P e ds
  | d0 :: ds, d, hd, n, hn => by
    simp only [DataW.weightsAll, List.mem_append]
    rcases List.mem_cons.1 hd with rfl | h
    · exact Or.inl hn
    · exact Or.inr (weights_mem_all h n hn)
section
variable {H : Type} {enc : TypeId × Value → H} {W : World} {base : Nat} {spare : Nat → Bool} {held : Bool}
theorem open_op2 {n : Nat} {cs : List Value} {x : DataW H × List MemPlace} {b o : Nat} (h : DataW.trod enc Try.prog W base spare held n 34 cs = some x) (hc : ∀ j v, cs[j]? = some v → W.cell? ⟨b, o + j, none⟩ = some v) :
    ∃ y : Opv, OpAt W b o y ∧ y.pl ≤ maxLen ∧ (y.po = none → y.pc = 0) ∧ ((∀ n ∈ x.1.weights Try.prog 34, n ≤ reachBytes) → y.pl ≤ 140737488355328) := by
  obtain ⟨xs, m, _, hxe, hcl, hlen, hfl⟩ := DataW.trod_struct Try.underlying34 h
  obtain ⟨c0, c1, c2, c3, c4, c5, c6, c7, c8, rfl⟩ := nine (l := cs) (by rw [hcl, cellsOp])
  obtain ⟨x0, x1, x2, x3, x4, x5, rfl⟩ := six (l := xs) hlen
  have g0 : DataW.trod enc Try.prog W base spare held m 3 [c0] = some x0 := by simpa [cellsInt] using hfl 0 _ rfl
  have g1 : DataW.trod enc Try.prog W base spare held m 3 [c1] = some x1 := by simpa [cellsInt] using hfl 1 _ rfl
  have g2 : DataW.trod enc Try.prog W base spare held m 3 [c2] = some x2 := by simpa [cellsInt] using hfl 2 _ rfl
  have g3 : DataW.trod enc Try.prog W base spare held m 3 [c3] = some x3 := by simpa [cellsInt] using hfl 3 _ rfl
  have g4 : DataW.trod enc Try.prog W base spare held m 25 [c4] = some x4 := by simpa [cellsBytes] using hfl 4 _ rfl
  have g5 : DataW.trod enc Try.prog W base spare held m 32 [c5, c6, c7, c8] = some x5 := by simpa [cellsTears] using hfl 5 _ rfl
  obtain ⟨kd, rfl⟩ := one_int g0
  obtain ⟨ar, rfl⟩ := one_int g1
  obtain ⟨at_, rfl⟩ := one_int g2
  obtain ⟨nn, rfl⟩ := one_int g3
  obtain ⟨po, pl, pc, bs, e4, hB, hpl, hpc, _, hw4, _⟩ := open_bytes g4
  obtain rfl := List.head_eq_of_cons_eq e4
  obtain ⟨t0, t1, t2, t3, rfl, rfl, rfl, rfl⟩ := open_tears g5
  refine ⟨⟨kd, ar, at_, nn, po, pl, pc, t0, t1, t2, t3, bs⟩, ⟨cell_lt (hc 0 _ rfl), hc 0 _ rfl, hc 1 _ rfl, hc 2 _ rfl, hc 3 _ rfl, hc 4 _ rfl, hc 5 _ rfl, hc 6 _ rfl, hc 7 _ rfl, hc 8 _ rfl, hB⟩, hpl, hpc, fun hw => ?_⟩
  rcases hw4 with h0 | ⟨el, sp, e4, hel⟩
  · show pl ≤ _
    omega
  · show pl ≤ _
    have hr := reachBytes_lt
    have := hw ((el.length + sp.length) * Try.prog.bytesOf 5) (by
      rw [hxe]
      simp only [DataW.weights, Try.underlying34]
      refine DataW.weights_mem_each (j := 4) (t := 25) (d := x4.1) rfl rfl _ ?_
      rw [e4]
      simp [DataW.weights, Try.underlying25])
    rw [bytesU8] at this
    omega
theorem open_ops2 {n : Nat} {cs : List Value} {x : DataW H × List MemPlace} (h : DataW.trod enc Try.prog W base spare held n 22 cs = some x) :
    ∃ ao cap xs, cs = [.slice ao xs.length cap] ∧ Ops W ao xs ∧ xs.length ≤ maxLen ∧ ∀ y ∈ xs, y.pl ≤ maxLen ∧ (y.po = none → y.pc = 0) ∧ ((∀ n ∈ x.1.weights Try.prog 22, n ≤ reachBytes) → y.pl ≤ 140737488355328) := by
  rcases open_slice Try.underlying22 h with ⟨rfl, _⟩ | ⟨a, len, cap, m, n', D, Pl, rfl, _, hl, hm, hmm, hxe, hx⟩
  · exact ⟨none, 0, [], rfl, fun k x hk => (by simp at hk), Nat.zero_le _, fun y hy => (by cases hy)⟩
  · have hlm : len ≤ m := by rw [hmm]; split <;> omega
    have key : ∀ k, k < len → ∃ y : Opv, (∃ b off, a = ⟨b, off, none⟩ ∧ OpAt W b (off + k * 9) y) ∧ y.pl ≤ maxLen ∧ (y.po = none → y.pc = 0) ∧ ((∀ n ∈ (D k).weights Try.prog 34, n ≤ reachBytes) → y.pl ≤ 140737488355328) := by
      have hsp : 0 < len → a.spot = none := fun h0 => by
        obtain ⟨cs', h1, _⟩ := hx 0 (by omega)
        rw [Nat.zero_mul] at h1
        obtain ⟨b, o, e, _⟩ := cells_at h1 (by rw [cellsOp]; decide)
        have : a.add 0 = a := rfl
        rw [this] at e; rw [e]
      intro k hk
      obtain ⟨b, off, sp⟩ := a
      obtain rfl : sp = none := hsp (by omega)
      obtain ⟨cs', h1, h2⟩ := hx k (by omega)
      rw [cellsOp] at h1
      obtain ⟨b', o', e, hc⟩ := cells_at h1 (by decide)
      rw [Addr.add_lit] at e
      obtain ⟨rfl, rfl⟩ : b = b' ∧ off + k * 9 = o' := by simpa using e
      obtain ⟨y, hy, hp⟩ := open_op2 h2 hc
      exact ⟨y, ⟨b, off, rfl, hy⟩, hp⟩
    haveI : Inhabited Opv := ⟨⟨0, 0, 0, 0, none, 0, 0, 0, 0, 0, 0, []⟩⟩
    obtain ⟨Y, hY⟩ := choose_lt (α := Opv) (p := fun k y => (∃ b off, a = ⟨b, off, none⟩ ∧ OpAt W b (off + k * 9) y) ∧ y.pl ≤ maxLen ∧ (y.po = none → y.pc = 0) ∧ ((∀ n ∈ (D k).weights Try.prog 34, n ≤ reachBytes) → y.pl ≤ 140737488355328)) key
    refine ⟨some a, cap, (List.range len).map Y, by simp, fun k x hk => ?_, by simp; omega, fun y hy => ?_⟩
    · simp only [List.getElem?_map, Option.map_eq_some_iff] at hk
      obtain ⟨i, hi, rfl⟩ := hk
      obtain ⟨hi1, hi2⟩ := List.getElem?_eq_some_iff.1 hi
      simp at hi1 hi2
      subst hi2
      obtain ⟨⟨b, off, e, ho⟩, _⟩ := hY k hi1
      exact ⟨b, off, by rw [e], ho⟩
    · obtain ⟨i, hi, rfl⟩ := List.mem_map.1 hy
      have hy2 := (hY i (List.mem_range.1 hi)).2
      refine ⟨hy2.1, hy2.2.1, fun hw => hy2.2.2 fun n hn => hw n ?_⟩
      rw [hxe]
      simp only [DataW.weights, Try.underlying22]
      exact List.mem_cons_of_mem _ (List.mem_append_left _ (weights_mem_all (List.mem_map_of_mem hi) n hn))
end
end Go.Proofs.Ytlgjjemfckmidaa
