/-
  Arguments opened: lists of Outs, Made.
-/
import Derived.Test.YtigmgbnfiiobeaaDoorOxOpenP
import Derived.Test.YtigmgbnfiiobeaaDoorOxOuts
namespace Go.Proofs.YtigmgbnfiiobeaaDoor
open Go.ChangeShapes Go.WideShapes Go.ChangeAt Go.RowKit Go.Deep

theorem cellsOut : Tryd.prog.cellsOf 45 = 7 := by kernel_rfl
theorem cellsOuts : Tryd.prog.cellsOf 22 = 1 := by kernel_rfl
theorem cellsMade : Tryd.prog.cellsOf 24 = 3 := by kernel_rfl
theorem bytesOut : Tryd.prog.bytesOf 45 = 80 := by kernel_rfl
theorem fiveL {α : Type} {l : List α} (h : l.length = 5) : ∃ c0 c1 c2 c3 c4, l = [c0, c1, c2, c3, c4] := by
  match l, h with
  | [c0, c1, c2, c3, c4], _ => exact ⟨c0, c1, c2, c3, c4, rfl⟩
theorem sevenL {α : Type} {l : List α} (h : l.length = 7) : ∃ c0 c1 c2 c3 c4 c5 c6, l = [c0, c1, c2, c3, c4, c5, c6] := by
  match l, h with
  | [c0, c1, c2, c3, c4, c5, c6], _ => exact ⟨c0, c1, c2, c3, c4, c5, c6, rfl⟩
section
variable {H : Type} {enc : TypeId × Value → H} {W : World} {base : Nat} {spare : Nat → Bool} {held : Bool}
set_option maxRecDepth 100000 in
set_option maxHeartbeats 1000000 in
theorem open_out {n : Nat} {cs : List Value} {x : DataW H × List MemPlace} {b o : Nat} (h : DataW.trod enc Tryd.prog W base spare held n 45 cs = some x) (hc : ∀ j v, cs[j]? = some v → W.cell? ⟨b, o + j, none⟩ = some v) :
    ∃ y : Msg, OutAt W b o y ∧ Plain y := by
  obtain ⟨xs, m, _, hxe, hcl, hlen, hfl⟩ := DataW.trod_struct Tryd.underlying45 h
  obtain ⟨c0, c1, c2, c3, c4, c5, c6, rfl⟩ := sevenL (l := cs) (by rw [hcl, cellsOut])
  obtain ⟨x0, x1, x2, x3, x4, rfl⟩ := fiveL (l := xs) hlen
  have g0 : DataW.trod enc Tryd.prog W base spare held m 9 [c0] = some x0 := by simpa [cellsString] using hfl 0 _ rfl
  have g1 : DataW.trod enc Tryd.prog W base spare held m 35 [c1] = some x1 := by simpa [cellsBytes] using hfl 1 _ rfl
  have g2 : DataW.trod enc Tryd.prog W base spare held m 37 [c2, c3, c4] = some x2 := by simpa [cellsCond] using hfl 2 _ rfl
  have g3 : DataW.trod enc Tryd.prog W base spare held m 3 [c5] = some x3 := by simpa [cellsInt] using hfl 3 _ rfl
  have g4 : DataW.trod enc Tryd.prog W base spare held m 4 [c6] = some x4 := by simpa [cellsBool] using hfl 4 _ rfl
  obtain ⟨ct, rfl, _⟩ := one_string g0
  obtain ⟨po, pl, pc, bs, e2, hB, hpc, _⟩ := open_bytes g1
  obtain rfl := List.head_eq_of_cons_eq e2
  obtain ⟨ys, m3, _, _, _, hlen3, hfl3⟩ := DataW.trod_struct Tryd.underlying37 g2
  obtain ⟨y0, y1, y2, rfl⟩ := three (l := ys) hlen3
  have k0 : DataW.trod enc Tryd.prog W base spare held m3 4 [c2] = some y0 := by simpa [cellsBool] using hfl3 0 _ rfl
  have k1 : DataW.trod enc Tryd.prog W base spare held m3 3 [c3] = some y1 := by simpa [cellsInt] using hfl3 1 _ rfl
  have k2 : DataW.trod enc Tryd.prog W base spare held m3 3 [c4] = some y2 := by simpa [cellsInt] using hfl3 2 _ rfl
  obtain ⟨ee, rfl, _⟩ := one_bool k0
  obtain ⟨aa, rfl, _⟩ := one_int k1
  obtain ⟨pp, rfl, _⟩ := one_int k2
  obtain ⟨nu, rfl, _⟩ := one_int g3
  obtain ⟨nt, rfl, _⟩ := one_bool g4
  exact ⟨⟨ct, po, pl, pc, bs, ee, aa, pp, nu, nt, 0, 0, false⟩, ⟨cell_lt (hc 0 _ rfl), hc 0 _ rfl, hc 1 _ rfl, hc 2 _ rfl, hc 3 _ rfl, hc 4 _ rfl, hc 5 _ rfl, hc 6 _ rfl, hB, hpc⟩, rfl, rfl, rfl⟩
set_option maxRecDepth 100000 in
set_option maxHeartbeats 1000000 in
theorem open_outs {n : Nat} {cs : List Value} {x : DataW H × List MemPlace} (h : DataW.trod enc Tryd.prog W base spare held n 22 cs = some x) :
    ∃ ao cap xs, cs = [.slice ao xs.length cap] ∧ Outs W ao xs ∧ (∀ y ∈ xs, Plain y) ∧ (xs.length = 0 ∨ ∃ el sp, x.1 = .slice el sp ∧ el.length = xs.length) := by
  rcases open_slice Tryd.underlying22 h with ⟨rfl, _⟩ | ⟨a, len, cap, m, n', D, Pl, rfl, _, hl, hm, hmm, hxe, hx⟩
  · exact ⟨none, 0, [], rfl, fun k x hk => (by simp at hk), fun y hy => (by cases hy), Or.inl rfl⟩
  · have hlm : len ≤ m := by rw [hmm]; split <;> omega
    have key : ∀ k, k < len → ∃ y : Msg, (∃ b off, a = ⟨b, off, none⟩ ∧ OutAt W b (off + k * 7) y) ∧ Plain y := by
      have hsp : 0 < len → a.spot = none := fun h0 => by
        obtain ⟨cs', h1, _⟩ := hx 0 (by omega)
        rw [Nat.zero_mul] at h1
        obtain ⟨b, o, e, _⟩ := cells_at h1 (by rw [cellsOut]; decide)
        have : a.add 0 = a := rfl
        rw [this] at e; rw [e]
      intro k hk
      obtain ⟨b, off, sp⟩ := a
      obtain rfl : sp = none := hsp (by omega)
      obtain ⟨cs', h1, h2⟩ := hx k (by omega)
      rw [cellsOut] at h1
      obtain ⟨b', o', e, hc⟩ := cells_at h1 (by decide)
      rw [Addr.add_lit] at e
      obtain ⟨rfl, rfl⟩ : b = b' ∧ off + k * 7 = o' := by simpa using e
      obtain ⟨y, hy, hp⟩ := open_out h2 hc
      exact ⟨y, ⟨b, off, rfl, hy⟩, hp⟩
    haveI : Inhabited Msg := ⟨zM⟩
    obtain ⟨Y, hY⟩ := choose_lt (α := Msg) (p := fun k y => (∃ b off, a = ⟨b, off, none⟩ ∧ OutAt W b (off + k * 7) y) ∧ Plain y) key
    refine ⟨some a, cap, (List.range len).map Y, by simp, fun k x hk => ?_, fun y hy => ?_, Or.inr ⟨_, _, by rw [hxe], by simp⟩⟩
    · simp only [List.getElem?_map, Option.map_eq_some_iff] at hk
      obtain ⟨i, hi, rfl⟩ := hk
      obtain ⟨hi1, hi2⟩ := List.getElem?_eq_some_iff.1 hi
      simp at hi1 hi2
      subst hi2
      obtain ⟨⟨b, off, e, ho⟩, _⟩ := hY k hi1
      exact ⟨b, off, by rw [e], ho⟩
    · obtain ⟨i, hi, rfl⟩ := List.mem_map.1 hy
      exact (hY i (List.mem_range.1 hi)).2
set_option maxRecDepth 100000 in
set_option maxHeartbeats 1000000 in
theorem open_made {r : Reach} {b0 : Nat} {v : Value} {d : DataW H} {p : List MemPlace}
    (hv : Value.okWide Tryd.prog W r b0 24 v) (h : DataW.Trod enc Tryd.prog W base spare held 24 v d p) :
    ∃ ao cap xs sq tr, v = .agg #[.slice ao (List.length xs) cap, .bool sq, .int .i64 tr] ∧ Outs W ao xs ∧ (∀ y ∈ xs, Plain y) ∧ ((∀ n ∈ d.weights Tryd.prog 24, n ≤ reachBytes) → xs.length ≤ 140737488355328) := by
  obtain ⟨cs, rfl, hsz⟩ := okWide_struct Tryd.underlying24 hv
  obtain ⟨l⟩ := cs
  obtain ⟨c0, c1, c2, rfl⟩ := three (l := l) (by simpa [cellsMade] using hsz)
  obtain ⟨fuel, hf⟩ := h
  obtain ⟨xs, n, _, hx, hl, hlen, hfl⟩ := DataW.trod_struct Tryd.underlying24 hf
  obtain ⟨x0, x1, x2, rfl⟩ := three (l := xs) hlen
  have g0 : DataW.trod enc Tryd.prog W base spare held n 22 [c0] = some x0 := by simpa [Value.cells, cellsOuts] using hfl 0 _ rfl
  have g1 : DataW.trod enc Tryd.prog W base spare held n 4 [c1] = some x1 := by simpa [Value.cells, cellsBool] using hfl 1 _ rfl
  have g2 : DataW.trod enc Tryd.prog W base spare held n 3 [c2] = some x2 := by simpa [Value.cells, cellsInt] using hfl 2 _ rfl
  obtain ⟨ao, cap, ys, e0, hO, hP, hW⟩ := open_outs g0
  obtain rfl := List.head_eq_of_cons_eq e0
  obtain ⟨k1, rfl, _⟩ := one_bool g1
  obtain ⟨k2, rfl, _⟩ := one_int g2
  refine ⟨ao, cap, ys, k1, k2, rfl, hO, hP, fun hw => ?_⟩
  rcases hW with h0 | ⟨el, sp, e4, hel⟩
  · omega
  · have hr := reachBytes_lt
    have := hw ((el.length + sp.length) * Tryd.prog.bytesOf 45) (by
      have hd : d = .agg ([x0, x1, x2].map (·.1)) := congrArg Prod.fst hx
      rw [hd]
      simp only [DataW.weights, Tryd.underlying24]
      refine DataW.weights_mem_each (j := 0) (t := 22) (d := x0.1) rfl rfl _ ?_
      rw [e4]
      simp [DataW.weights, Tryd.underlying22])
    rw [bytesOut] at this
    omega
end
end Go.Proofs.YtigmgbnfiiobeaaDoor
