import Derived.Test.YtigmgbnfiiobeaaDoorOxZero
import Derived.Test.YtigmgbnfiiobeaaDoorOxOpen
/-
  Picks that came in.
-/
namespace Go.Proofs.YtigmgbnfiiobeaaDoor
open Go.RowKit

/-- A Pick that came in. -/
def PickAt (w : World) (b o : Nat) (x : Opv × Int) : Prop := OpAt w b o x.1 ∧ w.cell? ⟨b, o + 8, none⟩ = some (.int .i64 x.2)
def Picks (w : World) (ao : Option Addr) (xs : List (Opv × Int)) : Prop := ∀ (j : Nat) (x : Opv × Int), xs[j]? = some x → ∃ b off, ao = some ⟨b, off, none⟩ ∧ PickAt w b (off + j * 9) x
theorem PickAt.below {w w' : World} {b o : Nat} {x : Opv × Int} (h : PickAt w b o x) (hb : Below w.heap.size w w') : PickAt w' b o x := ⟨h.1.below hb, by rw [hb.cell (p := ⟨b, o + 8, none⟩) h.1.lt]; exact h.2⟩
end Go.Proofs.YtigmgbnfiiobeaaDoor

/-
  Arguments opened: Picks.
-/
namespace Go.Proofs.YtigmgbnfiiobeaaDoor
open Go.ChangeShapes Go.WideShapes Go.ChangeAt Go.RowKit Go.Deep

section
variable {H : Type} {enc : TypeId × Value → H} {W : World} {base : Nat} {spare : Nat → Bool} {held : Bool}
set_option maxRecDepth 100000 in
set_option maxHeartbeats 1000000 in
theorem open_pick {n : Nat} {cs : List Value} {x : DataW H × List MemPlace} {b o : Nat} (h : DataW.trod enc Tryd.prog W base spare held n 41 cs = some x) (hc : ∀ j v, cs[j]? = some v → W.cell? ⟨b, o + j, none⟩ = some v) :
    ∃ y : Opv × Int, PickAt W b o y ∧ ((∀ n ∈ x.1.weights Tryd.prog 41, n ≤ reachBytes) → y.1.tn ≤ 140737488355328) := by
  obtain ⟨xs, m, _, hxe, hcl, hlen, hfl⟩ := DataW.trod_struct Tryd.underlying41 h
  obtain ⟨c0, c1, c2, c3, c4, c5, c6, c7, c8, rfl⟩ := nine (l := cs) (by rw [hcl, cellsPick])
  obtain ⟨x0, x1, rfl⟩ := two (l := xs) hlen
  have g0 : DataW.trod enc Tryd.prog W base spare held m 39 [c0, c1, c2, c3, c4, c5, c6, c7] = some x0 := by simpa [cellsOp] using hfl 0 _ rfl
  have g1 : DataW.trod enc Tryd.prog W base spare held m 3 [c8] = some x1 := by simpa [cellsOp, cellsInt] using hfl 1 _ rfl
  obtain ⟨of, rfl, _⟩ := one_int g1
  obtain ⟨y, hy, hp⟩ := open_op (b := b) (o := o) g0 (fun j v hv => hc j v (by
    have hj : j < 8 := (List.getElem?_eq_some_iff.1 hv).1
    rw [show ([c0, c1, c2, c3, c4, c5, c6, c7, .int .i64 of] : List Value) = [c0, c1, c2, c3, c4, c5, c6, c7] ++ [.int .i64 of] from rfl, List.getElem?_append_left (by exact hj)]
    exact hv))
  refine ⟨(y, of), ⟨hy, hc 8 _ rfl⟩, fun hw => hp fun n hn => hw n ?_⟩
  rw [hxe]
  simp only [DataW.weights, Tryd.underlying41]
  exact DataW.weights_mem_each (j := 0) (t := 39) (d := x0.1) rfl rfl _ hn
set_option maxRecDepth 100000 in
set_option maxHeartbeats 1000000 in
theorem open_picks {n : Nat} {cs : List Value} {x : DataW H × List MemPlace} (h : DataW.trod enc Tryd.prog W base spare held n 25 cs = some x) :
    ∃ ao cap xs, cs = [.slice ao xs.length cap] ∧ Picks W ao xs ∧ (xs.length = 0 ∨ ∃ el sp, x.1 = .slice el sp ∧ el.length = xs.length) ∧ ∀ y ∈ xs, (∀ n ∈ x.1.weights Tryd.prog 25, n ≤ reachBytes) → y.1.tn ≤ 140737488355328 := by
  rcases open_slice Tryd.underlying25 h with ⟨rfl, _⟩ | ⟨a, len, cap, m, n', D, Pl, rfl, _, hl, hm, hmm, hxe, hx⟩
  · exact ⟨none, 0, [], rfl, fun k x hk => (by simp at hk), Or.inl rfl, fun y hy => (by cases hy)⟩
  · have hlm : len ≤ m := by rw [hmm]; split <;> omega
    have key : ∀ k, k < len → ∃ y : (Opv × Int), (∃ b off, a = ⟨b, off, none⟩ ∧ PickAt W b (off + k * 9) y) ∧ ((∀ n ∈ (D k).weights Tryd.prog 41, n ≤ reachBytes) → y.1.tn ≤ 140737488355328) := by
      have hsp : 0 < len → a.spot = none := fun h0 => by
        obtain ⟨cs', h1, _⟩ := hx 0 (by omega)
        rw [Nat.zero_mul] at h1
        obtain ⟨b, o, e, _⟩ := cells_at h1 (by rw [cellsPick]; decide)
        have : a.add 0 = a := rfl
        rw [this] at e; rw [e]
      intro k hk
      obtain ⟨b, off, sp⟩ := a
      obtain rfl : sp = none := hsp (by omega)
      obtain ⟨cs', h1, h2⟩ := hx k (by omega)
      rw [cellsPick] at h1
      obtain ⟨b', o', e, hc⟩ := cells_at h1 (by decide)
      rw [Addr.add_lit] at e
      obtain ⟨rfl, rfl⟩ : b = b' ∧ off + k * 9 = o' := by simpa using e
      obtain ⟨y, hy, hp⟩ := open_pick h2 hc
      exact ⟨y, ⟨b, off, rfl, hy⟩, hp⟩
    haveI : Inhabited (Opv × Int) := ⟨(⟨0, ⟨#[]⟩, none, 0, 0, [], false, 0, 0, ⟨#[]⟩, 0⟩, 0)⟩
    obtain ⟨Y, hY⟩ := choose_lt (α := (Opv × Int)) (p := fun k y => (∃ b off, a = ⟨b, off, none⟩ ∧ PickAt W b (off + k * 9) y) ∧ ((∀ n ∈ (D k).weights Tryd.prog 41, n ≤ reachBytes) → y.1.tn ≤ 140737488355328)) key
    refine ⟨some a, cap, (List.range len).map Y, by simp, fun k x hk => ?_, Or.inr ⟨_, _, by rw [hxe], by simp⟩, fun y hy => ?_⟩
    · simp only [List.getElem?_map, Option.map_eq_some_iff] at hk
      obtain ⟨i, hi, rfl⟩ := hk
      obtain ⟨hi1, hi2⟩ := List.getElem?_eq_some_iff.1 hi
      simp at hi1 hi2
      subst hi2
      obtain ⟨⟨b, off, e, ho⟩, _⟩ := hY k hi1
      exact ⟨b, off, by rw [e], ho⟩
    · obtain ⟨i, hi, rfl⟩ := List.mem_map.1 hy
      have hy2 := (hY i (List.mem_range.1 hi)).2
      refine fun hw => hy2 fun n hn => hw n ?_
      rw [hxe]
      simp only [DataW.weights, Tryd.underlying25]
      exact List.mem_cons_of_mem _ (List.mem_append_left _ (weights_mem_all (List.mem_map_of_mem hi) n hn))
end
end Go.Proofs.YtigmgbnfiiobeaaDoor
