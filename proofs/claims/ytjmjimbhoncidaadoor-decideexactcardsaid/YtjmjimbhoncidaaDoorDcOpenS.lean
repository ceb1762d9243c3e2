/-
  Arguments opened: steps.
-/
import Derived.Test.YtjmjimbhoncidaaDoorDcOpen
import Derived.Test.YtjmjimbhoncidaaDoorDcEnds
import Derived.SizedLaws
namespace Go.Proofs.YtjmjimbhoncidaaDoor
open Go.ChangeShapes Go.WideShapes Go.ChangeAt Go.RowKit Go.Deep

theorem cellsStep : Tryd.prog.cellsOf 83 = 3 := by kernel_rfl
theorem bytesStep : Tryd.prog.bytesOf 83 = 32 := by kernel_rfl
section
variable {H : Type} {enc : TypeId × Value → H} {W : World} {base : Nat} {spare : Nat → Bool} {held : Bool}
theorem cells_at {a : Addr} {n : Nat} {cs : List Value} (h : W.cells? base a n = some cs) (hn : 0 < n) : ∃ b o, a = ⟨b, o, none⟩ ∧ ∀ j v, cs[j]? = some v → W.cell? ⟨b, o + j, none⟩ = some v := by
  obtain ⟨_, hlen, hc⟩ := World.cells?_some h
  obtain ⟨b, o, sp⟩ := a
  have h0 := hc 0 hn
  rw [List.getElem?_eq_getElem (by omega)] at h0
  have hs : sp = none := by simpa [Addr.add] using World.cell?_spot h0
  subst hs
  refine ⟨b, o, rfl, fun j v hv => ?_⟩
  have hj : j < n := by rw [← hlen]; exact (List.getElem?_eq_some_iff.1 hv).1
  have := hc j hj
  rw [Addr.add_lit] at this
  rw [this, hv]
set_option maxRecDepth 100000 in
set_option maxHeartbeats 1000000 in
theorem open_step {n : Nat} {cs : List Value} {x : DataW H × List MemPlace} {b o : Nat} (h : DataW.trod enc Tryd.prog W base spare held n 83 cs = some x) (hc : ∀ j v, cs[j]? = some v → W.cell? ⟨b, o + j, none⟩ = some v) :
    ∃ y : Bool × ByteArray × Bool, b < W.heap.size ∧ W.cell? ⟨b, o, none⟩ = some (.bool y.1) ∧ W.cell? ⟨b, o + 1, none⟩ = some (.string y.2.1) ∧ W.cell? ⟨b, o + 2, none⟩ = some (.bool y.2.2) := by
  obtain ⟨xs, m, _, _, hcl, hlen, hfl⟩ := DataW.trod_struct Tryd.underlying83 h
  obtain ⟨c0, c1, c2, rfl⟩ := three (l := cs) (by rw [hcl, cellsStep])
  obtain ⟨x0, x1, x2, rfl⟩ := three (l := xs) hlen
  have g0 : DataW.trod enc Tryd.prog W base spare held m 4 [c0] = some x0 := by simpa [cellsBool] using hfl 0 _ rfl
  have g1 : DataW.trod enc Tryd.prog W base spare held m 9 [c1] = some x1 := by simpa [cellsString] using hfl 1 _ rfl
  have g2 : DataW.trod enc Tryd.prog W base spare held m 4 [c2] = some x2 := by simpa [cellsBool] using hfl 2 _ rfl
  obtain ⟨k0, rfl, _⟩ := one_bool g0
  obtain ⟨k1, rfl, _⟩ := one_string g1
  obtain ⟨k2, rfl, _⟩ := one_bool g2
  exact ⟨(k0, k1, k2), cell_lt (hc 0 _ rfl), hc 0 _ rfl, hc 1 _ rfl, hc 2 _ rfl⟩
set_option maxRecDepth 100000 in
set_option maxHeartbeats 1000000 in
theorem open_steps {n : Nat} {cs : List Value} {x : DataW H × List MemPlace} (h : DataW.trod enc Tryd.prog W base spare held n 78 cs = some x) :
    ∃ ao cap xs, cs = [.slice ao xs.length cap] ∧ Stps W ao xs ∧ (xs.length = 0 ∨ ∃ el sp, x.1 = .slice el sp ∧ el.length = xs.length) := by
  rcases open_slice Tryd.underlying78 h with ⟨rfl, _⟩ | ⟨a, len, cap, m, n', D, Pl, rfl, _, hl, hm, hmm, hxx, hx⟩
  · exact ⟨none, 0, [], rfl, fun k x hk => (by simp at hk), Or.inl rfl⟩
  · have hlm : len ≤ m := by rw [hmm]; split <;> omega
    have key : ∀ k, k < len → ∃ y : Bool × ByteArray × Bool, ∃ b off, a = ⟨b, off, none⟩ ∧ b < W.heap.size ∧ W.cell? ⟨b, off + k * 3, none⟩ = some (.bool y.1) ∧ W.cell? ⟨b, off + k * 3 + 1, none⟩ = some (.string y.2.1) ∧ W.cell? ⟨b, off + k * 3 + 2, none⟩ = some (.bool y.2.2) := by
      have hsp : 0 < len → a.spot = none := fun h0 => by
        obtain ⟨cs', h1, _⟩ := hx 0 (by omega)
        rw [Nat.zero_mul] at h1
        obtain ⟨b, o, e, _⟩ := cells_at h1 (by rw [cellsStep]; decide)
        have : a.add 0 = a := rfl
        rw [this] at e; rw [e]
      intro k hk
      obtain ⟨b, off, sp⟩ := a
      obtain rfl : sp = none := hsp (by omega)
      obtain ⟨cs', h1, h2⟩ := hx k (by omega)
      rw [cellsStep] at h1
      obtain ⟨b', o', e, hc⟩ := cells_at h1 (by decide)
      rw [Addr.add_lit] at e
      obtain ⟨rfl, rfl⟩ : b = b' ∧ off + k * 3 = o' := by simpa using e
      obtain ⟨y, hy⟩ := open_step h2 hc
      exact ⟨y, b, off, rfl, hy⟩
    haveI : Inhabited (Bool × ByteArray × Bool) := ⟨(false, ⟨#[]⟩, false)⟩
    obtain ⟨Y, hY⟩ := choose_lt (α := Bool × ByteArray × Bool) (p := fun k y => ∃ b off, a = ⟨b, off, none⟩ ∧ b < W.heap.size ∧ W.cell? ⟨b, off + k * 3, none⟩ = some (.bool y.1) ∧ W.cell? ⟨b, off + k * 3 + 1, none⟩ = some (.string y.2.1) ∧ W.cell? ⟨b, off + k * 3 + 2, none⟩ = some (.bool y.2.2)) key
    refine ⟨some a, cap, (List.range len).map Y, by simp, fun k x hk => ?_, Or.inr ⟨_, _, by rw [hxx], by simp⟩⟩
    simp only [List.getElem?_map, Option.map_eq_some_iff] at hk
    obtain ⟨i, hi, rfl⟩ := hk
    obtain ⟨hi1, hi2⟩ := List.getElem?_eq_some_iff.1 hi
    simp at hi1 hi2
    subst hi2
    obtain ⟨b, off, e, ho⟩ := hY k hi1
    exact ⟨b, off, by rw [e], ho⟩
end
end Go.Proofs.YtjmjimbhoncidaaDoor
