/-
  Arguments opened: byte strings, a list of Ops.
-/
import Derived.Test.YtlgjjemfckmidaaRows
import Derived.Test.YtlgjjemfckmidaaDkOps
import Derived.ProofKit
import Derived.OpenShut
import Derived.Deep.DeepHandedRow
import Derived.Deep.Slices
import Derived.LaidMore
import Derived.SizedLaws
namespace Go.Proofs.Ytlgjjemfckmidaa
open Go.ChangeShapes Go.WideShapes Go.ChangeAt Go.RowKit Go.Deep

theorem own : ownKnob Try.prog.godebug = none := by kernel_rfl
theorem typesSize : Try.prog.types.size = 144 := by kernel_rfl
theorem cellsInt : Try.prog.cellsOf 3 = 1 := by kernel_rfl
theorem cellsU8 : Try.prog.cellsOf 5 = 1 := by kernel_rfl
theorem bytesU8 : Try.prog.bytesOf 5 = 1 := by kernel_rfl
theorem cellsBytes : Try.prog.cellsOf 25 = 1 := by kernel_rfl
theorem cellsTear : Try.prog.cellsOf 31 = 2 := by kernel_rfl
theorem cellsTears : Try.prog.cellsOf 32 = 4 := by kernel_rfl
theorem cellsOp : Try.prog.cellsOf 34 = 9 := by kernel_rfl
section
variable {H : Type} {enc : TypeId × Value → H} {W : World} {base : Nat} {spare : Nat → Bool} {held : Bool}
theorem one_int {n : Nat} {c : Value} {x : DataW H × List MemPlace} (h : DataW.trod enc Try.prog W base spare held n 3 [c] = some x) : ∃ k, c = .int .i64 k := by
  obtain ⟨k, e, _, _⟩ := DataW.trod_int Try.underlying3 h
  exact ⟨k, List.head_eq_of_cons_eq e⟩
theorem getD_mem {l : List Int} {j : Nat} (h : j < l.length) : l.getD j 0 ∈ l := by
  rw [List.getD_eq_getElem?_getD, List.getElem?_eq_getElem h]; exact List.getElem_mem h
theorem open_bytes {n : Nat} {cs : List Value} {x : DataW H × List MemPlace} (h : DataW.trod enc Try.prog W base spare held n 25 cs = some x) :
    ∃ po pl pc bs, cs = [.slice po pl pc] ∧ Byts W po pl bs ∧ pl ≤ maxLen ∧ (po = none → pc = 0) ∧ pl ≤ pc ∧ (pl = 0 ∨ ∃ el sp, x.1 = .slice el sp ∧ el.length = pl) ∧ ∀ z ∈ bs, 0 ≤ z ∧ z ≤ 255 := by
  rcases open_ints Try.underlying25 Try.underlying5 cellsU8 h with ⟨rfl, _⟩ | ⟨a, len, cap, zs, rfl, _, hl, hm, hz, hxx, hc, hw⟩
  · exact ⟨none, 0, 0, [], rfl, ⟨rfl, fun j hj => (by omega)⟩, Nat.zero_le _, fun _ => rfl, Nat.le_refl _, Or.inl rfl, fun z hz => (by cases hz)⟩
  · have hzl : len ≤ zs.length := by rw [hz]; split <;> omega
    refine ⟨some a, len, cap, zs.take len, rfl, ⟨by simp; omega, fun j hj => ?_⟩, Nat.le_trans hl hm, fun e => (by cases e), hl, Or.inr ⟨_, _, by rw [hxx], by simp [lits]; omega⟩, fun z hzm => ?_⟩
    rotate_left
    · have := hw z (List.mem_of_mem_take hzm)
      simp [Lit.wf, IntKind.min, IntKind.max, IntKind.signed, IntKind.bits] at this
      omega
    · obtain ⟨b, o, sp⟩ := a
      have h0 := hc 0 (by omega)
      have hs : sp = none := by simpa [Addr.add] using World.cell?_spot h0
      subst hs
      have hj' := hc j (by omega)
      rw [Addr.add_lit] at hj'
      refine ⟨b, o, rfl, cell_lt hj', ?_⟩
      rw [hj']
      simp [List.getD_eq_getElem?_getD, hj]
theorem cells_at {a : Addr} {n : Nat} {cs : List Value} (h : W.cells? base a n = some cs) (hn : 0 < n) : ∃ b o, a = ⟨b, o, none⟩ ∧ ∀ j v, cs[j]? = some v → W.cell? ⟨b, o + j, none⟩ = some v := by
  obtain ⟨_, hlen, hc⟩ := World.cells?_some h
  obtain ⟨b, o, sp⟩ := a
  have h0 := hc 0 hn
  rw [List.getElem?_eq_getElem (by omega)] at h0
  have hs : sp = none := by simpa [Addr.add] using World.cell?_spot h0
  subst hs
  refine ⟨b, o, rfl, fun j v hv => ?_⟩
  have hj : j < n := by rw [← hlen]; exact (List.getElem?_eq_some_iff.1 hv).1
  have := hc j hj
  rw [Addr.add_lit] at this
  rw [this, hv]
theorem nine {α : Type} {l : List α} (h : l.length = 9) : ∃ c0 c1 c2 c3 c4 c5 c6 c7 c8, l = [c0, c1, c2, c3, c4, c5, c6, c7, c8] := by
  match l, h with
  | [c0, c1, c2, c3, c4, c5, c6, c7, c8], _ => exact ⟨c0, c1, c2, c3, c4, c5, c6, c7, c8, rfl⟩
theorem six {α : Type} {l : List α} (h : l.length = 6) : ∃ c0 c1 c2 c3 c4 c5, l = [c0, c1, c2, c3, c4, c5] := by
  match l, h with
  | [c0, c1, c2, c3, c4, c5], _ => exact ⟨c0, c1, c2, c3, c4, c5, rfl⟩
theorem two {α : Type} {l : List α} (h : l.length = 2) : ∃ c0 c1, l = [c0, c1] := by
  match l, h with
  | [c0, c1], _ => exact ⟨c0, c1, rfl⟩
theorem open_tear {n : Nat} {c0 c1 : Value} {x : DataW H × List MemPlace} (h : DataW.trod enc Try.prog W base spare held n 31 [c0, c1] = some x) : ∃ k z, c0 = .int .i64 k ∧ c1 = .int .i64 z := by
  obtain ⟨xs, m, _, _, _, hlen, hfl⟩ := DataW.trod_struct Try.underlying31 h
  obtain ⟨x0, x1, rfl⟩ := two (l := xs) hlen
  have g0 : DataW.trod enc Try.prog W base spare held m 3 [c0] = some x0 := by simpa [cellsInt] using hfl 0 _ rfl
  have g1 : DataW.trod enc Try.prog W base spare held m 3 [c1] = some x1 := by simpa [cellsInt] using hfl 1 _ rfl
  obtain ⟨k, rfl⟩ := one_int g0
  obtain ⟨z, rfl⟩ := one_int g1
  exact ⟨k, z, rfl, rfl⟩
theorem open_tears {n : Nat} {c0 c1 c2 c3 : Value} {x : DataW H × List MemPlace} (h : DataW.trod enc Try.prog W base spare held n 32 [c0, c1, c2, c3] = some x) :
    ∃ k0 z0 k1 z1, c0 = .int .i64 k0 ∧ c1 = .int .i64 z0 ∧ c2 = .int .i64 k1 ∧ c3 = .int .i64 z1 := by
  obtain ⟨xs, m, _, _, _, hlen, hfl⟩ := DataW.trod_array Try.underlying32 h
  obtain ⟨x0, x1, rfl⟩ := two (l := xs) hlen
  have g0 : DataW.trod enc Try.prog W base spare held m 31 [c0, c1] = some x0 := by simpa [cellsTear] using hfl 0 (by omega)
  have g1 : DataW.trod enc Try.prog W base spare held m 31 [c2, c3] = some x1 := by simpa [cellsTear] using hfl 1 (by omega)
  obtain ⟨k0, z0, rfl, rfl⟩ := open_tear g0
  obtain ⟨k1, z1, rfl, rfl⟩ := open_tear g1
  exact ⟨k0, z0, k1, z1, rfl, rfl, rfl, rfl⟩
theorem open_op {n : Nat} {cs : List Value} {x : DataW H × List MemPlace} {b o : Nat} (h : DataW.trod enc Try.prog W base spare held n 34 cs = some x) (hc : ∀ j v, cs[j]? = some v → W.cell? ⟨b, o + j, none⟩ = some v) :
    ∃ y : Opv, OpAt W b o y ∧ y.pl ≤ maxLen ∧ (y.po = none → y.pc = 0) := by
  obtain ⟨xs, m, _, _, hcl, hlen, hfl⟩ := DataW.trod_struct Try.underlying34 h
  obtain ⟨c0, c1, c2, c3, c4, c5, c6, c7, c8, rfl⟩ := nine (l := cs) (by rw [hcl, cellsOp])
  obtain ⟨x0, x1, x2, x3, x4, x5, rfl⟩ := six (l := xs) hlen
  have g0 : DataW.trod enc Try.prog W base spare held m 3 [c0] = some x0 := by simpa [cellsInt] using hfl 0 _ rfl
  have g1 : DataW.trod enc Try.prog W base spare held m 3 [c1] = some x1 := by simpa [cellsInt] using hfl 1 _ rfl
  have g2 : DataW.trod enc Try.prog W base spare held m 3 [c2] = some x2 := by simpa [cellsInt] using hfl 2 _ rfl
  have g3 : DataW.trod enc Try.prog W base spare held m 3 [c3] = some x3 := by simpa [cellsInt] using hfl 3 _ rfl
  have g4 : DataW.trod enc Try.prog W base spare held m 25 [c4] = some x4 := by simpa [cellsBytes] using hfl 4 _ rfl
  have g5 : DataW.trod enc Try.prog W base spare held m 32 [c5, c6, c7, c8] = some x5 := by simpa [cellsTears] using hfl 5 _ rfl
  obtain ⟨kd, rfl⟩ := one_int g0
  obtain ⟨ar, rfl⟩ := one_int g1
  obtain ⟨at_, rfl⟩ := one_int g2
  obtain ⟨nn, rfl⟩ := one_int g3
  obtain ⟨po, pl, pc, bs, e4, hB, hpl, hpc, _, _, _⟩ := open_bytes g4
  obtain rfl := List.head_eq_of_cons_eq e4
  obtain ⟨t0, t1, t2, t3, rfl, rfl, rfl, rfl⟩ := open_tears g5
  exact ⟨⟨kd, ar, at_, nn, po, pl, pc, t0, t1, t2, t3, bs⟩, ⟨cell_lt (hc 0 _ rfl), hc 0 _ rfl, hc 1 _ rfl, hc 2 _ rfl, hc 3 _ rfl, hc 4 _ rfl, hc 5 _ rfl, hc 6 _ rfl, hc 7 _ rfl, hc 8 _ rfl, hB⟩, hpl, hpc⟩
theorem open_ops {n : Nat} {cs : List Value} {x : DataW H × List MemPlace} (h : DataW.trod enc Try.prog W base spare held n 22 cs = some x) :
    ∃ ao cap xs, cs = [.slice ao xs.length cap] ∧ Ops W ao xs ∧ xs.length ≤ maxLen ∧ ∀ y ∈ xs, y.pl ≤ maxLen ∧ (y.po = none → y.pc = 0) := by
  rcases open_slice Try.underlying22 h with ⟨rfl, _⟩ | ⟨a, len, cap, m, n', D, Pl, rfl, _, hl, hm, hmm, _, hx⟩
  · exact ⟨none, 0, [], rfl, fun k x hk => (by simp at hk), Nat.zero_le _, fun y hy => (by cases hy)⟩
  · have hlm : len ≤ m := by rw [hmm]; split <;> omega
    have key : ∀ k, k < len → ∃ y : Opv, (∃ b off, a = ⟨b, off, none⟩ ∧ OpAt W b (off + k * 9) y) ∧ y.pl ≤ maxLen ∧ (y.po = none → y.pc = 0) := by
      have hsp : 0 < len → a.spot = none := fun h0 => by
        obtain ⟨cs', h1, _⟩ := hx 0 (by omega)
        rw [Nat.zero_mul] at h1
        obtain ⟨b, o, e, _⟩ := cells_at h1 (by rw [cellsOp]; decide)
        have : a.add 0 = a := rfl
        rw [this] at e; rw [e]
      intro k hk
      obtain ⟨b, off, sp⟩ := a
      obtain rfl : sp = none := hsp (by omega)
      obtain ⟨cs', h1, h2⟩ := hx k (by omega)
      rw [cellsOp] at h1
      obtain ⟨b', o', e, hc⟩ := cells_at h1 (by decide)
      rw [Addr.add_lit] at e
      obtain ⟨rfl, rfl⟩ : b = b' ∧ off + k * 9 = o' := by simpa using e
      obtain ⟨y, hy, hp⟩ := open_op h2 hc
      exact ⟨y, ⟨b, off, rfl, hy⟩, hp⟩
    haveI : Inhabited Opv := ⟨⟨0, 0, 0, 0, none, 0, 0, 0, 0, 0, 0, []⟩⟩
    obtain ⟨Y, hY⟩ := choose_lt (α := Opv) (p := fun k y => (∃ b off, a = ⟨b, off, none⟩ ∧ OpAt W b (off + k * 9) y) ∧ y.pl ≤ maxLen ∧ (y.po = none → y.pc = 0)) key
    refine ⟨some a, cap, (List.range len).map Y, by simp, fun k x hk => ?_, by simp; omega, fun y hy => ?_⟩
    · simp only [List.getElem?_map, Option.map_eq_some_iff] at hk
      obtain ⟨i, hi, rfl⟩ := hk
      obtain ⟨hi1, hi2⟩ := List.getElem?_eq_some_iff.1 hi
      simp at hi1 hi2
      subst hi2
      obtain ⟨⟨b, off, e, ho⟩, _⟩ := hY k hi1
      exact ⟨b, off, by rw [e], ho⟩
    · obtain ⟨i, hi, rfl⟩ := List.mem_map.1 hy
      exact (hY i (List.mem_range.1 hi)).2
end
end Go.Proofs.Ytlgjjemfckmidaa
