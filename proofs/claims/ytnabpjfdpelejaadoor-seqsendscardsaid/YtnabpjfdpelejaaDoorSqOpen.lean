/-
  Arguments opened: Ops, numbers, signs; the handle of error.
-/
import Derived.Test.YtnabpjfdpelejaaDoorCards
import Derived.Test.YtnabpjfdpelejaaDoorTie
import Derived.Test.YtnabpjfdpelejaaDoorSqSendsLaw
import Derived.Test.YtnabpjfdpelejaaDoorSqAcceptsDef
import Derived.ProofKit
import Derived.OpenShut
import Derived.Deep.DeepHandedRow
import Derived.Deep.Slices
import Derived.Lib.LaidTab
import Derived.LaidHandle
import Derived.LaidMore
import Derived.ChangeMaps5
import Derived.SizedLaws
namespace Go.Proofs.YtnabpjfdpelejaaDoor
open Go.ChangeShapes Go.WideShapes Go.ChangeAt Go.RowKit Go.Deep

theorem own : ownKnob Tryd.prog.godebug = none := by kernel_rfl
theorem typesSize : Tryd.prog.types.size = 156 := by kernel_rfl
theorem gErr : Tryd.prog.globalNamed "errors.errorType" = some 0 := by kernel_rfl
theorem rtypeAt : (Tryd.prog.cutTypes.find? (·.1 == "internal/reflectlite.rtype")).map (·.2) = some 115 := by kernel_rfl
theorem errorRow : ((List.range 156).filter fun t => Tryd.prog.rowNamed t [101, 114, 114, 111, 114]) = [27] := by kernel_rfl
theorem errType_of {W : World} (h : handlesMet Tryd.prog [("errors.errorType", Rows.laid_errors_errorType)] W) : ErrType W := by
  obtain ⟨name, u, ty, e1, e2, e3, e4, e5⟩ := h _ (List.mem_singleton.2 rfl)
  have en : name = [101, 114, 114, 111, 114] := (Option.some.inj e1).symm
  subst en
  obtain rfl := Option.some.inj (rtypeAt.symm.trans e2)
  have hm : ty ∈ (List.range 156).filter fun t => Tryd.prog.rowNamed t [101, 114, 114, 111, 114] := List.mem_filter.2 ⟨List.mem_range.2 (by rw [← typesSize]; exact e3), e4⟩
  rw [errorRow] at hm
  obtain rfl := List.mem_singleton.1 hm
  have hh : typeHandle Tryd.prog 27 = .pointer (some ⟨1, 27, none⟩) := by kernel_rfl
  rw [hh] at e5
  simpa [ErrType] using World.var?_cell gErr e5 0
theorem cellsInt : Tryd.prog.cellsOf 3 = 1 := by kernel_rfl
theorem cellsBool : Tryd.prog.cellsOf 4 = 1 := by kernel_rfl
theorem cellsOp : Tryd.prog.cellsOf 47 = 4 := by kernel_rfl
theorem bytesOp : Tryd.prog.bytesOf 47 = 32 := by kernel_rfl
theorem bytesInt : Tryd.prog.bytesOf 3 = 8 := by kernel_rfl
theorem bytesBool : Tryd.prog.bytesOf 4 = 1 := by kernel_rfl
theorem four {α : Type} {l : List α} (h : l.length = 4) : ∃ a b c d, l = [a, b, c, d] := by
  match l, h with
  | [a, b, c, d], _ => exact ⟨a, b, c, d, rfl⟩
theorem one {α : Type} {l : List α} (h : l.length = 1) : ∃ a, l = [a] := by
  match l, h with
  | [a], _ => exact ⟨a, rfl⟩
section
variable {H : Type} {enc : TypeId × Value → H} {W : World} {base : Nat} {spare : Nat → Bool} {held : Bool}
theorem one_int {n : Nat} {c : Value} {x : DataW H × List MemPlace} (h : DataW.trod enc Tryd.prog W base spare held n 3 [c] = some x) : ∃ k, c = .int .i64 k ∧ x.2 = [] := by
  obtain ⟨k, e, hx, _⟩ := DataW.trod_int Tryd.underlying3 h
  exact ⟨k, List.head_eq_of_cons_eq e, by rw [hx]⟩
theorem one_bool {n : Nat} {c : Value} {x : DataW H × List MemPlace} (h : DataW.trod enc Tryd.prog W base spare held n 4 [c] = some x) : ∃ k, c = .bool k ∧ x.2 = [] := by
  obtain ⟨k, e, hx⟩ := DataW.trod_bool Tryd.underlying4 h
  exact ⟨k, List.head_eq_of_cons_eq e, by rw [hx]⟩
theorem cells_at {a : Addr} {n : Nat} {cs : List Value} (h : W.cells? base a n = some cs) (hn : 0 < n) : ∃ b o, a = ⟨b, o, none⟩ ∧ ∀ j v, cs[j]? = some v → W.cell? ⟨b, o + j, none⟩ = some v := by
  obtain ⟨_, hlen, hc⟩ := World.cells?_some h
  obtain ⟨b, o, sp⟩ := a
  have h0 := hc 0 hn
  rw [List.getElem?_eq_getElem (by omega)] at h0
  have hs : sp = none := by simpa [Addr.add] using World.cell?_spot h0
  subst hs
  refine ⟨b, o, rfl, fun j v hv => ?_⟩
  have hj : j < n := by rw [← hlen]; exact (List.getElem?_eq_some_iff.1 hv).1
  have := hc j hj
  rw [Addr.add_lit] at this
  rw [this, hv]
set_option maxRecDepth 100000 in
set_option maxHeartbeats 1000000 in
theorem open_op {n : Nat} {cs : List Value} {x : DataW H × List MemPlace} {b o : Nat} (h : DataW.trod enc Tryd.prog W base spare held n 47 cs = some x) (hc : ∀ j v, cs[j]? = some v → W.cell? ⟨b, o + j, none⟩ = some v) :
    ∃ y : Int × Int × Int × Int, b < W.heap.size ∧ W.cell? ⟨b, o, none⟩ = some (.int .i64 y.1) ∧ W.cell? ⟨b, o + 1, none⟩ = some (.int .i64 y.2.1) ∧ W.cell? ⟨b, o + 2, none⟩ = some (.int .i64 y.2.2.1) ∧ W.cell? ⟨b, o + 3, none⟩ = some (.int .i64 y.2.2.2) := by
  obtain ⟨xs, m, _, _, hcl, hlen, hfl⟩ := DataW.trod_struct Tryd.underlying47 h
  obtain ⟨c0, c1, c2, c3, rfl⟩ := four (l := cs) (by rw [hcl, cellsOp])
  obtain ⟨x0, x1, x2, x3, rfl⟩ := four (l := xs) hlen
  have g0 : DataW.trod enc Tryd.prog W base spare held m 3 [c0] = some x0 := by simpa [cellsInt] using hfl 0 _ rfl
  have g1 : DataW.trod enc Tryd.prog W base spare held m 3 [c1] = some x1 := by simpa [cellsInt] using hfl 1 _ rfl
  have g2 : DataW.trod enc Tryd.prog W base spare held m 3 [c2] = some x2 := by simpa [cellsInt] using hfl 2 _ rfl
  have g3 : DataW.trod enc Tryd.prog W base spare held m 3 [c3] = some x3 := by simpa [cellsInt] using hfl 3 _ rfl
  obtain ⟨k0, rfl, _⟩ := one_int g0
  obtain ⟨k1, rfl, _⟩ := one_int g1
  obtain ⟨k2, rfl, _⟩ := one_int g2
  obtain ⟨k3, rfl, _⟩ := one_int g3
  exact ⟨(k0, k1, k2, k3), cell_lt (hc 0 _ rfl), hc 0 _ rfl, hc 1 _ rfl, hc 2 _ rfl, hc 3 _ rfl⟩
theorem open_num {n : Nat} {cs : List Value} {x : DataW H × List MemPlace} {b o : Nat} (h : DataW.trod enc Tryd.prog W base spare held n 3 cs = some x) (hc : ∀ j v, cs[j]? = some v → W.cell? ⟨b, o + j, none⟩ = some v) :
    ∃ y : Int, b < W.heap.size ∧ W.cell? ⟨b, o, none⟩ = some (.int .i64 y) := by
  obtain ⟨k, rfl, _⟩ := DataW.trod_int Tryd.underlying3 h
  exact ⟨k, cell_lt (hc 0 _ rfl), hc 0 _ rfl⟩
theorem open_flag {n : Nat} {cs : List Value} {x : DataW H × List MemPlace} {b o : Nat} (h : DataW.trod enc Tryd.prog W base spare held n 4 cs = some x) (hc : ∀ j v, cs[j]? = some v → W.cell? ⟨b, o + j, none⟩ = some v) :
    ∃ y : Bool, b < W.heap.size ∧ W.cell? ⟨b, o, none⟩ = some (.bool y) := by
  obtain ⟨k, rfl, _⟩ := DataW.trod_bool Tryd.underlying4 h
  exact ⟨k, cell_lt (hc 0 _ rfl), hc 0 _ rfl⟩
set_option maxRecDepth 100000 in
set_option maxHeartbeats 1000000 in
theorem open_ops {n : Nat} {cs : List Value} {x : DataW H × List MemPlace} (h : DataW.trod enc Tryd.prog W base spare held n 42 cs = some x) :
    ∃ ao cap xs, cs = [.slice ao xs.length cap] ∧ Scr W ao xs ∧ (xs.length = 0 ∨ ∃ el sp, x.1 = .slice el sp ∧ el.length = xs.length) := by
  rcases open_slice Tryd.underlying42 h with ⟨rfl, _⟩ | ⟨a, len, cap, m, n', D, Pl, rfl, _, hl, hm, hmm, hxx, hx⟩
  · exact ⟨none, 0, [], rfl, fun k x hk => (by simp at hk), Or.inl rfl⟩
  · have hlm : len ≤ m := by rw [hmm]; split <;> omega
    have key : ∀ k, k < len → ∃ y : Int × Int × Int × Int, ∃ b off, a = ⟨b, off, none⟩ ∧ b < W.heap.size ∧ W.cell? ⟨b, off + k * 4, none⟩ = some (.int .i64 y.1) ∧ W.cell? ⟨b, off + k * 4 + 1, none⟩ = some (.int .i64 y.2.1) ∧ W.cell? ⟨b, off + k * 4 + 2, none⟩ = some (.int .i64 y.2.2.1) ∧ W.cell? ⟨b, off + k * 4 + 3, none⟩ = some (.int .i64 y.2.2.2) := by
      have hsp : 0 < len → a.spot = none := fun h0 => by
        obtain ⟨cs', h1, _⟩ := hx 0 (by omega)
        rw [Nat.zero_mul] at h1
        obtain ⟨b, o, e, _⟩ := cells_at h1 (by rw [cellsOp]; decide)
        have : a.add 0 = a := rfl
        rw [this] at e; rw [e]
      intro k hk
      obtain ⟨b, off, sp⟩ := a
      obtain rfl : sp = none := hsp (by omega)
      obtain ⟨cs', h1, h2⟩ := hx k (by omega)
      rw [cellsOp] at h1
      obtain ⟨b', o', e, hc⟩ := cells_at h1 (by decide)
      rw [Addr.add_lit] at e
      obtain ⟨rfl, rfl⟩ : b = b' ∧ off + k * 4 = o' := by simpa using e
      obtain ⟨y, hy⟩ := open_op h2 hc
      exact ⟨y, b, off, rfl, hy⟩
    haveI : Inhabited (Int × Int × Int × Int) := ⟨(0, 0, 0, 0)⟩
    obtain ⟨Y, hY⟩ := choose_lt (α := Int × Int × Int × Int) (p := fun k y => ∃ b off, a = ⟨b, off, none⟩ ∧ b < W.heap.size ∧ W.cell? ⟨b, off + k * 4, none⟩ = some (.int .i64 y.1) ∧ W.cell? ⟨b, off + k * 4 + 1, none⟩ = some (.int .i64 y.2.1) ∧ W.cell? ⟨b, off + k * 4 + 2, none⟩ = some (.int .i64 y.2.2.1) ∧ W.cell? ⟨b, off + k * 4 + 3, none⟩ = some (.int .i64 y.2.2.2)) key
    refine ⟨some a, cap, (List.range len).map Y, by simp, fun k x hk => ?_, Or.inr ⟨_, _, by rw [hxx], by simp⟩⟩
    simp only [List.getElem?_map, Option.map_eq_some_iff] at hk
    obtain ⟨i, hi, rfl⟩ := hk
    obtain ⟨hi1, hi2⟩ := List.getElem?_eq_some_iff.1 hi
    simp at hi1 hi2
    subst hi2
    obtain ⟨b, off, e, ho⟩ := hY k hi1
    exact ⟨b, off, by rw [e], ho⟩
set_option maxRecDepth 100000 in
set_option maxHeartbeats 1000000 in
theorem open_nums {n : Nat} {cs : List Value} {x : DataW H × List MemPlace} (h : DataW.trod enc Tryd.prog W base spare held n 35 cs = some x) :
    ∃ ao cap xs, cs = [.slice ao xs.length cap] ∧ Nums W ao xs ∧ (xs.length = 0 ∨ ∃ el sp, x.1 = .slice el sp ∧ el.length = xs.length) := by
  rcases open_slice Tryd.underlying35 h with ⟨rfl, _⟩ | ⟨a, len, cap, m, n', D, Pl, rfl, _, hl, hm, hmm, hxx, hx⟩
  · exact ⟨none, 0, [], rfl, fun k x hk => (by simp at hk), Or.inl rfl⟩
  · have hlm : len ≤ m := by rw [hmm]; split <;> omega
    have key : ∀ k, k < len → ∃ y : Int, ∃ b off, a = ⟨b, off, none⟩ ∧ b < W.heap.size ∧ W.cell? ⟨b, off + k, none⟩ = some (.int .i64 y) := by
      have hsp : 0 < len → a.spot = none := fun h0 => by
        obtain ⟨cs', h1, _⟩ := hx 0 (by omega)
        rw [Nat.zero_mul] at h1
        obtain ⟨b, o, e, _⟩ := cells_at h1 (by rw [cellsInt]; decide)
        have : a.add 0 = a := rfl
        rw [this] at e; rw [e]
      intro k hk
      obtain ⟨b, off, sp⟩ := a
      obtain rfl : sp = none := hsp (by omega)
      obtain ⟨cs', h1, h2⟩ := hx k (by omega)
      rw [cellsInt, Nat.mul_one] at h1
      obtain ⟨b', o', e, hc⟩ := cells_at h1 (by decide)
      rw [Addr.add_lit] at e
      obtain ⟨rfl, rfl⟩ : b = b' ∧ off + k = o' := by simpa using e
      obtain ⟨y, hy⟩ := open_num h2 hc
      exact ⟨y, b, off, rfl, hy⟩
    haveI : Inhabited (Int) := ⟨0⟩
    obtain ⟨Y, hY⟩ := choose_lt (α := Int) (p := fun k y => ∃ b off, a = ⟨b, off, none⟩ ∧ b < W.heap.size ∧ W.cell? ⟨b, off + k, none⟩ = some (.int .i64 y)) key
    refine ⟨some a, cap, (List.range len).map Y, by simp, fun k x hk => ?_, Or.inr ⟨_, _, by rw [hxx], by simp⟩⟩
    simp only [List.getElem?_map, Option.map_eq_some_iff] at hk
    obtain ⟨i, hi, rfl⟩ := hk
    obtain ⟨hi1, hi2⟩ := List.getElem?_eq_some_iff.1 hi
    simp at hi1 hi2
    subst hi2
    obtain ⟨b, off, e, ho⟩ := hY k hi1
    exact ⟨b, off, by rw [e], ho⟩
set_option maxRecDepth 100000 in
set_option maxHeartbeats 1000000 in
theorem open_flags {n : Nat} {cs : List Value} {x : DataW H × List MemPlace} (h : DataW.trod enc Tryd.prog W base spare held n 36 cs = some x) :
    ∃ ao cap xs, cs = [.slice ao xs.length cap] ∧ Flags W ao xs ∧ (xs.length = 0 ∨ ∃ el sp, x.1 = .slice el sp ∧ el.length = xs.length) := by
  rcases open_slice Tryd.underlying36 h with ⟨rfl, _⟩ | ⟨a, len, cap, m, n', D, Pl, rfl, _, hl, hm, hmm, hxx, hx⟩
  · exact ⟨none, 0, [], rfl, fun k x hk => (by simp at hk), Or.inl rfl⟩
  · have hlm : len ≤ m := by rw [hmm]; split <;> omega
    have key : ∀ k, k < len → ∃ y : Bool, ∃ b off, a = ⟨b, off, none⟩ ∧ b < W.heap.size ∧ W.cell? ⟨b, off + k, none⟩ = some (.bool y) := by
      have hsp : 0 < len → a.spot = none := fun h0 => by
        obtain ⟨cs', h1, _⟩ := hx 0 (by omega)
        rw [Nat.zero_mul] at h1
        obtain ⟨b, o, e, _⟩ := cells_at h1 (by rw [cellsBool]; decide)
        have : a.add 0 = a := rfl
        rw [this] at e; rw [e]
      intro k hk
      obtain ⟨b, off, sp⟩ := a
      obtain rfl : sp = none := hsp (by omega)
      obtain ⟨cs', h1, h2⟩ := hx k (by omega)
      rw [cellsBool, Nat.mul_one] at h1
      obtain ⟨b', o', e, hc⟩ := cells_at h1 (by decide)
      rw [Addr.add_lit] at e
      obtain ⟨rfl, rfl⟩ : b = b' ∧ off + k = o' := by simpa using e
      obtain ⟨y, hy⟩ := open_flag h2 hc
      exact ⟨y, b, off, rfl, hy⟩
    haveI : Inhabited (Bool) := ⟨false⟩
    obtain ⟨Y, hY⟩ := choose_lt (α := Bool) (p := fun k y => ∃ b off, a = ⟨b, off, none⟩ ∧ b < W.heap.size ∧ W.cell? ⟨b, off + k, none⟩ = some (.bool y)) key
    refine ⟨some a, cap, (List.range len).map Y, by simp, fun k x hk => ?_, Or.inr ⟨_, _, by rw [hxx], by simp⟩⟩
    simp only [List.getElem?_map, Option.map_eq_some_iff] at hk
    obtain ⟨i, hi, rfl⟩ := hk
    obtain ⟨hi1, hi2⟩ := List.getElem?_eq_some_iff.1 hi
    simp at hi1 hi2
    subst hi2
    obtain ⟨b, off, e, ho⟩ := hY k hi1
    exact ⟨b, off, by rw [e], ho⟩
end
end Go.Proofs.YtnabpjfdpelejaaDoor
