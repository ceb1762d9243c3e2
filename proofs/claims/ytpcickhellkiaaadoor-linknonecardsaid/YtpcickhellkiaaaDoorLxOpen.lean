/-
  What came in, opened: the handle of error, calls, lists of calls.
-/
import Derived.Test.YtpcickhellkiaaaDoorCards
import Derived.Test.YtpcickhellkiaaaDoorTie
import Derived.Test.YtpcickhellkiaaaDoorLxOps
import Derived.ProofKit
import Derived.OpenShut
import Derived.Deep.DeepHandedRow
import Derived.Deep.Slices
import Derived.Lib.LaidTab
import Derived.LaidHandle
import Derived.LaidMore
import Derived.ChangeMaps5
import Derived.SizedLaws
namespace Go.Proofs.YtpcickhellkiaaaDoor
open Go.ChangeShapes Go.WideShapes Go.ChangeAt Go.RowKit Go.Deep

theorem own : ownKnob Tryd.prog.godebug = none := by kernel_rfl
theorem typesSize : Tryd.prog.types.size = 176 := by kernel_rfl
theorem gErr : Tryd.prog.globalNamed "errors.errorType" = some 0 := by kernel_rfl
theorem rtypeAt : (Tryd.prog.cutTypes.find? (·.1 == "internal/reflectlite.rtype")).map (·.2) = some 132 := by kernel_rfl
theorem errorRow : ((List.range 176).filter fun t => Tryd.prog.rowNamed t [101, 114, 114, 111, 114]) = [29] := by kernel_rfl
theorem errType_of {W : World} (h : handlesMet Tryd.prog [("errors.errorType", Rows.laid_errors_errorType)] W) : ErrType W := by
  obtain ⟨name, u, ty, e1, e2, e3, e4, e5⟩ := h _ (List.mem_singleton.2 rfl)
  have en : name = [101, 114, 114, 111, 114] := (Option.some.inj e1).symm
  subst en
  obtain rfl := Option.some.inj (rtypeAt.symm.trans e2)
  have hm : ty ∈ (List.range 176).filter fun t => Tryd.prog.rowNamed t [101, 114, 114, 111, 114] := List.mem_filter.2 ⟨List.mem_range.2 (by rw [← typesSize]; exact e3), e4⟩
  rw [errorRow] at hm
  obtain rfl := List.mem_singleton.1 hm
  have hh : typeHandle Tryd.prog 29 = .pointer (some ⟨1, 29, none⟩) := by kernel_rfl
  rw [hh] at e5
  simpa [ErrType] using World.var?_cell gErr e5 0
theorem cellsInt : Tryd.prog.cellsOf 3 = 1 := by kernel_rfl
theorem cellsU8 : Tryd.prog.cellsOf 5 = 1 := by kernel_rfl
theorem cellsBytes : Tryd.prog.cellsOf 27 = 1 := by kernel_rfl
theorem cellsOp : Tryd.prog.cellsOf 45 = 5 := by kernel_rfl
theorem bytesU8 : Tryd.prog.bytesOf 5 = 1 := by kernel_rfl
theorem bytesBytes : Tryd.prog.bytesOf 27 = 24 := by kernel_rfl
theorem bytesInt : Tryd.prog.bytesOf 3 = 8 := by kernel_rfl
theorem bytesOp : Tryd.prog.bytesOf 45 = 56 := by kernel_rfl
theorem reachBytes_90 : reachBytes + 90 ≤ 140737488355328 := by decide
theorem weights_mem_all {H : Type} {P : Program} {e : TypeId} : ∀ {ds : List (DataW H)} {d : DataW H}, d ∈ ds → ∀ n ∈ d.weights P e, n ∈ DataW.weightsAll P e ds
  | d0 :: ds, d, hd, n, hn => by
    simp only [DataW.weightsAll, List.mem_append]
    rcases List.mem_cons.1 hd with rfl | h
    · exact Or.inl hn
    · exact Or.inr (weights_mem_all h n hn)
theorem five {α : Type} {l : List α} (h : l.length = 5) : ∃ c0 c1 c2 c3 c4, l = [c0, c1, c2, c3, c4] := by
  match l, h with
  | [c0, c1, c2, c3, c4], _ => exact ⟨c0, c1, c2, c3, c4, rfl⟩
section
variable {H : Type} {enc : TypeId × Value → H} {W : World} {base : Nat} {spare : Nat → Bool} {held : Bool}
theorem one_int {n : Nat} {c : Value} {x : DataW H × List MemPlace} (h : DataW.trod enc Tryd.prog W base spare held n 3 [c] = some x) : ∃ k, c = .int .i64 k := by
  obtain ⟨k, e, _, _⟩ := DataW.trod_int Tryd.underlying3 h
  exact ⟨k, List.head_eq_of_cons_eq e⟩
theorem cells_at {a : Addr} {n : Nat} {cs : List Value} (h : W.cells? base a n = some cs) (hn : 0 < n) : ∃ b o, a = ⟨b, o, none⟩ ∧ ∀ j v, cs[j]? = some v → W.cell? ⟨b, o + j, none⟩ = some v := by
  obtain ⟨_, hlen, hc⟩ := World.cells?_some h
  obtain ⟨b, o, sp⟩ := a
  have h0 := hc 0 hn
  rw [List.getElem?_eq_getElem (by omega)] at h0
  have hs : sp = none := by simpa [Addr.add] using World.cell?_spot h0
  subst hs
  refine ⟨b, o, rfl, fun j v hv => ?_⟩
  have hj : j < n := by rw [← hlen]; exact (List.getElem?_eq_some_iff.1 hv).1
  have := hc j hj
  rw [Addr.add_lit] at this
  rw [this, hv]
theorem open_bytes {n : Nat} {cs : List Value} {x : DataW H × List MemPlace} (h : DataW.trod enc Tryd.prog W base spare held n 27 cs = some x) :
    ∃ po pl pc bs, cs = [.slice po pl pc] ∧ Byts W po pl bs ∧ (pl = 0 ∨ ∃ el sp, x.1 = .slice el sp ∧ el.length = pl) ∧ (po = none → pc = 0) ∧ pl ≤ pc ∧ pc ≤ maxLen := by
  rcases open_ints Tryd.underlying27 Tryd.underlying5 cellsU8 h with ⟨rfl, _⟩ | ⟨a, len, cap, zs, rfl, _, hl, hm, hz, hxx, hc, _⟩
  · exact ⟨none, 0, 0, [], rfl, ⟨rfl, fun j hj => (by omega)⟩, Or.inl rfl, fun _ => rfl, Nat.le_refl _, Nat.zero_le _⟩
  · have hzl : len ≤ zs.length := by rw [hz]; split <;> omega
    refine ⟨some a, len, cap, zs.take len, rfl, ⟨by simp; omega, fun j hj => ?_⟩, Or.inr ⟨_, _, by rw [hxx], by simp [lits]; omega⟩, fun e => (by cases e), hl, hm⟩
    · obtain ⟨b, o, sp⟩ := a
      have h0 := hc 0 (by omega)
      have hs : sp = none := by simpa [Addr.add] using World.cell?_spot h0
      subst hs
      have hj' := hc j (by omega)
      rw [Addr.add_lit] at hj'
      refine ⟨b, o, rfl, cell_lt hj', ?_⟩
      rw [hj']
      simp [List.getD_eq_getElem?_getD, hj]
/-- A byte list's weight. -/
theorem weigh {d : DataW H} {pl : Nat} (h : pl = 0 ∨ ∃ el sp, d = .slice el sp ∧ el.length = pl) (hw : ∀ n ∈ d.weights Tryd.prog 27, n ≤ reachBytes) : pl + 90 ≤ 140737488355328 := by
  have hr := reachBytes_90
  rcases h with h0 | ⟨el, sp, e4, hel⟩
  · omega
  · have := hw ((el.length + sp.length) * Tryd.prog.bytesOf 5) (by
      rw [e4]
      simp [DataW.weights, Tryd.underlying27])
    rw [bytesU8] at this
    omega
set_option maxRecDepth 100000 in
set_option maxHeartbeats 1000000 in
theorem open_op {n : Nat} {cs : List Value} {x : DataW H × List MemPlace} (h : DataW.trod enc Tryd.prog W base spare held n 45 cs = some x) :
    ∃ kd sd ix nn po m c bs, cs = [.int .i64 kd, .int .i64 sd, .int .i64 ix, .int .i64 nn, .slice po m c] ∧ Byts W po m bs ∧ ((∀ n ∈ x.1.weights Tryd.prog 45, n ≤ reachBytes) → m + 90 ≤ 140737488355328) := by
  obtain ⟨xs, m, _, hxe, hcl, hlen, hfl⟩ := DataW.trod_struct Tryd.underlying45 h
  obtain ⟨c0, c1, c2, c3, c4, rfl⟩ := five (l := cs) (by rw [hcl, cellsOp])
  obtain ⟨x0, x1, x2, x3, x4, rfl⟩ := five (l := xs) hlen
  have g0 : DataW.trod enc Tryd.prog W base spare held m 3 [c0] = some x0 := by simpa [cellsInt] using hfl 0 _ rfl
  have g1 : DataW.trod enc Tryd.prog W base spare held m 3 [c1] = some x1 := by simpa [cellsInt] using hfl 1 _ rfl
  have g2 : DataW.trod enc Tryd.prog W base spare held m 3 [c2] = some x2 := by simpa [cellsInt] using hfl 2 _ rfl
  have g3 : DataW.trod enc Tryd.prog W base spare held m 3 [c3] = some x3 := by simpa [cellsInt] using hfl 3 _ rfl
  have g4 : DataW.trod enc Tryd.prog W base spare held m 27 [c4] = some x4 := by simpa [cellsInt, cellsBytes] using hfl 4 _ rfl
  obtain ⟨kd, rfl⟩ := one_int g0
  obtain ⟨sd, rfl⟩ := one_int g1
  obtain ⟨ix, rfl⟩ := one_int g2
  obtain ⟨nn, rfl⟩ := one_int g3
  obtain ⟨po, pm, pc, bs, e4, hB, hw4, _⟩ := open_bytes g4
  obtain rfl := List.head_eq_of_cons_eq e4
  refine ⟨kd, sd, ix, nn, po, pm, pc, bs, rfl, hB, fun hw => weigh hw4 fun n hn => hw n ?_⟩
  rw [hxe]
  simp only [DataW.weights, Tryd.underlying45]
  exact DataW.weights_mem_each (j := 4) (t := 27) (d := x4.1) rfl rfl _ hn
set_option maxRecDepth 100000 in
set_option maxHeartbeats 1000000 in
theorem open_ops {n : Nat} {cs : List Value} {x : DataW H × List MemPlace} (h : DataW.trod enc Tryd.prog W base spare held n 43 cs = some x) :
    ∃ ao cap l, cs = [.slice ao l cap] ∧ ((∀ n ∈ x.1.weights Tryd.prog 43, n ≤ reachBytes) → Ops W ao l) := by
  rcases open_slice Tryd.underlying43 h with ⟨rfl, _⟩ | ⟨a, len, cap, m, n', D, Pl, rfl, _, hl, hm, hmm, hxe, hx⟩
  · exact ⟨none, 0, 0, rfl, fun _ => ⟨fun i hi => by omega, by omega⟩⟩
  · have hlm : len ≤ m := by rw [hmm]; split <;> omega
    refine ⟨some a, cap, len, rfl, fun hw => ⟨fun k hk => ?_, ?_⟩⟩
    · have hsp : a.spot = none := by
        obtain ⟨cs', h1, _⟩ := hx 0 (by omega)
        rw [Nat.zero_mul] at h1
        obtain ⟨b, o, e, _⟩ := cells_at h1 (by rw [cellsOp]; decide)
        have : a.add 0 = a := rfl
        rw [this] at e; rw [e]
      obtain ⟨b, off, sp⟩ := a
      obtain rfl : sp = none := hsp
      obtain ⟨cs', h1, h2⟩ := hx k (by omega)
      rw [cellsOp] at h1
      obtain ⟨b', o', e, hc⟩ := cells_at h1 (by decide)
      rw [Addr.add_lit] at e
      obtain ⟨rfl, rfl⟩ : b = b' ∧ off + k * 5 = o' := by simpa using e
      obtain ⟨kd, sd, ix, nn, po, pm, pc, bs, rfl, hB, hp⟩ := open_op h2
      refine ⟨b, off, kd, sd, ix, nn, po, pm, pc, bs, rfl, cell_lt (hc 0 _ rfl), ⟨hc 0 _ rfl, hc 1 _ rfl, hc 2 _ rfl, hc 3 _ rfl, hc 4 _ rfl⟩, hB, hp fun n hn => hw n ?_⟩
      rw [hxe]
      simp only [DataW.weights, Tryd.underlying43]
      exact List.mem_cons_of_mem _ (List.mem_append_left _ (weights_mem_all (List.mem_map_of_mem (List.mem_range.2 hk)) n hn))
    · have hr := reachBytes_90
      have := hw ((((List.range len).map D).length + ((List.range (m - len)).map fun j => D (len + j)).length) * Tryd.prog.bytesOf 45) (by
        rw [hxe]
        simp [DataW.weights, Tryd.underlying43])
      rw [bytesOp] at this
      simp only [List.length_map, List.length_range] at this
      omega
end
end Go.Proofs.YtpcickhellkiaaaDoor
