import Derived.Test.YtpcickhellkiaaaDoorCards
import Derived.Test.YtpcickhellkiaaaDoorTie
import Derived.Test.YtpcickhellkiaaaDoorLxOps
import Derived.ProofKit
import Derived.OpenShut
import Derived.Deep.DeepHandedRow
import Derived.Deep.Slices
import Derived.Lib.LaidTab
import Derived.LaidHandle
import Derived.LaidMore
import Derived.ChangeMaps5
import Derived.SizedLaws
import Derived.Test.YtpcickhellkiaaaDoorLxWh0
import Derived.Test.YtpcickhellkiaaaDoorLxWhole
import Derived.Carry
/-
  What came in, opened: the handle of error, calls, lists of calls.
-/
namespace Go.Proofs.YtpcickhellkiaaaDoor
open Go.ChangeShapes Go.WideShapes Go.ChangeAt Go.RowKit Go.Deep

theorem own : ownKnob Tryd.prog.godebug = none := by kernel_rfl
theorem typesSize : Tryd.prog.types.size = 176 := by kernel_rfl
theorem gErr : Tryd.prog.globalNamed "errors.errorType" = some 0 := by kernel_rfl
theorem rtypeAt : (Tryd.prog.cutTypes.find? (·.1 == "internal/reflectlite.rtype")).map (·.2) = some 132 := by kernel_rfl
theorem errorRow : ((List.range 176).filter fun t => Tryd.prog.rowNamed t [101, 114, 114, 111, 114]) = [29] := by kernel_rfl
theorem errType_of {W : World} (h : handlesMet Tryd.prog [("errors.errorType", Rows.laid_errors_errorType)] W) : ErrType W := by
  obtain ⟨name, u, ty, e1, e2, e3, e4, e5⟩ := h _ (List.mem_singleton.2 rfl)
  have en : name = [101, 114, 114, 111, 114] := (Option.some.inj e1).symm
  subst en
  obtain rfl := Option.some.inj (rtypeAt.symm.trans e2)
  have hm : ty ∈ (List.range 176).filter fun t => Tryd.prog.rowNamed t [101, 114, 114, 111, 114] := List.mem_filter.2 ⟨List.mem_range.2 (by rw [← typesSize]; exact e3), e4⟩
  rw [errorRow] at hm
  obtain rfl := List.mem_singleton.1 hm
  have hh : typeHandle Tryd.prog 29 = .pointer (some ⟨1, 29, none⟩) := by kernel_rfl
  rw [hh] at e5
  simpa [ErrType] using World.var?_cell gErr e5 0
theorem cellsInt : Tryd.prog.cellsOf 3 = 1 := by kernel_rfl
theorem cellsU8 : Tryd.prog.cellsOf 5 = 1 := by kernel_rfl
theorem cellsBytes : Tryd.prog.cellsOf 27 = 1 := by kernel_rfl
theorem cellsOp : Tryd.prog.cellsOf 45 = 5 := by kernel_rfl
theorem bytesU8 : Tryd.prog.bytesOf 5 = 1 := by kernel_rfl
theorem bytesBytes : Tryd.prog.bytesOf 27 = 24 := by kernel_rfl
theorem bytesInt : Tryd.prog.bytesOf 3 = 8 := by kernel_rfl
theorem bytesOp : Tryd.prog.bytesOf 45 = 56 := by kernel_rfl
theorem reachBytes_90 : reachBytes + 90 ≤ 140737488355328 := by decide
theorem weights_mem_all {H : Type} {P : Program} {e : TypeId} : ∀ {ds : List (DataW H)} {d : DataW H}, d ∈ ds → ∀ n ∈ d.weights P e, n ∈ DataW.weightsAll P e ds
  | d0 :: ds, d, hd, n, hn => by
    simp only [DataW.weightsAll, List.mem_append]
    rcases List.mem_cons.1 hd with rfl | h
    · exact Or.inl hn
    · exact Or.inr (weights_mem_all h n hn)
theorem five {α : Type} {l : List α} (h : l.length = 5) : ∃ c0 c1 c2 c3 c4, l = [c0, c1, c2, c3, c4] := by
  match l, h with
  | [c0, c1, c2, c3, c4], _ => exact ⟨c0, c1, c2, c3, c4, rfl⟩
section
variable {H : Type} {enc : TypeId × Value → H} {W : World} {base : Nat} {spare : Nat → Bool} {held : Bool}
theorem one_int {n : Nat} {c : Value} {x : DataW H × List MemPlace} (h : DataW.trod enc Tryd.prog W base spare held n 3 [c] = some x) : ∃ k, c = .int .i64 k := by
  obtain ⟨k, e, _, _⟩ := DataW.trod_int Tryd.underlying3 h
  exact ⟨k, List.head_eq_of_cons_eq e⟩
theorem cells_at {a : Addr} {n : Nat} {cs : List Value} (h : W.cells? base a n = some cs) (hn : 0 < n) : ∃ b o, a = ⟨b, o, none⟩ ∧ ∀ j v, cs[j]? = some v → W.cell? ⟨b, o + j, none⟩ = some v := by
  obtain ⟨_, hlen, hc⟩ := World.cells?_some h
  obtain ⟨b, o, sp⟩ := a
  have h0 := hc 0 hn
  rw [List.getElem?_eq_getElem (by omega)] at h0
  have hs : sp = none := by simpa [Addr.add] using World.cell?_spot h0
  subst hs
  refine ⟨b, o, rfl, fun j v hv => ?_⟩
  have hj : j < n := by rw [← hlen]; exact (List.getElem?_eq_some_iff.1 hv).1
  have := hc j hj
  rw [Addr.add_lit] at this
  rw [this, hv]
theorem open_bytes {n : Nat} {cs : List Value} {x : DataW H × List MemPlace} (h : DataW.trod enc Tryd.prog W base spare held n 27 cs = some x) :
    ∃ po pl pc bs, cs = [.slice po pl pc] ∧ Byts W po pl bs ∧ (pl = 0 ∨ ∃ el sp, x.1 = .slice el sp ∧ el.length = pl) ∧ (po = none → pc = 0) ∧ pl ≤ pc ∧ pc ≤ maxLen := by
  rcases open_ints Tryd.underlying27 Tryd.underlying5 cellsU8 h with ⟨rfl, _⟩ | ⟨a, len, cap, zs, rfl, _, hl, hm, hz, hxx, hc, _⟩
  · exact ⟨none, 0, 0, [], rfl, ⟨rfl, fun j hj => (by omega)⟩, Or.inl rfl, fun _ => rfl, Nat.le_refl _, Nat.zero_le _⟩
  · have hzl : len ≤ zs.length := by rw [hz]; split <;> omega
    refine ⟨some a, len, cap, zs.take len, rfl, ⟨by simp; omega, fun j hj => ?_⟩, Or.inr ⟨_, _, by rw [hxx], by simp [lits]; omega⟩, fun e => (by cases e), hl, hm⟩
    · obtain ⟨b, o, sp⟩ := a
      have h0 := hc 0 (by omega)
      have hs : sp = none := by simpa [Addr.add] using World.cell?_spot h0
      subst hs
      have hj' := hc j (by omega)
      rw [Addr.add_lit] at hj'
      refine ⟨b, o, rfl, cell_lt hj', ?_⟩
      rw [hj']
      simp [List.getD_eq_getElem?_getD, hj]
/-- A byte list's weight. -/
theorem weigh {d : DataW H} {pl : Nat} (h : pl = 0 ∨ ∃ el sp, d = .slice el sp ∧ el.length = pl) (hw : ∀ n ∈ d.weights Tryd.prog 27, n ≤ reachBytes) : pl + 90 ≤ 140737488355328 := by
  have hr := reachBytes_90
  rcases h with h0 | ⟨el, sp, e4, hel⟩
  · omega
  · have := hw ((el.length + sp.length) * Tryd.prog.bytesOf 5) (by
      rw [e4]
      simp [DataW.weights, Tryd.underlying27])
    rw [bytesU8] at this
    omega
set_option maxRecDepth 100000 in
set_option maxHeartbeats 1000000 in
theorem open_op {n : Nat} {cs : List Value} {x : DataW H × List MemPlace} (h : DataW.trod enc Tryd.prog W base spare held n 45 cs = some x) :
    ∃ kd sd ix nn po m c bs, cs = [.int .i64 kd, .int .i64 sd, .int .i64 ix, .int .i64 nn, .slice po m c] ∧ Byts W po m bs ∧ ((∀ n ∈ x.1.weights Tryd.prog 45, n ≤ reachBytes) → m + 90 ≤ 140737488355328) := by
  obtain ⟨xs, m, _, hxe, hcl, hlen, hfl⟩ := DataW.trod_struct Tryd.underlying45 h
  obtain ⟨c0, c1, c2, c3, c4, rfl⟩ := five (l := cs) (by rw [hcl, cellsOp])
  obtain ⟨x0, x1, x2, x3, x4, rfl⟩ := five (l := xs) hlen
  have g0 : DataW.trod enc Tryd.prog W base spare held m 3 [c0] = some x0 := by simpa [cellsInt] using hfl 0 _ rfl
  have g1 : DataW.trod enc Tryd.prog W base spare held m 3 [c1] = some x1 := by simpa [cellsInt] using hfl 1 _ rfl
  have g2 : DataW.trod enc Tryd.prog W base spare held m 3 [c2] = some x2 := by simpa [cellsInt] using hfl 2 _ rfl
  have g3 : DataW.trod enc Tryd.prog W base spare held m 3 [c3] = some x3 := by simpa [cellsInt] using hfl 3 _ rfl
  have g4 : DataW.trod enc Tryd.prog W base spare held m 27 [c4] = some x4 := by simpa [cellsInt, cellsBytes] using hfl 4 _ rfl
  obtain ⟨kd, rfl⟩ := one_int g0
  obtain ⟨sd, rfl⟩ := one_int g1
  obtain ⟨ix, rfl⟩ := one_int g2
  obtain ⟨nn, rfl⟩ := one_int g3
  obtain ⟨po, pm, pc, bs, e4, hB, hw4, _⟩ := open_bytes g4
  obtain rfl := List.head_eq_of_cons_eq e4
  refine ⟨kd, sd, ix, nn, po, pm, pc, bs, rfl, hB, fun hw => weigh hw4 fun n hn => hw n ?_⟩
  rw [hxe]
  simp only [DataW.weights, Tryd.underlying45]
  exact DataW.weights_mem_each (j := 4) (t := 27) (d := x4.1) rfl rfl _ hn
set_option maxRecDepth 100000 in
set_option maxHeartbeats 1000000 in
theorem open_ops {n : Nat} {cs : List Value} {x : DataW H × List MemPlace} (h : DataW.trod enc Tryd.prog W base spare held n 43 cs = some x) :
    ∃ ao cap l, cs = [.slice ao l cap] ∧ ((∀ n ∈ x.1.weights Tryd.prog 43, n ≤ reachBytes) → Ops W ao l) := by
  rcases open_slice Tryd.underlying43 h with ⟨rfl, _⟩ | ⟨a, len, cap, m, n', D, Pl, rfl, _, hl, hm, hmm, hxe, hx⟩
  · exact ⟨none, 0, 0, rfl, fun _ => ⟨fun i hi => by omega, by omega⟩⟩
  · have hlm : len ≤ m := by rw [hmm]; split <;> omega
    refine ⟨some a, cap, len, rfl, fun hw => ⟨fun k hk => ?_, ?_⟩⟩
    · have hsp : a.spot = none := by
        obtain ⟨cs', h1, _⟩ := hx 0 (by omega)
        rw [Nat.zero_mul] at h1
        obtain ⟨b, o, e, _⟩ := cells_at h1 (by rw [cellsOp]; decide)
        have : a.add 0 = a := rfl
        rw [this] at e; rw [e]
      obtain ⟨b, off, sp⟩ := a
      obtain rfl : sp = none := hsp
      obtain ⟨cs', h1, h2⟩ := hx k (by omega)
      rw [cellsOp] at h1
      obtain ⟨b', o', e, hc⟩ := cells_at h1 (by decide)
      rw [Addr.add_lit] at e
      obtain ⟨rfl, rfl⟩ : b = b' ∧ off + k * 5 = o' := by simpa using e
      obtain ⟨kd, sd, ix, nn, po, pm, pc, bs, rfl, hB, hp⟩ := open_op h2
      refine ⟨b, off, kd, sd, ix, nn, po, pm, pc, bs, rfl, cell_lt (hc 0 _ rfl), ⟨hc 0 _ rfl, hc 1 _ rfl, hc 2 _ rfl, hc 3 _ rfl, hc 4 _ rfl⟩, hB, hp fun n hn => hw n ?_⟩
      rw [hxe]
      simp only [DataW.weights, Tryd.underlying43]
      exact List.mem_cons_of_mem _ (List.mem_append_left _ (weights_mem_all (List.mem_map_of_mem (List.mem_range.2 hk)) n hn))
    · have hr := reachBytes_90
      have := hw ((((List.range len).map D).length + ((List.range (m - len)).map fun j => D (len + j)).length) * Tryd.prog.bytesOf 45) (by
        rw [hxe]
        simp [DataW.weights, Tryd.underlying43])
      rw [bytesOp] at this
      simp only [List.length_map, List.length_range] at this
      omega
end
end Go.Proofs.YtpcickhellkiaaaDoor

/-
  Lists of byte strings and of numbers, opened.
-/
namespace Go.Proofs.YtpcickhellkiaaaDoor
open Go.ChangeShapes Go.WideShapes Go.ChangeAt Go.RowKit Go.Deep

section
variable {H : Type} {enc : TypeId × Value → H} {W : World} {base : Nat} {spare : Nat → Bool} {held : Bool}
theorem open_ints' {n : Nat} {cs : List Value} {x : DataW H × List MemPlace} (h : DataW.trod enc Tryd.prog W base spare held n 23 cs = some x) :
    ∃ ao cap l, cs = [.slice ao l cap] ∧ ((∀ n ∈ x.1.weights Tryd.prog 23, n ≤ reachBytes) → Nums W ao l) := by
  rcases open_ints Tryd.underlying23 Tryd.underlying3 cellsInt h with ⟨rfl, _⟩ | ⟨a, len, cap, zs, rfl, _, hl, hm, hz, hxx, hc, _⟩
  · exact ⟨none, 0, 0, rfl, fun _ => ⟨fun i hi => by omega, by omega⟩⟩
  · have hzl : len ≤ zs.length := by rw [hz]; split <;> omega
    refine ⟨some a, cap, len, rfl, fun hw => ⟨fun i hi => ?_, ?_⟩⟩
    · obtain ⟨b, o, sp⟩ := a
      have hs : sp = none := by simpa [Addr.add] using World.cell?_spot (hc 0 (by omega))
      subst hs
      have h0 := hc i (by omega)
      rw [Addr.add_lit] at h0
      exact ⟨b, o, _, rfl, cell_lt h0, h0⟩
    · have hr := reachBytes_90
      have := hw ((((zs.take len).map fun z => (DataW.lit (.int .i64 z) : DataW H)).length + ((zs.drop len).map fun z => (DataW.lit (.int .i64 z) : DataW H)).length) * Tryd.prog.bytesOf 3) (by
        rw [hxx]
        simp [DataW.weights, Tryd.underlying23, lits])
      rw [bytesInt] at this
      simp only [List.length_map, List.length_take, List.length_drop] at this
      omega
set_option maxRecDepth 100000 in
set_option maxHeartbeats 1000000 in
theorem open_lists {n : Nat} {cs : List Value} {x : DataW H × List MemPlace} (h : DataW.trod enc Tryd.prog W base spare held n 22 cs = some x) :
    ∃ ao cap l, cs = [.slice ao l cap] ∧ ((∀ n ∈ x.1.weights Tryd.prog 22, n ≤ reachBytes) → Lsts W ao l) := by
  rcases open_slice Tryd.underlying22 h with ⟨rfl, _⟩ | ⟨a, len, cap, m, n', D, Pl, rfl, _, hl, hm, hmm, hxe, hx⟩
  · exact ⟨none, 0, 0, rfl, fun _ => ⟨fun i hi => by omega, by omega⟩⟩
  · have hlm : len ≤ m := by rw [hmm]; split <;> omega
    refine ⟨some a, cap, len, rfl, fun hw => ⟨fun k hk => ?_, ?_⟩⟩
    · have hsp : a.spot = none := by
        obtain ⟨cs', h1, _⟩ := hx 0 (by omega)
        rw [Nat.zero_mul] at h1
        obtain ⟨b, o, e, _⟩ := cells_at h1 (by rw [cellsBytes]; decide)
        have : a.add 0 = a := rfl
        rw [this] at e; rw [e]
      obtain ⟨b, off, sp⟩ := a
      obtain rfl : sp = none := hsp
      obtain ⟨cs', h1, h2⟩ := hx k (by omega)
      rw [cellsBytes, Nat.mul_one] at h1
      obtain ⟨b', o', e, hc⟩ := cells_at h1 (by decide)
      rw [Addr.add_lit] at e
      obtain ⟨rfl, rfl⟩ : b = b' ∧ off + k = o' := by simpa using e
      obtain ⟨po, pm, pc, bs, rfl, hB, _, _, h5, h6⟩ := open_bytes h2
      exact ⟨b, off, po, pm, pc, bs, rfl, cell_lt (hc 0 _ rfl), hc 0 _ rfl, hB, h5, h6⟩
    · have hr := reachBytes_90
      have := hw ((((List.range len).map D).length + ((List.range (m - len)).map fun j => D (len + j)).length) * Tryd.prog.bytesOf 27) (by
        rw [hxe]
        simp [DataW.weights, Tryd.underlying22])
      rw [bytesBytes] at this
      simp only [List.length_map, List.length_range] at this
      omega
end
end Go.Proofs.YtpcickhellkiaaaDoor

/-
  LinkWhole: the row out of its walk.
-/
namespace Go.Proofs.YtpcickhellkiaaaDoor.linkWhole
open Go.ChangeShapes Go.WideShapes Go.ChangeAt Go.RowKit

theorem laidOut : laidOutB Tryd.prog = true := by kernel_rfl
theorem given {W : World} (h : laidMetH Tryd.prog Rows.linkWholeRow.laid W) : ErrType W := by
  have h' : laidMet Tryd.prog [] W ∧ handlesMet Tryd.prog [("errors.errorType", Rows.laid_errors_errorType)] W := h
  exact errType_of h'.2
theorem trod_block {H : Type} {enc : TypeId × Value → H} {P : Program} {W : World} {base : Nat} {spare : Nat → Bool} {held : Bool} {t : TypeId} {v : Value} {d : DataW H} {ps : List MemPlace} (h : DataW.Trod enc P W base spare held t v d ps) : ∀ x ∈ ps, x.block < W.heap.size := by
  obtain ⟨fuel, hf⟩ := h
  exact fun x hx => DataW.trod_lt _ _ _ _ hf x hx
set_option maxRecDepth 100000 in
theorem contract (H : Type) (enc : TypeId × Value → H) (W : World) (base : Nat) (args : Array Value) (ds gs : List (DataW H)) (before : List MemPlace)
    (hval : ∀ (j : Nat) t v, Tryd.f3.params[j]? = some t → args[j]? = some v → Value.okWide Tryd.prog W .any base t v)
    (hW : DataW.Whole enc Tryd.prog Tryd.f3.params.toList Rows.linkWholeSpec.vars false W args.toList ds gs before)
    (hWt : (DataW.weightsEach Tryd.prog (Tryd.f3.params.toList ++ (OpenSpec.ofChange Rows.linkWholeSpec).bare.plain.varTypes Tryd.prog) (ds ++ gs)).all (· ≤ reachBytes) = true) (hL : laidMetH Tryd.prog Rows.linkWholeRow.laid W) :
    Calls Tryd.prog 3 args W fun e W' => ∃ v, e = .returned v ∧ Rows.linkWholeSpec.post enc Tryd.prog Tryd.f3 false true false false W args v W' := by
  have hW' := hW
  obtain ⟨p, q, hA0, hV, rfl, hfz, hnd⟩ := hW
  have hA : DataW.TrodAll enc Tryd.prog W 0 (fun _ => true) true Tryd.f3.params.toList args.toList ds p := hA0
  rw [Tryd.params3] at hA hval hWt
  obtain ⟨v0, vs0, d0, ds0, p0, q0, hargs, rfl, rfl, h0, r0⟩ := trodAll_cons hA
  obtain ⟨v1, vs1, d1, ds1, p1, q1, rfl, rfl, rfl, h1, r1⟩ := trodAll_cons r0
  obtain ⟨v2, vs2, d2, ds2, p2, q2, rfl, rfl, rfl, h2, r2⟩ := trodAll_cons r1
  obtain ⟨v3, vs3, d3, ds3, p3, q3, rfl, rfl, rfl, h3, r3⟩ := trodAll_cons r2
  obtain ⟨rfl, rfl, rfl⟩ := trodAll_nil r3
  obtain rfl : args = #[v0, v1, v2, v3] := by cases args; simp_all
  obtain ⟨rfl, rfl⟩ := trodVars_none hV
  have ht0 := h0
  obtain ⟨n0, rfl, _, _, hi0⟩ := open_int Tryd.underlying3 (hval 0 3 v0 rfl rfl) h0
  have ht1 := h1
  obtain ⟨a1, l1, c1, rfl⟩ := okWide_slice Tryd.underlying22 (hval 1 22 v1 rfl rfl)
  obtain ⟨fu1, hf1⟩ := h1
  obtain ⟨ao1, cap1, n1, e1, hO1⟩ := open_lists hf1
  obtain ⟨rfl, rfl, rfl⟩ : a1 = ao1 ∧ l1 = n1 ∧ c1 = cap1 := by simpa [Value.cells] using e1
  have hy1 := hO1 fun n hn => by simpa using List.all_eq_true.1 hWt n (DataW.weights_mem_each (j := 1) rfl rfl n hn)
  have ht2 := h2
  obtain ⟨a2, l2, c2, rfl⟩ := okWide_slice Tryd.underlying23 (hval 2 23 v2 rfl rfl)
  obtain ⟨fu2, hf2⟩ := h2
  obtain ⟨ao2, cap2, n2, e2, hO2⟩ := open_ints' hf2
  obtain ⟨rfl, rfl, rfl⟩ : a2 = ao2 ∧ l2 = n2 ∧ c2 = cap2 := by simpa [Value.cells] using e2
  have hy2 := hO2 fun n hn => by simpa using List.all_eq_true.1 hWt n (DataW.weights_mem_each (j := 2) rfl rfl n hn)
  have ht3 := h3
  obtain ⟨a3, l3, c3, rfl⟩ := okWide_slice Tryd.underlying23 (hval 3 23 v3 rfl rfl)
  obtain ⟨fu3, hf3⟩ := h3
  obtain ⟨ao3, cap3, n3, e3, hO3⟩ := open_ints' hf3
  obtain ⟨rfl, rfl, rfl⟩ : a3 = ao3 ∧ l3 = n3 ∧ c3 = cap3 := by simpa [Value.cells] using e3
  have hy3 := hO3 fun n hn => by simpa using List.all_eq_true.1 hWt n (DataW.weights_mem_each (j := 3) rfl rfl n hn)
  clear hA0
  refine (whole_law n0 a1 c1 l1 a2 c2 l2 a3 c3 l3 W (given hL)  hy1 hy2 hy3).mono fun e W' ⟨he, hg⟩ => ?_
  subst he
  have e1 : Rows.linkWholeSpec.fn H ([d0, d1, d2, d3] ++ []) = { results := [.lit (.bool true)], args := [d0, d1, d2, d3] } := by simp [Rows.linkWholeSpec]
  refine ⟨_, rfl, _, _, _, [], (p0 ++ (p1 ++ (p2 ++ (p3 ++ [])))), [], hW', ?_, ?_, ?_, hg.frame _, fun h => by cases h⟩
  · rw [e1]; exact trodAll_cons_mk (shut_bool Tryd.underlying4 true) trodAll_mk0
  · rw [e1]; exact trodAll_cons_mk (Below.trod laidOut (show Tryd.prog.readableRec 3 = true by kernel_rfl) (show 3 < Tryd.prog.types.size by rw [typesSize]; decide) ht0 hg (trod_block ht0)) (trodAll_cons_mk (Below.trod laidOut (show Tryd.prog.readableRec 22 = true by kernel_rfl) (show 22 < Tryd.prog.types.size by rw [typesSize]; decide) ht1 hg (trod_block ht1)) (trodAll_cons_mk (Below.trod laidOut (show Tryd.prog.readableRec 23 = true by kernel_rfl) (show 23 < Tryd.prog.types.size by rw [typesSize]; decide) ht2 hg (trod_block ht2)) (trodAll_cons_mk (Below.trod laidOut (show Tryd.prog.readableRec 23 = true by kernel_rfl) (show 23 < Tryd.prog.types.size by rw [typesSize]; decide) ht3 hg (trod_block ht3)) (trodAll_mk0))))
  · rw [e1]; rfl
theorem reads (os : Os) {H : Type} (enc : TypeId × Value → H) : ∃ places, DataW.whole enc Tryd.prog ((World.doorLaid Tryd.prog 400 os).forCall (fun _ _ => 0) ⟨#[], #[.int .i64 0, .slice none 0 0, .slice none 0 0, .slice none 0 0], []⟩).memory Tryd.f3.params.toList Rows.linkWholeSpec.vars false #[Value.int .i64 0, Value.slice none 0 0, Value.slice none 0 0, Value.slice none 0 0].toList 8 = some ([.lit (.int .i64 0), .nil, .nil, .nil], [], places) :=
  ⟨[], by kernel_rfl⟩
theorem door_met (os : Os) : laidMetH Tryd.prog Rows.linkWholeRow.laid ((World.doorLaid Tryd.prog 400 os).forCall (fun _ _ => 0) ⟨#[], #[.int .i64 0, .slice none 0 0, .slice none 0 0, .slice none 0 0], []⟩).memory :=
  laidMetH_of_parts3 (fuel := 8) (laidMet_of_run' 8 (by kernel_rfl) (by kernel_rfl)) (by kernel_rfl) (by kernel_rfl)
set_option maxRecDepth 100000 in
theorem lifted (os : Os) (started : os.Started) (H : Type) (enc : TypeId × Value → H) (F : Stop.Interp) :
    ReturnsInHanded {} Tryd.checked os 3 .any ((OpenSpec.ofChange Rows.linkWholeSpec).preRow enc Tryd.prog Tryd.f3 Rows.linkWholeRow.domain false Rows.linkWholeRow.laid) (((OpenSpec.ofChange Rows.linkWholeSpec).at F).post enc Tryd.prog Tryd.f3 false true false false) := by
  obtain ⟨places, hx⟩ := reads os enc
  refine returnsInHanded_of_row (C := Tryd.checked) (s := OpenSpec.ofChange Rows.linkWholeSpec) own started (by kernel_rfl) Tryd.func3
    (witness_row_at (enc := enc) (C := Tryd.checked) false (World.doorLaid Tryd.prog 400 os) #[.int .i64 0, .slice none 0 0, .slice none 0 0, .slice none 0 0] rfl (by kernel_rfl) (by kernel_rfl) (by kernel_rfl)
      (OpenSpec.preRow_of_cond 8 hx (by kernel_rfl) (fun k hk => by cases hk) (by kernel_rfl) (door_met os))) ?_
  intro W base args ds gs before hval hW _ _ hWt hL _ _
  exact contract H enc W base args ds gs before hval hW hWt hL
theorem said : Rows.LinkWholeSaid :=
  OpenClaim.holds_of_cond 3 Tryd.f3 rfl rfl rfl rfl rfl rfl rfl ⟨rfl, rfl, rfl, rfl, rfl⟩ rfl rfl rfl rfl rfl (by kernel_rfl) Tryd.func3 (by kernel_rfl)
    (of_decide_eq_true (by kernel_rfl)) (by unfold Func.isWrapper; first | (rw [if_pos (by decide +kernel)]; kernel_rfl) | (rw [if_neg (by decide +kernel)]; exact ⟨rfl, rfl⟩))
    (fun os started H enc _ F => by rw [OpenClaim.pre_eq_preRow]; exact lifted os started H enc F)
theorem plain (f : FuncId) (fn : Func) (hf : Tryd.pinned.checked.prog.funcNamed "courier/courierlaw19.LinkWhole" = some f) (hfn : Tryd.pinned.checked.prog.funcs[f]? = some fn) :
    true = Tryd.pinned.checked.prog.looks [] ∧ ∀ (j : Nat) t, fn.params[j]? = some t → Tryd.pinned.checked.prog.wantsStandIn t = false := by
  obtain rfl : f = 3 := Option.some.inj ((show Tryd.prog.funcNamed "courier/courierlaw19.LinkWhole" = some 3 by kernel_rfl).symm.trans hf) |>.symm
  obtain rfl : fn = Tryd.f3 := (Option.some.inj (Tryd.func3.symm.trans hfn)).symm
  refine ⟨by kernel_rfl, fun j t ht => ?_⟩
  rw [Tryd.params3] at ht
  have hm : t ∈ [3, 22, 23, 23] := by simpa using Array.mem_of_getElem? ht
  have hall : ([3, 22, 23, 23].all fun u => !Tryd.prog.wantsStandIn u) = true := by kernel_rfl
  exact (show Tryd.prog.wantsStandIn t = false by simpa using List.all_eq_true.1 hall t hm)

theorem card : Rows.LinkWholeCardSaid :=
  Claim7.holds_tied_plain_at .later [] _ _ _ _ said (fun _ h => by cases h) (by kernel_rfl) (fun _ h => by cases h) linkWhole_row_tie rfl ⟨rfl, rfl⟩ (by kernel_rfl) rfl plain (by kernel_rfl)
end Go.Proofs.YtpcickhellkiaaaDoor.linkWhole

namespace Go.Proofs.YtpcickhellkiaaaDoor
theorem linkWhole_of : Rows.LinkWholeCardSaid := linkWhole.card
end Go.Proofs.YtpcickhellkiaaaDoor
