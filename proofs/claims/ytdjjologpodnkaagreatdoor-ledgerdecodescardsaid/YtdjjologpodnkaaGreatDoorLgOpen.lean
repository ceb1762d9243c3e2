/-
  Arguments opened: a record; what the listed variable gives, and the shape of another.
-/
import Derived.Test.YtdjjologpodnkaaGreatDoorCards
import Derived.Test.YtdjjologpodnkaaGreatDoorTie
import Derived.Test.YtdjjologpodnkaaGreatDoorLgChain
import Derived.ProofKit
import Derived.OpenShut
import Derived.Deep.DeepHandedRow
import Derived.Deep.Slices
import Derived.Lib.LaidTab
import Derived.LaidHandle
import Derived.LaidMore
import Derived.ChangeMaps5
import Derived.SizedLaws
namespace Go.Proofs.YtdjjologpodnkaaGreatDoor
open Go.ChangeShapes Go.WideShapes Go.ChangeAt Go.RowKit Go.Deep

theorem own : ownKnob Tryz.prog.godebug = none := by kernel_rfl
theorem typesSize : Tryz.prog.types.size = 192 := by kernel_rfl
theorem cellsInt : Tryz.prog.cellsOf 3 = 1 := by kernel_rfl
theorem cellsString : Tryz.prog.cellsOf 9 = 1 := by kernel_rfl
theorem cellsU8 : Tryz.prog.cellsOf 5 = 1 := by kernel_rfl
theorem cellsBytes : Tryz.prog.cellsOf 22 = 1 := by kernel_rfl
theorem cellsCond : Tryz.prog.cellsOf 24 = 3 := by kernel_rfl
theorem cellsBool : Tryz.prog.cellsOf 4 = 1 := by kernel_rfl
theorem cellsRec : Tryz.prog.cellsOf 26 = 12 := by kernel_rfl
theorem bytesU8 : Tryz.prog.bytesOf 5 = 1 := by kernel_rfl
theorem reachBytes_90 : reachBytes + 90 ≤ 140737488355328 := by decide
theorem twelve {α : Type} {l : List α} (h : l.length = 12) : ∃ c0 c1 c2 c3 c4 c5 c6 c7 c8 c9 c10 c11, l = [c0, c1, c2, c3, c4, c5, c6, c7, c8, c9, c10, c11] := by
  match l, h with
  | [c0, c1, c2, c3, c4, c5, c6, c7, c8, c9, c10, c11], _ => exact ⟨c0, c1, c2, c3, c4, c5, c6, c7, c8, c9, c10, c11, rfl⟩
theorem tens {α : Type} {l : List α} (h : l.length = 10) : ∃ c0 c1 c2 c3 c4 c5 c6 c7 c8 c9, l = [c0, c1, c2, c3, c4, c5, c6, c7, c8, c9] := by
  match l, h with
  | [c0, c1, c2, c3, c4, c5, c6, c7, c8, c9], _ => exact ⟨c0, c1, c2, c3, c4, c5, c6, c7, c8, c9, rfl⟩
theorem three {α : Type} {l : List α} (h : l.length = 3) : ∃ c0 c1 c2, l = [c0, c1, c2] := by
  match l, h with
  | [c0, c1, c2], _ => exact ⟨c0, c1, c2, rfl⟩
section
variable {H : Type} {enc : TypeId × Value → H} {W : World} {base : Nat} {spare : Nat → Bool} {held : Bool}
theorem one_int {n : Nat} {c : Value} {x : DataW H × List MemPlace} (h : DataW.trod enc Tryz.prog W base spare held n 3 [c] = some x) : ∃ k, c = .int .i64 k := by
  obtain ⟨k, e, _, _⟩ := DataW.trod_int Tryz.underlying3 h
  exact ⟨k, List.head_eq_of_cons_eq e⟩
theorem one_str {n : Nat} {c : Value} {x : DataW H × List MemPlace} (h : DataW.trod enc Tryz.prog W base spare held n 9 [c] = some x) : ∃ s, c = .string s := by
  obtain ⟨k, e, _, _⟩ := DataW.trod_string Tryz.underlying9 h
  exact ⟨k, List.head_eq_of_cons_eq e⟩
theorem open_bytes {n : Nat} {cs : List Value} {x : DataW H × List MemPlace} (h : DataW.trod enc Tryz.prog W base spare held n 22 cs = some x) :
    ∃ po pl pc bs, cs = [.slice po pl pc] ∧ Byts W po pl bs ∧ (pl = 0 ∨ ∃ el sp, x.1 = .slice el sp ∧ el.length = pl) := by
  rcases open_ints Tryz.underlying22 Tryz.underlying5 cellsU8 h with ⟨rfl, _⟩ | ⟨a, len, cap, zs, rfl, _, hl, hm, hz, hxx, hc, _⟩
  · exact ⟨none, 0, 0, [], rfl, ⟨rfl, fun j hj => (by omega)⟩, Or.inl rfl⟩
  · have hzl : len ≤ zs.length := by rw [hz]; split <;> omega
    refine ⟨some a, len, cap, zs.take len, rfl, ⟨by simp; omega, fun j hj => ?_⟩, Or.inr ⟨_, _, by rw [hxx], by simp [lits]; omega⟩⟩
    · obtain ⟨b, o, sp⟩ := a
      have h0 := hc 0 (by omega)
      have hs : sp = none := by simpa [Addr.add] using World.cell?_spot h0
      subst hs
      have hj' := hc j (by omega)
      rw [Addr.add_lit] at hj'
      refine ⟨b, o, rfl, cell_lt hj', ?_⟩
      rw [hj']
      simp [List.getD_eq_getElem?_getD, hj]
/-- A byte list's weight. -/
theorem weigh {d : DataW H} {pl : Nat} (h : pl = 0 ∨ ∃ el sp, d = .slice el sp ∧ el.length = pl) (hw : ∀ n ∈ d.weights Tryz.prog 22, n ≤ reachBytes) : pl + 90 ≤ 140737488355328 := by
  have hr := reachBytes_90
  rcases h with h0 | ⟨el, sp, e4, hel⟩
  · omega
  · have := hw ((el.length + sp.length) * Tryz.prog.bytesOf 5) (by
      rw [e4]
      simp [DataW.weights, Tryz.underlying22])
    rw [bytesU8] at this
    omega
theorem one_bool {n : Nat} {c : Value} {x : DataW H × List MemPlace} (h : DataW.trod enc Tryz.prog W base spare held n 4 [c] = some x) : ∃ b, c = .bool b := by
  obtain ⟨k, e, _⟩ := DataW.trod_bool Tryz.underlying4 h
  exact ⟨k, List.head_eq_of_cons_eq e⟩
set_option maxRecDepth 100000 in
set_option maxHeartbeats 1000000 in
theorem open_cond {n : Nat} {c0 c1 c2 : Value} {x : DataW H × List MemPlace} (h : DataW.trod enc Tryz.prog W base spare held n 24 [c0, c1, c2] = some x) : ∃ e a p, c0 = .bool e ∧ c1 = .int .i64 a ∧ c2 = .int .i64 p := by
  obtain ⟨xs, m, _, hxe, hcl, hlen, hfl⟩ := DataW.trod_struct Tryz.underlying24 h
  obtain ⟨x0, x1, x2, rfl⟩ := three (l := xs) hlen
  have g0 : DataW.trod enc Tryz.prog W base spare held m 4 [c0] = some x0 := by simpa [cellsBool] using hfl 0 _ rfl
  have g1 : DataW.trod enc Tryz.prog W base spare held m 3 [c1] = some x1 := by simpa [cellsBool, cellsInt] using hfl 1 _ rfl
  have g2 : DataW.trod enc Tryz.prog W base spare held m 3 [c2] = some x2 := by simpa [cellsBool, cellsInt] using hfl 2 _ rfl
  obtain ⟨e, rfl⟩ := one_bool g0
  obtain ⟨a, rfl⟩ := one_int g1
  obtain ⟨p, rfl⟩ := one_int g2
  exact ⟨e, a, p, rfl, rfl, rfl⟩
set_option maxRecDepth 100000 in
set_option maxHeartbeats 1000000 in
theorem open_record {n : Nat} {cs : List Value} {x : DataW H × List MemPlace} (h : DataW.trod enc Tryz.prog W base spare held n 26 cs = some x) :
    ∃ r : Rec, cs = (#[.int .i64 r.kd, .string r.ct, .slice r.tp r.tn r.tc, .bool r.e, .int .i64 r.a, .int .i64 r.p, .int .i64 r.nu, .int .i64 r.tk, .int .i64 r.st, .string r.cd, .slice r.cp r.cn r.cc, .slice r.ap r.an r.ac] : Array Value).toList ∧ LieR W r ∧ ((∀ n ∈ x.1.weights Tryz.prog 26, n ≤ reachBytes) → r.tn ≤ 140737488355328 ∧ r.cn ≤ 140737488355328 ∧ r.an ≤ 140737488355328) := by
  obtain ⟨xs, m, _, hxe, hcl, hlen, hfl⟩ := DataW.trod_struct Tryz.underlying26 h
  obtain ⟨c0, c1, c2, c3, c4, c5, c6, c7, c8, c9, c10, c11, rfl⟩ := twelve (l := cs) (by rw [hcl, cellsRec])
  obtain ⟨x0, x1, x2, x3, x4, x5, x6, x7, x8, x9, rfl⟩ := tens (l := xs) hlen
  have g0 : DataW.trod enc Tryz.prog W base spare held m 3 [c0] = some x0 := by simpa [cellsInt, cellsString, cellsBytes, cellsCond] using hfl 0 _ rfl
  have g1 : DataW.trod enc Tryz.prog W base spare held m 9 [c1] = some x1 := by simpa [cellsInt, cellsString, cellsBytes, cellsCond] using hfl 1 _ rfl
  have g2 : DataW.trod enc Tryz.prog W base spare held m 22 [c2] = some x2 := by simpa [cellsInt, cellsString, cellsBytes, cellsCond] using hfl 2 _ rfl
  have g3 : DataW.trod enc Tryz.prog W base spare held m 24 [c3, c4, c5] = some x3 := by simpa [cellsInt, cellsString, cellsBytes, cellsCond] using hfl 3 _ rfl
  have g4 : DataW.trod enc Tryz.prog W base spare held m 3 [c6] = some x4 := by simpa [cellsInt, cellsString, cellsBytes, cellsCond] using hfl 4 _ rfl
  have g5 : DataW.trod enc Tryz.prog W base spare held m 3 [c7] = some x5 := by simpa [cellsInt, cellsString, cellsBytes, cellsCond] using hfl 5 _ rfl
  have g6 : DataW.trod enc Tryz.prog W base spare held m 3 [c8] = some x6 := by simpa [cellsInt, cellsString, cellsBytes, cellsCond] using hfl 6 _ rfl
  have g7 : DataW.trod enc Tryz.prog W base spare held m 9 [c9] = some x7 := by simpa [cellsInt, cellsString, cellsBytes, cellsCond] using hfl 7 _ rfl
  have g8 : DataW.trod enc Tryz.prog W base spare held m 22 [c10] = some x8 := by simpa [cellsInt, cellsString, cellsBytes, cellsCond] using hfl 8 _ rfl
  have g9 : DataW.trod enc Tryz.prog W base spare held m 22 [c11] = some x9 := by simpa [cellsInt, cellsString, cellsBytes, cellsCond] using hfl 9 _ rfl
  obtain ⟨kd, rfl⟩ := one_int g0
  obtain ⟨ct, rfl⟩ := one_str g1
  obtain ⟨tp, tn, tc, tx, e1, hB1, hw1⟩ := open_bytes g2
  obtain rfl := List.head_eq_of_cons_eq e1
  obtain ⟨e, a, p, rfl, rfl, rfl⟩ := open_cond g3
  obtain ⟨nu, rfl⟩ := one_int g4
  obtain ⟨tk, rfl⟩ := one_int g5
  obtain ⟨st, rfl⟩ := one_int g6
  obtain ⟨cd, rfl⟩ := one_str g7
  obtain ⟨cp, cn, cc, cx, e4, hB4, hw4⟩ := open_bytes g8
  obtain rfl := List.head_eq_of_cons_eq e4
  obtain ⟨ap, an, ac, ax, e6, hB6, hw6⟩ := open_bytes g9
  obtain rfl := List.head_eq_of_cons_eq e6
  refine ⟨⟨kd, ct, tp, tn, tc, tx, e, a, p, nu, tk, st, cd, cp, cn, cc, cx, ap, an, ac, ax⟩, rfl, ⟨hB1, hB4, hB6⟩, fun hw => ?_⟩
  have k1 := weigh hw1 fun n hn => hw n (by
    rw [hxe]
    simp only [DataW.weights, Tryz.underlying26]
    exact DataW.weights_mem_each (j := 2) (t := 22) (d := x2.1) rfl rfl _ hn)
  have k2 := weigh hw4 fun n hn => hw n (by
    rw [hxe]
    simp only [DataW.weights, Tryz.underlying26]
    exact DataW.weights_mem_each (j := 8) (t := 22) (d := x8.1) rfl rfl _ hn)
  have k3 := weigh hw6 fun n hn => hw n (by
    rw [hxe]
    simp only [DataW.weights, Tryz.underlying26]
    exact DataW.weights_mem_each (j := 9) (t := 22) (d := x9.1) rfl rfl _ hn)
  show tn ≤ 140737488355328 ∧ cn ≤ 140737488355328 ∧ an ≤ 140737488355328
  exact ⟨by omega, by omega, by omega⟩
end
theorem gErr : Tryz.prog.globalNamed "errors.errorType" = some 0 := by kernel_rfl
theorem rtypeAt : (Tryz.prog.cutTypes.find? (·.1 == "internal/reflectlite.rtype")).map (·.2) = some 115 := by kernel_rfl
theorem errorRow : ((List.range 192).filter fun t => Tryz.prog.rowNamed t [101, 114, 114, 111, 114]) = [29] := by kernel_rfl
theorem errType_of {W : World} (h : handlesMet Tryz.prog [("errors.errorType", Rows.laid_errors_errorType)] W) : ErrType W := by
  obtain ⟨name, u, ty, e1, e2, e3, e4, e5⟩ := h _ (List.mem_singleton.2 rfl)
  have en : name = [101, 114, 114, 111, 114] := (Option.some.inj e1).symm
  subst en
  obtain rfl := Option.some.inj (rtypeAt.symm.trans e2)
  have hm : ty ∈ (List.range 192).filter fun t => Tryz.prog.rowNamed t [101, 114, 114, 111, 114] := List.mem_filter.2 ⟨List.mem_range.2 (by rw [← typesSize]; exact e3), e4⟩
  rw [errorRow] at hm
  obtain rfl := List.mem_singleton.1 hm
  have hh : typeHandle Tryz.prog 29 = .pointer (some ⟨2, 29, none⟩) := by kernel_rfl
  rw [hh] at e5
  simpa [ErrType] using World.var?_cell gErr e5 0
theorem rowWords : (((begin Tryz.prog (fun _ _ => 0) default).world.heap[1]?).bind Obj.row?).map (fun z => (z.1.size, z.2)) = some (4, 180) := by kernel_rfl
theorem buildWords : Tryz.prog.buildable 180 = true := by kernel_rfl
theorem cellsWords : Tryz.prog.cellTypes Tryz.prog.depth 180 = some [9, 9, 9, 9] := by kernel_rfl
theorem globalsN : Tryz.prog.globals.size = 2 := by kernel_rfl
set_option maxRecDepth 100000 in
theorem pvx_of {W : World} (h : W.ShapedOpen Tryz.prog) : PVx W := by
  obtain ⟨⟨zero, t⟩, hz, hzt⟩ := Option.map_eq_some_iff.1 rowWords
  simp only [Prod.mk.injEq] at hzt
  obtain ⟨hs, rfl⟩ := hzt
  obtain ⟨cs, hcs, hsz, hok⟩ := h.1 1 zero _ (by rw [globalsN]; decide) hz
  obtain ⟨ts, hts, _, hall⟩ := hok buildWords
  rw [cellsWords] at hts
  obtain rfl := Option.some.inj hts
  intro j hj
  have hj' : j < cs.size := by rw [hsz, hs]; exact hj
  obtain ⟨u, hu, hcell⟩ := hall j cs[j] (Array.getElem?_eq_getElem hj')
  have hus : u = 9 := by
    rcases (by omega : j = 0 ∨ j = 1 ∨ j = 2 ∨ j = 3) with rfl | rfl | rfl | rfl <;> (simp at hu; exact hu.symm)
  subst hus
  unfold Cell.ok at hcell
  rw [Tryz.underlying9] at hcell
  have hc : W.cell? ⟨1, j, none⟩ = some cs[j] := by
    unfold World.cell?
    rw [hcs]
    exact Array.getElem?_eq_getElem hj'
  rw [hc]
  cases hv : cs[j] with
  | string s => exact ⟨s, rfl⟩
  | _ => rw [hv] at hcell; exact hcell.elim
end Go.Proofs.YtdjjologpodnkaaGreatDoor
