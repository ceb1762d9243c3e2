/-
  What the listed variables give; the witness.
-/
import Derived.Test.YtgcdddkebehajaaDoorCards
import Derived.Test.YtgcdddkebehajaaDoorTie
import Derived.Test.YtgcdddkebehajaaDoorSuLaw
import Derived.ProofKit
import Derived.OpenShut
import Derived.Deep.DeepHandedRow
import Derived.LaidHandle
import Derived.LaidMore
import Derived.Lay
import Derived.ChangeMaps5
import Derived.SizedLaws
namespace Go.Proofs.YtgcdddkebehajaaDoor.Su
open Go.Proofs.YtgcdddkebehajaaDoor.Td Go.ChangeShapes Go.WideShapes Go.ChangeAt Go.RowKit

theorem own : ownKnob Tryd.prog.godebug = none := by kernel_rfl
theorem typesSize : Tryd.prog.types.size = 175 := by kernel_rfl
theorem gErr : Tryd.prog.globalNamed "errors.errorType" = some 1 := by kernel_rfl
theorem rtypeAt : (Tryd.prog.cutTypes.find? (·.1 == "internal/reflectlite.rtype")).map (·.2) = some 72 := by kernel_rfl
theorem errorRow : ((List.range 175).filter fun t => Tryd.prog.rowNamed t [101, 114, 114, 111, 114]) = [27] := by kernel_rfl
theorem errType_of {W : World} (h : handlesMet Tryd.prog [("errors.errorType", Rows.laid_errors_errorType)] W) : ErrType W := by
  obtain ⟨name, u, ty, e1, e2, e3, e4, e5⟩ := h _ (List.mem_singleton.2 rfl)
  have en : name = [101, 114, 114, 111, 114] := (Option.some.inj e1).symm
  subst en
  obtain rfl := Option.some.inj (rtypeAt.symm.trans e2)
  have hm : ty ∈ (List.range 175).filter fun t => Tryd.prog.rowNamed t [101, 114, 114, 111, 114] := List.mem_filter.2 ⟨List.mem_range.2 (by rw [← typesSize]; exact e3), e4⟩
  rw [errorRow] at hm
  obtain rfl := List.mem_singleton.1 hm
  have hh : typeHandle Tryd.prog 27 = .pointer (some ⟨8, 27, none⟩) := by kernel_rfl
  rw [hh] at e5
  simpa [ErrType] using World.var?_cell gErr e5 0
theorem laidMet_tail {P : Program} {W : World} {x : String × DataW Unit} {r : List (String × DataW Unit)} (h : laidMet P (x :: r) W) : laidMet P r W := by
  obtain ⟨ps, ⟨g, t, cs, fuel, p, q, hg, ht, hv, hd, hr, rfl⟩, hnd, hall⟩ := h
  exact ⟨q, hr, (List.nodup_append.1 hnd).2.1, fun b off hm => hall b off (List.mem_append_right _ hm)⟩
theorem cellsU8 : Tryd.prog.cellsOf 5 = 1 := by kernel_rfl
theorem cellsMarks : Tryd.prog.cellsOf 23 = 5 := by kernel_rfl
theorem gCom : Tryd.prog.globalNamed "courier/setup.common" = some 0 := by kernel_rfl
theorem tCom : (Tryd.prog.globals[0]?).map (·.type) = some 23 := by kernel_rfl
theorem five {α : Type} {l : List α} (h : l.length = 5) : ∃ a b c d e, l = [a, b, c, d, e] := by
  match l, h with
  | [a, b, c, d, e], _ => exact ⟨a, b, c, d, e, rfl⟩
set_option maxRecDepth 100000 in
set_option maxHeartbeats 1000000 in
theorem marks_of {H : Type} {enc : TypeId × Value → H} {W : World} {base : Nat} {spare : Nat → Bool} {held : Bool} {m : Nat} {cs : List Value} {x : DataW H × List MemPlace}
    (h : DataW.trod enc Tryd.prog W base spare held m 23 cs = some x) (hx : x.1 = .agg [.lit (.int .u8 124), .lit (.int .u8 94), .lit (.int .u8 126), .lit (.int .u8 92), .lit (.int .u8 38)]) :
    cs = [.int .u8 124, .int .u8 94, .int .u8 126, .int .u8 92, .int .u8 38] := by
  obtain ⟨xs, m2, _, hy, hl, hlen, hf⟩ := DataW.trod_struct Tryd.underlying23 h
  rw [cellsMarks] at hl
  obtain ⟨c0, c1, c2, c3, c4, rfl⟩ := five hl
  obtain ⟨z0, z1, z2, z3, z4, rfl⟩ := five (l := xs) hlen
  have f0 : DataW.trod enc Tryd.prog W base spare held m2 5 [c0] = some z0 := by simpa [cellsU8] using hf 0 _ rfl
  have f1 : DataW.trod enc Tryd.prog W base spare held m2 5 [c1] = some z1 := by simpa [cellsU8] using hf 1 _ rfl
  have f2 : DataW.trod enc Tryd.prog W base spare held m2 5 [c2] = some z2 := by simpa [cellsU8] using hf 2 _ rfl
  have f3 : DataW.trod enc Tryd.prog W base spare held m2 5 [c3] = some z3 := by simpa [cellsU8] using hf 3 _ rfl
  have f4 : DataW.trod enc Tryd.prog W base spare held m2 5 [c4] = some z4 := by simpa [cellsU8] using hf 4 _ rfl
  obtain ⟨k0, e0, h0, _⟩ := DataW.trod_int Tryd.underlying5 f0
  obtain ⟨k1, e1, h1, _⟩ := DataW.trod_int Tryd.underlying5 f1
  obtain ⟨k2, e2, h2, _⟩ := DataW.trod_int Tryd.underlying5 f2
  obtain ⟨k3, e3, h3, _⟩ := DataW.trod_int Tryd.underlying5 f3
  obtain ⟨k4, e4, h4, _⟩ := DataW.trod_int Tryd.underlying5 f4
  simp only [List.cons.injEq, and_true] at e0 e1 e2 e3 e4
  subst e0 e1 e2 e3 e4
  rw [hy, h0, h1, h2, h3, h4] at hx
  simp only [List.map_cons, List.map_nil, DataW.agg.injEq, List.cons.injEq, DataW.lit.injEq, Lit.int.injEq, and_true, true_and] at hx
  obtain ⟨a0, a1, a2, a3, a4⟩ := hx
  rw [a0, a1, a2, a3, a4]
theorem com_of {W : World} {rest : List (String × DataW Unit)} (h : laidMet Tryd.prog (("courier/setup.common", Rows.laid_courier_setup_common) :: rest) W) : Com W := by
  obtain ⟨ps, ⟨g', t', cs, fuel, p, q, hg', ht', hvar, hd, _, _⟩, _⟩ := h
  obtain rfl := Option.some.inj (gCom.symm.trans hg')
  obtain rfl := Option.some.inj (tCom.symm.trans ht')
  have hc := marks_of hd rfl
  intro o
  rw [World.var?_cell gCom hvar o, ← Array.getElem?_toList, hc, ← Array.getElem?_toList]
/-- A list laid over a world. -/
theorem laidMet_over {P : Program} {w0 : World} {laid : List (String × DataW Unit)} (args : Array Value)
    (hf : w0.layFits P laid [] = true) (hi : w0.layIfaces P laid (w0.layVars P laid) = true) :
    laidMet P laid ((w0.layVars P laid).forCall (fun _ _ => 0) ⟨#[], args, []⟩).memory := by
  have e1 : (laid.filter fun x => (laid.map (·.1)).contains x.1) = laid := List.filter_eq_self.2 fun x hx => List.contains_iff_mem.2 (List.mem_map.2 ⟨x, hx, rfl⟩)
  have e2 : (laid.filter fun x => !(laid.map (·.1)).contains x.1) = [] := List.filter_eq_nil_iff.2 fun x hx => by rw [List.contains_iff_mem.2 (List.mem_map.2 ⟨x, hx, rfl⟩)]; simp
  have h : laidMet P laid (w0.layVars P laid) := laidMet_layVars (w0 := w0) (laid.map (·.1)) [] (by rw [e1]) (by rw [e1]; exact hf) (by rw [e1]; exact hi) (by rw [e2]; exact LaidIn.none)
  exact h.of_heap (by simp [World.memory, World.forCall, Input.heap])
theorem witness_shape {H : Type} {enc : TypeId × Value → H} {C : Checked} {os : Os} {f : FuncId} {fn : Func} {s : OpenSpec} {conds : List PathCond} {apart : Bool} {laid : List (String × DataW Unit)} (modest : Bool) (w0 : World) (args : Array Value) (hos : w0.os = os)
    (hsh : (w0.forCall (fun _ _ => 0) ⟨#[], args, []⟩).Shaped C.prog)
    (hok : Input.okWideB C.prog (w0.forCall (fun _ _ => 0) ⟨#[], args, []⟩) f ⟨#[], args, []⟩ = true)
    (hrow : s.preRow enc C.prog fn conds apart laid (w0.forCall (fun _ _ => 0) ⟨#[], args, []⟩).memory args) :
    ∃ (w : World) (tape : Tape) (i : Input), w.os = os ∧ (w.forCall tape i).Shaped C.prog ∧ i.vars = [] ∧ Input.okWide C.prog (w.forCall tape i) .any w.heap.size f i ∧
      s.preRow enc C.prog fn conds apart laid (w.forCall tape i).memory i.args ∧ ({ modest := modest } : Assume).holds C.prog (lone (Frame.enter C.prog f i.args .normal) [] (w.forCall tape i)) :=
  ⟨w0, fun _ _ => 0, ⟨#[], args, []⟩, hos, hsh, (Input.okWide_of_okWideB (base := 0) hok).1, (Input.okWide_of_okWideB hok).2, hrow, by
    simp only [Assume.holds]
    exact ⟨by simp, by simp, fun _ => Modest.zero, by simp, by simp⟩⟩
/-- The listed variables but the handle. -/
def plainL : List (String × DataW Unit) := [("unicode.White_Space", Rows.laid_unicode_White_Space), ("strings.asciiSpace", Rows.laid_strings_asciiSpace), ("courier/stamp.monthDays", Rows.laid_courier_stamp_monthDays), ("courier/types.tables", Rows.laid_courier_types_tables), ("courier/setup.common", Rows.laid_courier_setup_common)]
theorem pv_of {W : World} (h : laidMet Tryd.prog plainL W) : Com W :=
  com_of (laidMet_tail (laidMet_tail (laidMet_tail (laidMet_tail h))))
end Go.Proofs.YtgcdddkebehajaaDoor.Su
