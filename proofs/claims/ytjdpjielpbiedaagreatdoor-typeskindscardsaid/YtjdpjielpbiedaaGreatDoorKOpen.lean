/-
  What the listed variables give; the witness.
-/
import Derived.Test.YtjdpjielpbiedaaGreatDoorCards
import Derived.Test.YtjdpjielpbiedaaGreatDoorTie
import Derived.Test.YtjdpjielpbiedaaGreatDoorKLaw
import Derived.ProofKit
import Derived.OpenShut
import Derived.Deep.DeepHandedRow
import Derived.LaidHandle
import Derived.LaidMore
import Derived.Lay
import Derived.ChangeMaps5
import Derived.SizedLaws
namespace Go.Proofs.YtjdpjielpbiedaaGreatDoor.Td
open Go.ChangeShapes Go.WideShapes Go.ChangeAt Go.RowKit Go.Deep

theorem own : ownKnob Tryz.prog.godebug = none := by kernel_rfl
theorem typesSize : Tryz.prog.types.size = 198 := by kernel_rfl
theorem gErr : Tryz.prog.globalNamed "errors.errorType" = some 4 := by kernel_rfl
theorem rtypeAt : (Tryz.prog.cutTypes.find? (·.1 == "internal/reflectlite.rtype")).map (·.2) = some 111 := by kernel_rfl
theorem errorRow : ((List.range 198).filter fun t => Tryz.prog.rowNamed t [101, 114, 114, 111, 114]) = [31] := by kernel_rfl
theorem errType_of {W : World} (h : handlesMet Tryz.prog [("errors.errorType", Rows.laid_errors_errorType)] W) : ErrType W := by
  obtain ⟨name, u, ty, e1, e2, e3, e4, e5⟩ := h _ (List.mem_singleton.2 rfl)
  have en : name = [101, 114, 114, 111, 114] := (Option.some.inj e1).symm
  subst en
  obtain rfl := Option.some.inj (rtypeAt.symm.trans e2)
  have hm : ty ∈ (List.range 198).filter fun t => Tryz.prog.rowNamed t [101, 114, 114, 111, 114] := List.mem_filter.2 ⟨List.mem_range.2 (by rw [← typesSize]; exact e3), e4⟩
  rw [errorRow] at hm
  obtain rfl := List.mem_singleton.1 hm
  have hh : typeHandle Tryz.prog 31 = .pointer (some ⟨8, 31, none⟩) := by kernel_rfl
  rw [hh] at e5
  simpa [ErrType] using World.var?_cell gErr e5 0
theorem cellsString : Tryz.prog.cellsOf 9 = 1 := by kernel_rfl
theorem cellsInt : Tryz.prog.cellsOf 3 = 1 := by kernel_rfl
theorem cellsBool : Tryz.prog.cellsOf 4 = 1 := by kernel_rfl
theorem three {α : Type} {l : List α} (h : l.length = 3) : ∃ a b c, l = [a, b, c] := by
  match l, h with
  | [a, b, c], _ => exact ⟨a, b, c, rfl⟩
theorem cellsU8 : Tryz.prog.cellsOf 5 = 1 := by kernel_rfl
theorem cellsSpc : Tryz.prog.cellsOf 81 = 256 := by kernel_rfl
theorem cellsTabs : Tryz.prog.cellsOf 57 = 27 := by kernel_rfl
theorem cellsTab : Tryz.prog.cellsOf 56 = 3 := by kernel_rfl
theorem tSpc : (Tryz.prog.globals[2]?).map (·.type) = some 81 := by kernel_rfl
theorem gTabs : Tryz.prog.globalNamed "courier/types.tables" = some 0 := by kernel_rfl
theorem tTabs : (Tryz.prog.globals[0]?).map (·.type) = some 57 := by kernel_rfl
theorem laidMet_tail {P : Program} {W : World} {x : String × DataW Unit} {r : List (String × DataW Unit)} (h : laidMet P (x :: r) W) : laidMet P r W := by
  obtain ⟨ps, ⟨g, t, cs, fuel, p, q, hg, ht, hv, hd, hr, rfl⟩, hnd, hall⟩ := h
  exact ⟨q, hr, (List.nodup_append.1 hnd).2.1, fun b off hm => hall b off (List.mem_append_right _ hm)⟩
theorem spcData : (Rows.laid_strings_asciiSpace : DataW Unit) = Lib.tabData .u8 Lib.asciiSpaceTab := by kernel_rfl
theorem spc_of {W : World} {rest : List (String × DataW Unit)} (h : laidMet Tryz.prog (("strings.asciiSpace", Rows.laid_strings_asciiSpace) :: rest) W) : Spc W := by
  rw [spcData] at h
  exact Lib.tabIs_of_head (rest := rest) gSpc tSpc Tryz.underlying81 Tryz.underlying5 cellsU8 cellsSpc h
theorem str_eq {s : ByteArray} {l : List UInt8} (h : s.data.toList = l) : s = ⟨l.toArray⟩ := bl_inj h
set_option maxRecDepth 100000 in
set_option maxHeartbeats 1000000 in
theorem trow_of {H : Type} {enc : TypeId × Value → H} {W : World} {base : Nat} {spare : Nat → Bool} {held : Bool} {m : Nat} {cs : List Value} {x : DataW H × List MemPlace} {k v : List UInt8} {n : Int}
    (h : DataW.trod enc Tryz.prog W base spare held m 56 cs = some x) (hx : x.1 = .agg [.lit (.int .i64 n), .lit (.string k), .lit (.string v)]) :
    cs = [.int .i64 n, .string ⟨k.toArray⟩, .string ⟨v.toArray⟩] := by
  obtain ⟨xs, m2, _, hy, hl, hlen, hf⟩ := DataW.trod_struct Tryz.underlying56 h
  rw [cellsTab] at hl
  obtain ⟨c0, c1, c2, rfl⟩ := three hl
  obtain ⟨z0, z1, z2, rfl⟩ := three (l := xs) hlen
  have f0 : DataW.trod enc Tryz.prog W base spare held m2 3 [c0] = some z0 := by simpa [cellsInt] using hf 0 _ rfl
  have f1 : DataW.trod enc Tryz.prog W base spare held m2 9 [c1] = some z1 := by simpa [cellsString] using hf 1 _ rfl
  have f2 : DataW.trod enc Tryz.prog W base spare held m2 9 [c2] = some z2 := by simpa [cellsString] using hf 2 _ rfl
  obtain ⟨k0, e0, h0, _⟩ := DataW.trod_int Tryz.underlying3 f0
  obtain ⟨s1, e1, h1, _⟩ := DataW.trod_string Tryz.underlying9 f1
  obtain ⟨s2, e2, h2, _⟩ := DataW.trod_string Tryz.underlying9 f2
  simp only [List.cons.injEq, and_true] at e0 e1 e2
  subst e0 e1 e2
  rw [hy, h0, h1, h2] at hx
  simp only [List.map_cons, List.map_nil, DataW.agg.injEq, List.cons.injEq, DataW.lit.injEq, Lit.string.injEq, Lit.int.injEq, and_true, true_and] at hx
  obtain ⟨a0, a1, a2⟩ := hx
  rw [a0, str_eq a1, str_eq a2]
theorem chunk_get {l n : List Value} {j : Nat} (h : (l.drop (j / 3 * 3)).take 3 = (n.drop (j / 3 * 3)).take 3) : l[j]? = n[j]? := by
  have h1 := congrArg (fun q => q[j % 3]?) h
  simp only [List.getElem?_take, List.getElem?_drop] at h1
  rw [if_pos (by omega), if_pos (by omega), show j / 3 * 3 + j % 3 = j by omega] at h1
  exact h1
set_option maxRecDepth 100000 in
set_option maxHeartbeats 1000000 in
theorem tabs_of {W : World} {rest : List (String × DataW Unit)} (h : laidMet Tryz.prog (("courier/types.tables", Rows.laid_courier_types_tables) :: rest) W) : Tabs W := by
  obtain ⟨ps, ⟨g', t', cs, fuel, p, q, hg', ht', hvar, hd, _, _⟩, _⟩ := h
  obtain rfl := Option.some.inj (gTabs.symm.trans hg')
  obtain rfl := Option.some.inj (tTabs.symm.trans ht')
  obtain ⟨xs, m, _, hx, hl, hlen, hfl⟩ := DataW.trod_array Tryz.underlying57 hd
  rw [cellsTabs] at hl
  rw [cellsTab] at hfl
  have hx1 := congrArg Prod.fst hx
  simp only [Rows.laid_courier_types_tables, DataW.agg.injEq] at hx1
  have el : ∀ i y, i < 9 → xs[i]? = some y → (xs.map (·.1))[i]? = some y.1 := fun i y _ hy => by rw [List.getElem?_map, hy]; rfl
  have ch : ∀ i, i < 9 → (cs.toList.drop (i * 3)).take 3 = (tbA.toList.drop (i * 3)).take 3 := fun i hi => by
    have gi := hfl i hi
    obtain ⟨y, hy⟩ : ∃ y, xs[i]? = some y := ⟨_, List.getElem?_eq_getElem (by omega)⟩
    rw [hy] at gi
    have ey := el i y hi hy
    rw [← hx1] at ey
    rcases (by omega : i = 0 ∨ i = 1 ∨ i = 2 ∨ i = 3 ∨ i = 4 ∨ i = 5 ∨ i = 6 ∨ i = 7 ∨ i = 8) with rfl | rfl | rfl | rfl | rfl | rfl | rfl | rfl | rfl
    · exact (trow_of (n := 3) (k := [73, 68, 48, 48, 48, 51]) (v := [65, 48, 49, 32, 65, 48, 50, 32, 65, 48, 51, 32, 65, 48, 52, 32, 65, 48, 56, 32, 65, 49, 49, 32, 65, 49, 50, 32, 65, 49, 51, 32, 79, 48, 49, 32, 79, 50, 49, 32, 80, 48, 49, 32, 81, 48, 49, 32, 82, 48, 49]) gi (by simpa using ey.symm)).trans rfl
    · exact (trow_of (n := 8) (k := [73, 68, 48, 48, 48, 56]) (v := [65, 65, 32, 65, 69, 32, 65, 82, 32, 67, 65, 32, 67, 69, 32, 67, 82]) gi (by simpa using ey.symm)).trans rfl
    · exact (trow_of (n := 61) (k := [73, 68, 48, 48, 54, 49]) (v := [68, 78, 83, 32, 73, 83, 79, 32, 77, 49, 48, 32, 77, 49, 49, 32, 85, 85, 73, 68]) gi (by simpa using ey.symm)).trans rfl
    · exact (trow_of (n := 76) (k := [73, 68, 48, 48, 55, 54]) (v := [65, 67, 75, 32, 65, 68, 84, 32, 66, 65, 82, 32, 79, 82, 77, 32, 79, 82, 85, 32, 81, 82, 89]) gi (by simpa using ey.symm)).trans rfl
    · exact (trow_of (n := 103) (k := [73, 68, 48, 49, 48, 51]) (v := [68, 32, 80, 32, 84]) gi (by simpa using ey.symm)).trans rfl
    · exact (trow_of (n := 104) (k := [73, 68, 48, 49, 48, 52]) (v := [50, 46, 49, 32, 50, 46, 50, 32, 50, 46, 51, 32, 50, 46, 51, 46, 49, 32, 50, 46, 52, 32, 50, 46, 53, 32, 50, 46, 53, 46, 49]) gi (by simpa using ey.symm)).trans rfl
    · exact (trow_of (n := 155) (k := [73, 68, 48, 49, 53, 53]) (v := [65, 76, 32, 69, 82, 32, 78, 69, 32, 83, 85]) gi (by simpa using ey.symm)).trans rfl
    · exact (trow_of (n := 357) (k := [73, 68, 48, 51, 53, 55]) (v := [48, 32, 49, 48, 48, 32, 49, 48, 49, 32, 49, 48, 50, 32, 49, 48, 51, 32, 50, 48, 48, 32, 50, 48, 49, 32, 50, 48, 50, 32, 50, 48, 51, 32, 50, 48, 52, 32, 50, 48, 53, 32, 50, 48, 54, 32, 50, 48, 55]) gi (by simpa using ey.symm)).trans rfl
    · exact (trow_of (n := 516) (k := [73, 68, 48, 53, 49, 54]) (v := [69, 32, 70, 32, 73, 32, 87]) gi (by simpa using ey.symm)).trans rfl
  intro j
  have k := World.var?_cell gTabs hvar j
  rw [k, ← Array.getElem?_toList, ← Array.getElem?_toList]
  rcases Nat.lt_or_ge j 27 with hj | hj
  · exact chunk_get (ch (j / 3) (by omega))
  · rw [List.getElem?_eq_none (by omega), List.getElem?_eq_none (by exact hj)]
theorem cellsComps : Tryz.prog.cellsOf 74 = 24 := by kernel_rfl
theorem cellsComp : Tryz.prog.cellsOf 73 = 2 := by kernel_rfl
theorem gComps : Tryz.prog.globalNamed "courier/types.composites" = some 1 := by kernel_rfl
theorem tComps : (Tryz.prog.globals[1]?).map (·.type) = some 74 := by kernel_rfl
theorem two_of {α : Type} {l : List α} (h : l.length = 2) : ∃ a b, l = [a, b] := by
  match l, h with
  | [a, b], _ => exact ⟨a, b, rfl⟩
set_option maxRecDepth 100000 in
set_option maxHeartbeats 1000000 in
theorem crow_of {H : Type} {enc : TypeId × Value → H} {W : World} {base : Nat} {spare : Nat → Bool} {held : Bool} {m : Nat} {cs : List Value} {x : DataW H × List MemPlace} {k v : List UInt8}
    (h : DataW.trod enc Tryz.prog W base spare held m 73 cs = some x) (hx : x.1 = .agg [.lit (.string k), .lit (.string v)]) :
    cs = [.string ⟨k.toArray⟩, .string ⟨v.toArray⟩] := by
  obtain ⟨xs, m2, _, hy, hl, hlen, hf⟩ := DataW.trod_struct Tryz.underlying73 h
  rw [cellsComp] at hl
  obtain ⟨c1, c2, rfl⟩ := two_of hl
  obtain ⟨z1, z2, rfl⟩ := two_of (l := xs) hlen
  have f1 : DataW.trod enc Tryz.prog W base spare held m2 9 [c1] = some z1 := by simpa [cellsString] using hf 0 _ rfl
  have f2 : DataW.trod enc Tryz.prog W base spare held m2 9 [c2] = some z2 := by simpa [cellsString] using hf 1 _ rfl
  obtain ⟨s1, e1, h1, _⟩ := DataW.trod_string Tryz.underlying9 f1
  obtain ⟨s2, e2, h2, _⟩ := DataW.trod_string Tryz.underlying9 f2
  simp only [List.cons.injEq, and_true] at e1 e2
  subst e1 e2
  rw [hy, h1, h2] at hx
  simp only [List.map_cons, List.map_nil, DataW.agg.injEq, List.cons.injEq, DataW.lit.injEq, Lit.string.injEq, and_true] at hx
  obtain ⟨a1, a2⟩ := hx
  rw [str_eq a1, str_eq a2]
theorem chunk_get2 {l n : List Value} {j : Nat} (h : (l.drop (j / 2 * 2)).take 2 = (n.drop (j / 2 * 2)).take 2) : l[j]? = n[j]? := by
  have h1 := congrArg (fun q => q[j % 2]?) h
  simp only [List.getElem?_take, List.getElem?_drop] at h1
  rw [if_pos (by omega), if_pos (by omega), show j / 2 * 2 + j % 2 = j by omega] at h1
  exact h1
set_option maxRecDepth 100000 in
set_option maxHeartbeats 1000000 in
theorem comps_of {W : World} {rest : List (String × DataW Unit)} (h : laidMet Tryz.prog (("courier/types.composites", Rows.laid_courier_types_composites) :: rest) W) : Cmps W := by
  obtain ⟨ps, ⟨g', t', cs, fuel, p, q, hg', ht', hvar, hd, _, _⟩, _⟩ := h
  obtain rfl := Option.some.inj (gComps.symm.trans hg')
  obtain rfl := Option.some.inj (tComps.symm.trans ht')
  obtain ⟨xs, m, _, hx, hl, hlen, hfl⟩ := DataW.trod_array Tryz.underlying74 hd
  rw [cellsComps] at hl
  rw [cellsComp] at hfl
  have hx1 := congrArg Prod.fst hx
  simp only [Rows.laid_courier_types_composites, DataW.agg.injEq] at hx1
  have el : ∀ i y, i < 12 → xs[i]? = some y → (xs.map (·.1))[i]? = some y.1 := fun i y _ hy => by rw [List.getElem?_map, hy]; rfl
  have ch : ∀ i, i < 12 → (cs.toList.drop (i * 2)).take 2 = (cpA.toList.drop (i * 2)).take 2 := fun i hi => by
    have gi := hfl i hi
    obtain ⟨y, hy⟩ : ∃ y, xs[i]? = some y := ⟨_, List.getElem?_eq_getElem (by omega)⟩
    rw [hy] at gi
    have ey := el i y hi hy
    rw [← hx1] at ey
    rcases (by omega : i = 0 ∨ i = 1 ∨ i = 2 ∨ i = 3 ∨ i = 4 ∨ i = 5 ∨ i = 6 ∨ i = 7 ∨ i = 8 ∨ i = 9 ∨ i = 10 ∨ i = 11) with rfl | rfl | rfl | rfl | rfl | rfl | rfl | rfl | rfl | rfl | rfl | rfl
    · exact (crow_of (k := [72, 68]) (v := [73, 83, 32, 83, 84, 32, 73, 68]) gi (by simpa using ey.symm)).trans rfl
    · exact (crow_of (k := [69, 73]) (v := [83, 84, 42, 32, 73, 83, 32, 83, 84, 32, 73, 68]) gi (by simpa using ey.symm)).trans rfl
    · exact (crow_of (k := [67, 69]) (v := [83, 84, 32, 83, 84, 32, 73, 68, 32, 83, 84, 32, 83, 84, 32, 73, 68]) gi (by simpa using ey.symm)).trans rfl
    · exact (crow_of (k := [67, 87, 69]) (v := [83, 84, 32, 83, 84, 32, 73, 68, 32, 83, 84, 32, 83, 84, 32, 73, 68, 32, 83, 84, 32, 83, 84, 32, 83, 84]) gi (by simpa using ey.symm)).trans rfl
    · exact (crow_of (k := [77, 83, 71]) (v := [73, 68, 48, 48, 55, 54, 42, 32, 73, 68, 48, 48, 48, 51, 32, 73, 68]) gi (by simpa using ey.symm)).trans rfl
    · exact (crow_of (k := [80, 84]) (v := [73, 68, 48, 49, 48, 51, 42, 32, 73, 68]) gi (by simpa using ey.symm)).trans rfl
    · exact (crow_of (k := [86, 73, 68]) (v := [73, 68, 48, 49, 48, 52, 42, 32, 67, 69, 32, 67, 69]) gi (by simpa using ey.symm)).trans rfl
    · exact (crow_of (k := [69, 82, 76]) (v := [83, 84, 42, 32, 83, 73, 42, 32, 83, 73, 32, 83, 73, 32, 83, 73, 32, 83, 73]) gi (by simpa using ey.symm)).trans rfl
    · exact (crow_of (k := [67, 88]) (v := [83, 84, 42, 32, 83, 84, 32, 73, 68, 32, 72, 68, 32, 73, 68]) gi (by simpa using ey.symm)).trans rfl
    · exact (crow_of (k := [70, 78]) (v := [83, 84, 42, 32, 83, 84, 32, 83, 84, 32, 83, 84, 32, 83, 84]) gi (by simpa using ey.symm)).trans rfl
    · exact (crow_of (k := [88, 80, 78]) (v := [70, 78, 32, 83, 84, 32, 83, 84, 32, 83, 84, 32, 83, 84, 32, 73, 68]) gi (by simpa using ey.symm)).trans rfl
    · exact (crow_of (k := [80, 76]) (v := [73, 83, 32, 73, 83, 32, 73, 83, 32, 72, 68, 32, 73, 83, 32, 73, 68]) gi (by simpa using ey.symm)).trans rfl
  intro j
  have k := World.var?_cell gComps hvar j
  rw [k, ← Array.getElem?_toList, ← Array.getElem?_toList]
  rcases Nat.lt_or_ge j 24 with hj | hj
  · exact chunk_get2 (ch (j / 2) (by omega))
  · rw [List.getElem?_eq_none (by omega), List.getElem?_eq_none (by exact hj)]
/-- A list laid over a world. -/
theorem laidMet_over {P : Program} {w0 : World} {laid : List (String × DataW Unit)} (args : Array Value)
    (hf : w0.layFits P laid [] = true) (hi : w0.layIfaces P laid (w0.layVars P laid) = true) :
    laidMet P laid ((w0.layVars P laid).forCall (fun _ _ => 0) ⟨#[], args, []⟩).memory := by
  have e1 : (laid.filter fun x => (laid.map (·.1)).contains x.1) = laid := List.filter_eq_self.2 fun x hx => List.contains_iff_mem.2 (List.mem_map.2 ⟨x, hx, rfl⟩)
  have e2 : (laid.filter fun x => !(laid.map (·.1)).contains x.1) = [] := List.filter_eq_nil_iff.2 fun x hx => by rw [List.contains_iff_mem.2 (List.mem_map.2 ⟨x, hx, rfl⟩)]; simp
  have h : laidMet P laid (w0.layVars P laid) := laidMet_layVars (w0 := w0) (laid.map (·.1)) [] (by rw [e1]) (by rw [e1]; exact hf) (by rw [e1]; exact hi) (by rw [e2]; exact LaidIn.none)
  exact h.of_heap (by simp [World.memory, World.forCall, Input.heap])
theorem witness_shape {H : Type} {enc : TypeId × Value → H} {C : Checked} {os : Os} {f : FuncId} {fn : Func} {s : OpenSpec} {conds : List PathCond} {apart : Bool} {laid : List (String × DataW Unit)} (modest : Bool) (w0 : World) (args : Array Value) (hos : w0.os = os)
    (hsh : (w0.forCall (fun _ _ => 0) ⟨#[], args, []⟩).Shaped C.prog)
    (hok : Input.okWideB C.prog (w0.forCall (fun _ _ => 0) ⟨#[], args, []⟩) f ⟨#[], args, []⟩ = true)
    (hrow : s.preRow enc C.prog fn conds apart laid (w0.forCall (fun _ _ => 0) ⟨#[], args, []⟩).memory args) :
    ∃ (w : World) (tape : Tape) (i : Input), w.os = os ∧ (w.forCall tape i).Shaped C.prog ∧ i.vars = [] ∧ Input.okWide C.prog (w.forCall tape i) .any w.heap.size f i ∧
      s.preRow enc C.prog fn conds apart laid (w.forCall tape i).memory i.args ∧ ({ modest := modest } : Assume).holds C.prog (lone (Frame.enter C.prog f i.args .normal) [] (w.forCall tape i)) :=
  ⟨w0, fun _ _ => 0, ⟨#[], args, []⟩, hos, hsh, (Input.okWide_of_okWideB (base := 0) hok).1, (Input.okWide_of_okWideB hok).2, hrow, by
    simp only [Assume.holds]
    exact ⟨by simp, by simp, fun _ => Modest.zero, by simp, by simp⟩⟩
/-- The listed variables but the handle. -/
def plainL : List (String × DataW Unit) := [("unicode.White_Space", Rows.laid_unicode_White_Space), ("strings.asciiSpace", Rows.laid_strings_asciiSpace), ("courier/stamp.monthDays", Rows.laid_courier_stamp_monthDays), ("courier/types.composites", Rows.laid_courier_types_composites), ("courier/types.tables", Rows.laid_courier_types_tables)]
theorem pv_of {W : World} (h : laidMet Tryz.prog plainL W) : KV W :=
  have h1 := laidMet_tail (x := ("unicode.White_Space", Rows.laid_unicode_White_Space)) h
  have h2 := laidMet_tail h1
  have h3 := laidMet_tail h2
  have h4 := laidMet_tail h3
  ⟨tabs_of h4, spc_of h1, comps_of h3⟩
end Go.Proofs.YtjdpjielpbiedaaGreatDoor.Td
