/-
  DecideTable: the row out of its walk, and the card.
-/
import Derived.Test.YtjmjimbhoncidaaDoorDcOpen
import Derived.Test.YtjmjimbhoncidaaDoorDcTableLaw
import Derived.Test.YtjmjimbhoncidaaDoorDcOpenV
import Derived.Carry
namespace Go.Proofs.YtjmjimbhoncidaaDoor.decideTable
open Go.ChangeShapes Go.WideShapes Go.ChangeAt Go.RowKit

theorem laidOut : laidOutB Tryd.prog = true := by kernel_rfl
theorem given {W : World} (h : laidMetH Tryd.prog Rows.decideTableRow.laid W) : PVc W := codes_of (show laidMet Tryd.prog [("courier/decide.codes", Rows.laid_courier_decide_codes)] W from h)
set_option maxRecDepth 100000 in
theorem contract (D : DecC) (H : Type) (enc : TypeId × Value → H) (W : World) (base : Nat) (args : Array Value) (ds gs : List (DataW H)) (before : List MemPlace)
    (hval : ∀ (j : Nat) t v, Tryd.f4.params[j]? = some t → args[j]? = some v → Value.okWide Tryd.prog W .any base t v)
    (hW : DataW.Whole enc Tryd.prog Tryd.f4.params.toList Rows.decideTableSpec.vars false W args.toList ds gs before) (hL : laidMetH Tryd.prog Rows.decideTableRow.laid W) :
    Calls Tryd.prog 4 args W fun e W' => ∃ v, e = .returned v ∧ Rows.decideTableSpec.post enc Tryd.prog Tryd.f4 false true false false W args v W' := by
  have hW' := hW
  obtain ⟨p, q, hA0, hV, rfl, hfz, hnd⟩ := hW
  have hA : DataW.TrodAll enc Tryd.prog W 0 (fun _ => true) true Tryd.f4.params.toList args.toList ds p := hA0
  rw [Tryd.params4] at hA hval
  obtain ⟨v0, vs0, d0, ds0, p0, q0, hargs, rfl, rfl, h0, r0⟩ := trodAll_cons hA
  obtain ⟨v1, vs1, d1, ds1, p1, q1, rfl, rfl, rfl, h1, r1⟩ := trodAll_cons r0
  obtain ⟨v2, vs2, d2, ds2, p2, q2, rfl, rfl, rfl, h2, r2⟩ := trodAll_cons r1
  obtain ⟨rfl, rfl, rfl⟩ := trodAll_nil r2
  obtain rfl : args = #[v0, v1, v2] := by cases args; simp_all
  obtain ⟨rfl, rfl⟩ := trodVars_none hV
  obtain ⟨e0, a0, b0, rfl, rfl⟩ := open_cond (hval 0 23 v0 rfl rfl) h0
  obtain ⟨t1, rfl, rfl, rfl⟩ := open_bool Tryd.underlying4 (hval 1 4 v1 rfl rfl) h1
  obtain ⟨s2, rfl, rfl, rfl, _⟩ := ChangeMaps.open_string Tryd.underlying9 (hval 2 9 v2 rfl rfl) h2
  clear hA0
  refine (table_law D e0 a0 b0 t1 s2 W (given hL)).mono fun e W' ⟨he, hg⟩ => ?_
  subst he
  have e1 : Rows.decideTableSpec.fn H ([d0, .lit (.bool t1), .lit (.string s2.data.toList)] ++ []) = { results := [.lit (.bool true)], args := [d0, .lit (.bool t1), .lit (.string s2.data.toList)] } := by simp [Rows.decideTableSpec]
  refine ⟨_, rfl, _, _, _, [], [], [], hW', ?_, ?_, ?_, hg.frame _, fun h => by cases h⟩
  · rw [e1]; exact trodAll_cons_mk (shut_bool Tryd.underlying4 true) trodAll_mk0
  · rw [e1]; exact trodAll_cons_mk (Below.trod laidOut (show Tryd.prog.readableRec 23 = true by kernel_rfl) (show 23 < Tryd.prog.types.size by rw [typesSize]; decide) h0 hg (fun x hx => by cases hx)) (trodAll_cons_mk (Below.trod laidOut (show Tryd.prog.readableRec 4 = true by kernel_rfl) (show 4 < Tryd.prog.types.size by rw [typesSize]; decide) h1 hg (fun x hx => by cases hx)) (trodAll_cons_mk (Below.trod laidOut (show Tryd.prog.readableRec 9 = true by kernel_rfl) (show 9 < Tryd.prog.types.size by rw [typesSize]; decide) h2 hg (fun x hx => by cases hx)) (trodAll_mk0)))
  · rw [e1]; rfl
theorem reads (os : Os) {H : Type} (enc : TypeId × Value → H) : ∃ places, DataW.whole enc Tryd.prog ((World.doorLaid Tryd.prog 400 os).forCall (fun _ _ => 0) ⟨#[], #[.agg #[.bool false, .int .i64 0, .int .i64 0], .bool false, .string ⟨#[]⟩], []⟩).memory Tryd.f4.params.toList Rows.decideTableSpec.vars false #[Value.agg #[.bool false, .int .i64 0, .int .i64 0], Value.bool false, Value.string ⟨#[]⟩].toList 8 = some ([.agg [.lit (.bool false), .lit (.int .i64 0), .lit (.int .i64 0)], .lit (.bool false), .lit (.string [])], [], places) :=
  ⟨[], by kernel_rfl⟩
theorem door_met (os : Os) : laidMetH Tryd.prog Rows.decideTableRow.laid ((World.doorLaid Tryd.prog 400 os).forCall (fun _ _ => 0) ⟨#[], #[.agg #[.bool false, .int .i64 0, .int .i64 0], .bool false, .string ⟨#[]⟩], []⟩).memory :=
  laidMetH_of_parts3 (fuel := 8) (laidMet_of_run' 8 (by kernel_rfl) (by kernel_rfl)) (by kernel_rfl) (by kernel_rfl)
set_option maxRecDepth 100000 in
theorem lifted (D : DecC) (os : Os) (started : os.Started) (H : Type) (enc : TypeId × Value → H) (F : Stop.Interp) :
    ReturnsInHanded {} Tryd.checked os 4 .any ((OpenSpec.ofChange Rows.decideTableSpec).preRow enc Tryd.prog Tryd.f4 Rows.decideTableRow.domain false Rows.decideTableRow.laid) (((OpenSpec.ofChange Rows.decideTableSpec).at F).post enc Tryd.prog Tryd.f4 false true false false) := by
  obtain ⟨places, hx⟩ := reads os enc
  refine returnsInHanded_of_row (C := Tryd.checked) (s := OpenSpec.ofChange Rows.decideTableSpec) own started (by kernel_rfl) Tryd.func4
    (witness_row_at (enc := enc) (C := Tryd.checked) false (World.doorLaid Tryd.prog 400 os) #[.agg #[.bool false, .int .i64 0, .int .i64 0], .bool false, .string ⟨#[]⟩] rfl (by kernel_rfl) (by kernel_rfl) (by kernel_rfl)
      (OpenSpec.preRow_of_cond 8 hx (by kernel_rfl) (fun k hk => by cases hk) (by kernel_rfl) (door_met os))) ?_
  intro W base args ds gs before hval hW _ _ _ hL _ _
  exact contract D H enc W base args ds gs before hval hW hL
theorem said (D : DecC) : Rows.DecideTableSaid :=
  OpenClaim.holds_of_cond 4 Tryd.f4 rfl rfl rfl rfl rfl rfl rfl ⟨rfl, rfl, rfl, rfl, rfl⟩ rfl rfl rfl rfl rfl (by kernel_rfl) Tryd.func4 (by kernel_rfl)
    (of_decide_eq_true (by kernel_rfl)) (by unfold Func.isWrapper; first | (rw [if_pos (by decide +kernel)]; kernel_rfl) | (rw [if_neg (by decide +kernel)]; exact ⟨rfl, rfl⟩))
    (fun os started H enc _ F => by rw [OpenClaim.pre_eq_preRow]; exact lifted D os started H enc F)
theorem plain (f : FuncId) (fn : Func) (hf : Tryd.pinned.checked.prog.funcNamed "courier/courierlaw11.DecideTable" = some f) (hfn : Tryd.pinned.checked.prog.funcs[f]? = some fn) :
    true = Tryd.pinned.checked.prog.looks [] ∧ ∀ (j : Nat) t, fn.params[j]? = some t → Tryd.pinned.checked.prog.wantsStandIn t = false := by
  obtain rfl : f = 4 := Option.some.inj ((show Tryd.prog.funcNamed "courier/courierlaw11.DecideTable" = some 4 by kernel_rfl).symm.trans hf) |>.symm
  obtain rfl : fn = Tryd.f4 := (Option.some.inj (Tryd.func4.symm.trans hfn)).symm
  refine ⟨by kernel_rfl, fun j t ht => ?_⟩
  rw [Tryd.params4] at ht
  have hm : t ∈ [23, 4, 9] := by simpa using Array.mem_of_getElem? ht
  have hall : ([23, 4, 9].all fun u => !Tryd.prog.wantsStandIn u) = true := by kernel_rfl
  exact (show Tryd.prog.wantsStandIn t = false by simpa using List.all_eq_true.1 hall t hm)

theorem card (D : DecC) : Rows.DecideTableCardSaid :=
  Claim7.holds_tied_plain_at .later [] _ _ _ _ (said D) (fun _ h => by cases h) (by kernel_rfl) (fun _ h => by cases h) decideTable_row_tie rfl ⟨rfl, rfl⟩ (by kernel_rfl) rfl plain (by kernel_rfl)
end Go.Proofs.YtjmjimbhoncidaaDoor.decideTable

namespace Go.Proofs.YtjmjimbhoncidaaDoor
theorem decideTable_of (D : DecC) : Rows.DecideTableCardSaid := decideTable.card D
end Go.Proofs.YtjmjimbhoncidaaDoor
