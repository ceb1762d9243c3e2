/-
  DecideEnds: the row out of its walk.
-/
import Derived.Test.YtjmjimbhoncidaaDoorDcOpenS
import Derived.Test.YtjmjimbhoncidaaDoorDcEndsLaw
import Derived.Test.YtjmjimbhoncidaaDoorDcOpenV
import Derived.Carry
namespace Go.Proofs.YtjmjimbhoncidaaDoor.decideEnds
open Go.ChangeShapes Go.WideShapes Go.ChangeAt Go.RowKit

theorem laidOut : laidOutB Tryd.prog = true := by kernel_rfl
theorem given {W : World} (h : laidMetH Tryd.prog Rows.decideEndsRow.laid W) : PV W := ⟨words_of (show laidMet Tryd.prog [("courier/decide.words", Rows.laid_courier_decide_words), ("courier/decide.codes", Rows.laid_courier_decide_codes)] W from h), codes_of (laid_tail (show laidMet Tryd.prog [("courier/decide.words", Rows.laid_courier_decide_words), ("courier/decide.codes", Rows.laid_courier_decide_codes)] W from h))⟩
theorem trod_block {H : Type} {enc : TypeId × Value → H} {P : Program} {W : World} {base : Nat} {spare : Nat → Bool} {held : Bool} {t : TypeId} {v : Value} {d : DataW H} {ps : List MemPlace} (h : DataW.Trod enc P W base spare held t v d ps) : ∀ x ∈ ps, x.block < W.heap.size := by
  obtain ⟨fuel, hf⟩ := h
  exact fun x hx => DataW.trod_lt _ _ _ _ hf x hx
set_option maxRecDepth 100000 in
theorem contract (D : DecOk) (H : Type) (enc : TypeId × Value → H) (W : World) (base : Nat) (args : Array Value) (ds gs : List (DataW H)) (before : List MemPlace)
    (hval : ∀ (j : Nat) t v, Tryd.f9.params[j]? = some t → args[j]? = some v → Value.okWide Tryd.prog W .any base t v)
    (hW : DataW.Whole enc Tryd.prog Tryd.f9.params.toList Rows.decideEndsSpec.vars false W args.toList ds gs before)
    (hWt : (DataW.weightsEach Tryd.prog (Tryd.f9.params.toList ++ (OpenSpec.ofChange Rows.decideEndsSpec).bare.plain.varTypes Tryd.prog) (ds ++ gs)).all (· ≤ reachBytes) = true) (hL : laidMetH Tryd.prog Rows.decideEndsRow.laid W) :
    Calls Tryd.prog 9 args W fun e W' => ∃ v, e = .returned v ∧ Rows.decideEndsSpec.post enc Tryd.prog Tryd.f9 false true false false W args v W' := by
  have hW' := hW
  obtain ⟨p, q, hA0, hV, rfl, hfz, hnd⟩ := hW
  have hA : DataW.TrodAll enc Tryd.prog W 0 (fun _ => true) true Tryd.f9.params.toList args.toList ds p := hA0
  rw [Tryd.params9] at hA hval hWt
  obtain ⟨v0, vs0, d0, ds0, p0, q0, hargs, rfl, rfl, h0, r0⟩ := trodAll_cons hA
  obtain ⟨v1, vs1, d1, ds1, p1, q1, rfl, rfl, rfl, h1, r1⟩ := trodAll_cons r0
  obtain ⟨v2, vs2, d2, ds2, p2, q2, rfl, rfl, rfl, h2, r2⟩ := trodAll_cons r1
  obtain ⟨v3, vs3, d3, ds3, p3, q3, rfl, rfl, rfl, h3, r3⟩ := trodAll_cons r2
  obtain ⟨rfl, rfl, rfl⟩ := trodAll_nil r3
  obtain rfl : args = #[v0, v1, v2, v3] := by cases args; simp_all
  obtain ⟨rfl, rfl⟩ := trodVars_none hV
  have ht0 := h0
  obtain ⟨e0, a0, b0, rfl, _⟩ := open_cond (hval 0 23 v0 rfl rfl) h0
  have ht1 := h1
  obtain ⟨n1, rfl, _, _, _⟩ := open_int Tryd.underlying3 (hval 1 3 v1 rfl rfl) h1
  have ht2 := h2
  obtain ⟨t2, rfl, _, _⟩ := open_bool Tryd.underlying4 (hval 2 4 v2 rfl rfl) h2
  have ht3 := h3
  obtain ⟨a3, l3, c3, rfl⟩ := okWide_slice Tryd.underlying78 (hval 3 78 v3 rfl rfl)
  obtain ⟨fu3, hf3⟩ := h3
  obtain ⟨ao3, cap3, xs3, e3, hO3, hz3⟩ := open_steps hf3
  obtain ⟨rfl, rfl, rfl⟩ : a3 = ao3 ∧ l3 = xs3.length ∧ c3 = cap3 := by simpa [Value.cells] using e3
  have hy3 : xs3.length ≤ 140737488355328 := by
    rcases hz3 with h | ⟨el, sp, e, h⟩
    · omega
    · have := sized_slice hWt (j := 3) rfl (congrArg some e) Tryd.underlying78
      have hr : reachBytes = 140737488351232 := rfl
      rw [bytesStep] at this
      omega
  clear hA0
  refine (ends_law D e0 a0 b0 n1 t2 a3 c3 xs3 W (given hL) hO3 hy3).mono fun e W' ⟨he, hg⟩ => ?_
  subst he
  have e1 : Rows.decideEndsSpec.fn H ([d0, d1, d2, d3] ++ []) = { results := [.lit (.bool true)], args := [d0, d1, d2, d3] } := by simp [Rows.decideEndsSpec]
  refine ⟨_, rfl, _, _, _, [], (p0 ++ (p1 ++ (p2 ++ (p3 ++ [])))), [], hW', ?_, ?_, ?_, hg.frame _, fun h => by cases h⟩
  · rw [e1]; exact trodAll_cons_mk (shut_bool Tryd.underlying4 true) trodAll_mk0
  · rw [e1]; exact trodAll_cons_mk (Below.trod laidOut (show Tryd.prog.readableRec 23 = true by kernel_rfl) (show 23 < Tryd.prog.types.size by rw [typesSize]; decide) ht0 hg (trod_block ht0)) (trodAll_cons_mk (Below.trod laidOut (show Tryd.prog.readableRec 3 = true by kernel_rfl) (show 3 < Tryd.prog.types.size by rw [typesSize]; decide) ht1 hg (trod_block ht1)) (trodAll_cons_mk (Below.trod laidOut (show Tryd.prog.readableRec 4 = true by kernel_rfl) (show 4 < Tryd.prog.types.size by rw [typesSize]; decide) ht2 hg (trod_block ht2)) (trodAll_cons_mk (Below.trod laidOut (show Tryd.prog.readableRec 78 = true by kernel_rfl) (show 78 < Tryd.prog.types.size by rw [typesSize]; decide) ht3 hg (trod_block ht3)) (trodAll_mk0))))
  · rw [e1]; rfl
theorem reads (os : Os) {H : Type} (enc : TypeId × Value → H) : ∃ places, DataW.whole enc Tryd.prog ((World.doorLaid Tryd.prog 400 os).forCall (fun _ _ => 0) ⟨#[], #[.agg #[.bool false, .int .i64 0, .int .i64 0], .int .i64 0, .bool false, .slice none 0 0], []⟩).memory Tryd.f9.params.toList Rows.decideEndsSpec.vars false #[Value.agg #[.bool false, .int .i64 0, .int .i64 0], Value.int .i64 0, Value.bool false, Value.slice none 0 0].toList 8 = some ([.agg [.lit (.bool false), .lit (.int .i64 0), .lit (.int .i64 0)], .lit (.int .i64 0), .lit (.bool false), .nil], [], places) :=
  ⟨[], by kernel_rfl⟩
theorem door_met (os : Os) : laidMetH Tryd.prog Rows.decideEndsRow.laid ((World.doorLaid Tryd.prog 400 os).forCall (fun _ _ => 0) ⟨#[], #[.agg #[.bool false, .int .i64 0, .int .i64 0], .int .i64 0, .bool false, .slice none 0 0], []⟩).memory :=
  laidMetH_of_parts3 (fuel := 8) (laidMet_of_run' 8 (by kernel_rfl) (by kernel_rfl)) (by kernel_rfl) (by kernel_rfl)
set_option maxRecDepth 100000 in
theorem lifted (D : DecOk) (os : Os) (started : os.Started) (H : Type) (enc : TypeId × Value → H) (F : Stop.Interp) :
    ReturnsInHanded {} Tryd.checked os 9 .any ((OpenSpec.ofChange Rows.decideEndsSpec).preRow enc Tryd.prog Tryd.f9 Rows.decideEndsRow.domain false Rows.decideEndsRow.laid) (((OpenSpec.ofChange Rows.decideEndsSpec).at F).post enc Tryd.prog Tryd.f9 false true false false) := by
  obtain ⟨places, hx⟩ := reads os enc
  refine returnsInHanded_of_row (C := Tryd.checked) (s := OpenSpec.ofChange Rows.decideEndsSpec) own started (by kernel_rfl) Tryd.func9
    (witness_row_at (enc := enc) (C := Tryd.checked) false (World.doorLaid Tryd.prog 400 os) #[.agg #[.bool false, .int .i64 0, .int .i64 0], .int .i64 0, .bool false, .slice none 0 0] rfl (by kernel_rfl) (by kernel_rfl) (by kernel_rfl)
      (OpenSpec.preRow_of_cond 8 hx (by kernel_rfl) (fun k hk => by cases hk) (by kernel_rfl) (door_met os))) ?_
  intro W base args ds gs before hval hW _ _ hWt hL _ _
  exact contract D H enc W base args ds gs before hval hW hWt hL
theorem said (D : DecOk) : Rows.DecideEndsSaid :=
  OpenClaim.holds_of_cond 9 Tryd.f9 rfl rfl rfl rfl rfl rfl rfl ⟨rfl, rfl, rfl, rfl, rfl⟩ rfl rfl rfl rfl rfl (by kernel_rfl) Tryd.func9 (by kernel_rfl)
    (of_decide_eq_true (by kernel_rfl)) (by unfold Func.isWrapper; first | (rw [if_pos (by decide +kernel)]; kernel_rfl) | (rw [if_neg (by decide +kernel)]; exact ⟨rfl, rfl⟩))
    (fun os started H enc _ F => by rw [OpenClaim.pre_eq_preRow]; exact lifted D os started H enc F)
theorem plain (f : FuncId) (fn : Func) (hf : Tryd.pinned.checked.prog.funcNamed "courier/courierlaw11.DecideEnds" = some f) (hfn : Tryd.pinned.checked.prog.funcs[f]? = some fn) :
    true = Tryd.pinned.checked.prog.looks [] ∧ ∀ (j : Nat) t, fn.params[j]? = some t → Tryd.pinned.checked.prog.wantsStandIn t = false := by
  obtain rfl : f = 9 := Option.some.inj ((show Tryd.prog.funcNamed "courier/courierlaw11.DecideEnds" = some 9 by kernel_rfl).symm.trans hf) |>.symm
  obtain rfl : fn = Tryd.f9 := (Option.some.inj (Tryd.func9.symm.trans hfn)).symm
  refine ⟨by kernel_rfl, fun j t ht => ?_⟩
  rw [Tryd.params9] at ht
  have hm : t ∈ [23, 3, 4, 78] := by simpa using Array.mem_of_getElem? ht
  have hall : ([23, 3, 4, 78].all fun u => !Tryd.prog.wantsStandIn u) = true := by kernel_rfl
  exact (show Tryd.prog.wantsStandIn t = false by simpa using List.all_eq_true.1 hall t hm)

theorem card (D : DecOk) : Rows.DecideEndsCardSaid :=
  Claim7.holds_tied_plain_at .later [] _ _ _ _ (said D) (fun _ h => by cases h) (by kernel_rfl) (fun _ h => by cases h) decideEnds_row_tie rfl ⟨rfl, rfl⟩ (by kernel_rfl) rfl plain (by kernel_rfl)
end Go.Proofs.YtjmjimbhoncidaaDoor.decideEnds

namespace Go.Proofs.YtjmjimbhoncidaaDoor
theorem decideEnds_of (D : DecOk) : Rows.DecideEndsCardSaid := decideEnds.card D
end Go.Proofs.YtjmjimbhoncidaaDoor
