/-
  The map from keys to places, as a function; its operations.
-/
import Derived.Test.YtdglnobapnohmaaDoorWhBase
import Derived.Maps.Views
namespace Go.Proofs.YtdglnobapnohmaaDoor
open Go.RowKit

/-- A key is an int. -/
def KeyI (k : Int) : Prop := -9223372036854775808 ≤ k ∧ k ≤ 9223372036854775807
theorem keyI_wf {k : Int} (h : KeyI k) : (Lit.int .i64 k).wf = true := WalkArith.wf_i64 h
theorem mapKeyed : Maps.Keyed Tryd.prog 3 := Maps.int_keyed Tryd.underlying3
theorem keyOfI {k : Int} (h : KeyI k) : keyOf Tryd.prog 3 (.int .i64 k) = some (.int .i64 k) := Maps.keyOf_int_mk Tryd.underlying3 (keyI_wf h)
/-- A place: of list i, index j. -/
def plV (p : Nat × Nat) : Value := .agg #[.int .i64 ((p.1 / 64 : Nat) : Int), .int .i64 ((p.1 % 64 : Nat) : Int), .int .i64 (p.2 : Int)]
def plEl (v : Value) : Option (DataW Unit × List MemPlace) :=
  match v with
  | .agg cs => match cs.toList with
    | [.int .i64 a, .int .i64 b, .int .i64 c] => some (.agg [.lit (.int .i64 a), .lit (.int .i64 b), .lit (.int .i64 c)], [])
    | _ => none
  | _ => none
theorem plEl_inv {v : Value} {a b c : Int} {ps : List MemPlace} (h : plEl v = some (.agg [.lit (.int .i64 a), .lit (.int .i64 b), .lit (.int .i64 c)], ps)) : v = .agg #[.int .i64 a, .int .i64 b, .int .i64 c] := by
  unfold plEl at h
  split at h
  · rename_i cs
    split at h
    · rename_i x y z e
      simp only [Option.some.injEq, Prod.mk.injEq, DataW.agg.injEq, List.cons.injEq, DataW.lit.injEq, Lit.int.injEq, true_and, and_true] at h
      obtain ⟨⟨rfl, rfl, rfl⟩, _⟩ := h
      rw [← Array.toArray_toList (xs := cs), e]
    · cases h
  · cases h
def plD (p : Nat × Nat) : DataW Unit := .agg [.lit (.int .i64 ((p.1 / 64 : Nat) : Int)), .lit (.int .i64 ((p.1 % 64 : Nat) : Int)), .lit (.int .i64 (p.2 : Int))]
theorem plEl_mk (p : Nat × Nat) : plEl (plV p) = some (plD p, []) := rfl
/-- Block M is a map that tells f, of n entries. -/
def MapF (w : World) (M : Nat) (f : Int → Option (Nat × Nat)) (n : Nat) : Prop :=
  ∃ D : DataW Unit, w.ownsMap Tryd.prog 3 plEl M n D ∧ Maps.size D = n ∧ (∀ k, KeyI k → f k = none → Maps.has D (.int .i64 k) = false) ∧ ∀ k p, KeyI k → f k = some p → Maps.has D (.int .i64 k) = true ∧ ∀ z, D.atKey (.int .i64 k) z = plD p
theorem owns_tight {w : World} {M m : Nat} {D : DataW Unit} (h : w.ownsMap Tryd.prog 3 plEl M m D) : w.ownsMap Tryd.prog 3 plEl M (Maps.size D) D := by
  obtain ⟨es, clock, hb, F, _, rfl⟩ := h
  exact ⟨es, clock, hb, F, by simp [Maps.size, length_sorted], rfl⟩
theorem isKey {k : Int} (h : KeyI k) : WideAt.IsKeyLit (.int .i64 k) := (mapKeyed).key (keyOfI h)
theorem ne_lit {k k' : Int} (h : k' ≠ k) : Lit.int .i64 k' ≠ Lit.int .i64 k := fun e => h (by injection e)
def updF {β : Type} (f : Int → β) (k : Int) (b : β) : Int → β := fun x => if x = k then b else f x
theorem MapF.made (w : World) : MapF (w.alloc (.map #[] 0)) w.heap.size (fun _ => none) 0 :=
  ⟨.map [], World.ownsMap_made w _ _ _, rfl, fun _ _ _ => rfl, fun _ _ _ h => by cases h⟩
theorem MapF.lt {w : World} {M : Nat} {f : Int → Option (Nat × Nat)} {n : Nat} (h : MapF w M f n) : M < w.heap.size := by
  obtain ⟨D, h, _⟩ := h; exact h.lt
theorem MapF.keep {w w' : World} {M : Nat} {f : Int → Option (Nat × Nat)} {n : Nat} (h : MapF w M f n) (hk : w'.heap[M]? = w.heap[M]?) : MapF w' M f n := by
  obtain ⟨D, ⟨es, clock, hb, r⟩, q⟩ := h
  exact ⟨D, ⟨es, clock, hk.trans hb, r⟩, q⟩
theorem MapF.off {P : Nat → Prop} {w w' : World} {M : Nat} {f : Int → Option (Nat × Nat)} {n : Nat} (h : MapF w M f n) (o : Off P w w') (hP : ¬ P M) : MapF w' M f n := h.keep (o.block M h.lt hP)
theorem MapF.isMap {w : World} {M : Nat} {f : Int → Option (Nat × Nat)} {n : Nat} (h : MapF w M f n) : ∃ es clock, w.heap[M]? = some (.map es clock) := by
  obtain ⟨D, ⟨es, clock, hb, _⟩, _⟩ := h
  exact ⟨es, clock, hb⟩
theorem MapF.len {w : World} {M : Nat} {f : Int → Option (Nat × Nat)} {n : Nat} (h : MapF w M f n) (ty : TypeId) : (Builtin.len_ #[48] ty #[.map (some M)]).run Tryd.prog w = .ok (.int .i64 (n : Int)) w := by
  obtain ⟨D, h1, h2, _⟩ := h
  have := h1.len Tryd.underlying48 ty
  rwa [h2] at this
theorem zeroPl (w : World) : (zeroValue 121).run Tryd.prog w = .ok (.agg #[.int .i64 0, .int .i64 0, .int .i64 0]) w := by kernel_rfl
theorem MapF.look_no {w : World} {M : Nat} {f : Int → Option (Nat × Nat)} {n : Nat} (h : MapF w M f n) {k : Int} (hk : KeyI k) (hf : f k = none) : (Instr.lookup 48 (.map (some M)) (.int .i64 k) true).run Tryd.prog w = .ok (.tuple #[.agg #[.int .i64 0, .int .i64 0, .int .i64 0], .bool false]) w := by
  obtain ⟨D, h1, _, h3, _⟩ := h
  obtain ⟨v, ps, hr, hv⟩ := h1.look_ok mapKeyed Tryd.underlying48 (zeroPl w) (zd := .agg [.lit (.int .i64 0), .lit (.int .i64 0), .lit (.int .i64 0)]) (zp := []) rfl (keyOfI hk)
  have h4 := h3 k hk hf
  rw [Maps.atKey_of_not_has h4] at hv
  rw [h4, plEl_inv hv] at hr
  exact hr
theorem MapF.look_yes {w : World} {M : Nat} {f : Int → Option (Nat × Nat)} {n : Nat} (h : MapF w M f n) {k : Int} {p : Nat × Nat} (hk : KeyI k) (hf : f k = some p) : (Instr.lookup 48 (.map (some M)) (.int .i64 k) true).run Tryd.prog w = .ok (.tuple #[plV p, .bool true]) w := by
  obtain ⟨D, h1, _, _, h3⟩ := h
  obtain ⟨v, ps, hr, hv⟩ := h1.look_ok mapKeyed Tryd.underlying48 (zeroPl w) (zd := .agg [.lit (.int .i64 0), .lit (.int .i64 0), .lit (.int .i64 0)]) (zp := []) rfl (keyOfI hk)
  obtain ⟨h4, h5⟩ := h3 k p hk hf
  rw [h5] at hv
  rw [h4, plEl_inv hv] at hr
  exact hr
theorem turned_off {w w' : World} {M : Nat} (h : w.mapTurned w' M) : Off (fun q => q = M) w w' := by
  have hg := h.grown
  exact ⟨hg.os, hg.tape, hg.output, hg.size, fun k hk hn => hg.block k hk (fun e => hn (by simpa using e))⟩
theorem MapF.drop {w : World} {M : Nat} {f : Int → Option (Nat × Nat)} {n : Nat} (h : MapF w M f n) {k : Int} (hk : KeyI k) (ty : TypeId) :
    ∃ w', (Builtin.delete_ #[48, 3] ty #[.map (some M), .int .i64 k]).run Tryd.prog w = .ok (.tuple #[]) w' ∧ MapF w' M (updF f k none) (n - (if (f k).isSome then 1 else 0)) ∧ Off (fun q => q = M) w w' := by
  obtain ⟨D, h1, h2, h3, h4⟩ := h
  obtain ⟨w', hr, h5, h6⟩ := h1.drop mapKeyed Tryd.underlying48 (keyOfI hk) ty
  have hs := Maps.size_del (h1.tidy mapKeyed) (k := .int .i64 k)
  have hhas : Maps.has D (.int .i64 k) = (f k).isSome := by
    cases hf : f k with
    | none => rw [h3 k hk hf]; rfl
    | some p => rw [(h4 k p hk hf).1]; rfl
  rw [hhas, h2] at hs
  have hs' : Maps.size (D.del (.int .i64 k)) = n - (if (f k).isSome then 1 else 0) := by omega
  refine ⟨w', hr, ⟨D.del (.int .i64 k), by rw [← hs']; exact owns_tight h5, hs', fun k' hk' hf' => ?_, fun k' p hk' hf' => ?_⟩, turned_off h6⟩
  · by_cases e : k' = k
    · subst e; exact Maps.has_del_same
    · rw [Maps.has_del_other (ne_lit e)]
      exact h3 k' hk' (by simpa [updF, e] using hf')
  · by_cases e : k' = k
    · simp [updF, e] at hf'
    · have := h4 k' p hk' (by simpa [updF, e] using hf')
      exact ⟨by rw [Maps.has_del_other (ne_lit e)]; exact this.1, fun z => by rw [Maps.atKey_del_other (ne_lit e)]; exact this.2 z⟩
theorem MapF.store {w : World} {M : Nat} {f : Int → Option (Nat × Nat)} {n : Nat} (h : MapF w M f n) (hn : n < 1000000000) {k : Int} (hk : KeyI k) (p : Nat × Nat) :
    ∃ w', (Instr.mapUpdate 48 (.map (some M)) (.int .i64 k) (plV p)).run Tryd.prog w = .ok () w' ∧ MapF w' M (updF f k (some p)) (n + (if (f k).isSome then 0 else 1)) ∧ Off (fun q => q = M) w w' := by
  obtain ⟨D, h1, h2, h3, h4⟩ := h
  obtain ⟨w', hr, h5, h6⟩ := h1.store mapKeyed Tryd.underlying48 (by unfold maxLen; omega) (keyOfI hk) (plEl_mk p)
  have hs := Maps.size_put (h1.tidy mapKeyed) (k := .int .i64 k) (plD p)
  have hhas : Maps.has D (.int .i64 k) = (f k).isSome := by
    cases hf : f k with
    | none => rw [h3 k hk hf]; rfl
    | some p => rw [(h4 k p hk hf).1]; rfl
  rw [hhas, h2] at hs
  have hs' : Maps.size (D.put (.int .i64 k) (plD p)) = n + (if (f k).isSome then 0 else 1) := by rw [hs]; split <;> simp
  refine ⟨w', hr, ⟨D.put (.int .i64 k) (plD p), by rw [← hs']; exact owns_tight h5, hs', fun k' hk' hf' => ?_, fun k' p' hk' hf' => ?_⟩, turned_off h6⟩
  · by_cases e : k' = k
    · simp [updF, e] at hf'
    · rw [Maps.has_put_other (ne_lit e)]
      exact h3 k' hk' (by simpa [updF, e] using hf')
  · by_cases e : k' = k
    · subst e
      simp only [updF, if_pos, Option.some.injEq] at hf'
      subst hf'
      exact ⟨Maps.has_put_same h1.isMap (isKey hk) _, fun z => Maps.atKey_put_same h1.isMap (isKey hk) _ z⟩
    · have := h4 k' p' hk' (by simpa [updF, e] using hf')
      exact ⟨by rw [Maps.has_put_other (ne_lit e)]; exact this.1, fun z => by rw [Maps.atKey_put_other (ne_lit e)]; exact this.2 z⟩
/-! ### at the operation -/
section
variable {P : Program} {w w' : World} {ops : Array Oper} {rest : List Oper} {o : Oper} {a : Act} {Q : Exit → Act → World → Prop}
theorem wpList_upd_run (hg : o.guard = none) (m x v : Operand) (t : TypeId) (hop : o.op = Op.mapUpdate t m x v) {mv xv vv : Value} (hm : a.eval m = mv) (hx : a.eval x = xv) (hv : a.eval v = vv) (hr : (Instr.mapUpdate t mv xv vv).run P w = .ok () w') (hK : wpList P ops Q rest (a.put o.dst undef) w') :
    wpList P ops Q (o :: rest) a w := by
  refine wpList_plain hg fun K' hK' => ?_
  unfold Oper.wp
  simp [execOp, hop, hm, hx, hv, hr, Result.andThen]
  exact hK' _ _ hK
theorem wpList_del_run (hg : o.guard = none) (m x : Operand) (t k : TypeId) (hop : o.op = Op.call { callee := Callee.builtin Builtin.delete, args := #[m, x], argTypes := #[t, k] }) {mv xv : Value} (hm : a.eval m = mv) (hx : a.eval x = xv) (hr : (Builtin.delete_ #[t, k] o.type #[mv, xv]).run P w = .ok (.tuple #[]) w') (hK : wpList P ops Q rest (a.put o.dst (.tuple #[])) w') :
    wpList P ops Q (o :: rest) a w := by
  refine wpList_plain hg fun K' hK' => ?_
  unfold Oper.wp
  simp [execOp, hop, resolve, invoke, builtin, hm, hx, hr, Result.andThen]
  exact hK' _ _ hK
end
end Go.Proofs.YtdglnobapnohmaaDoor
