/-
  The map from control ids to places, as a function; its operations.
-/
import Derived.Test.YtplhdgijjckjcaaGreatDoorIbSpec
import Derived.Maps.Views
namespace Go.Proofs.YtplhdgijjckjcaaGreatDoor
open Go.RowKit

theorem mapKeyed : Maps.Keyed Tryz.prog 9 := Maps.string_keyed Tryz.underlying9
/-- A key: a text that a machine holds. -/
def KeyS (s : ByteArray) : Prop := s.size ≤ maxLen
theorem keyOfS {s : ByteArray} (h : KeyS s) : keyOf Tryz.prog 9 (.string s) = some (.string s.data.toList) := WideMaps.keyOf_string_mk Tryz.underlying9 h
def plEl (v : Value) : Option (DataW Unit × List MemPlace) :=
  match v with
  | .int .i64 a => some (.lit (.int .i64 a), [])
  | _ => none
theorem plEl_inv {v : Value} {a : Int} {ps : List MemPlace} (h : plEl v = some (.lit (.int .i64 a), ps)) : v = .int .i64 a := by
  unfold plEl at h
  split at h
  · simp only [Option.some.injEq, Prod.mk.injEq, DataW.lit.injEq, Lit.int.injEq, true_and] at h
    rw [h.1]
  · cases h
/-- Block M is a map that tells f, of n entries. -/
def MapF (w : World) (M : Nat) (f : ByteArray → Option Nat) (n : Nat) : Prop :=
  ∃ D : DataW Unit, w.ownsMap Tryz.prog 9 plEl M n D ∧ Maps.size D = n ∧ (∀ k, KeyS k → f k = none → Maps.has D (.string k.data.toList) = false) ∧ ∀ k p, KeyS k → f k = some p → Maps.has D (.string k.data.toList) = true ∧ ∀ z, D.atKey (.string k.data.toList) z = .lit (.int .i64 (p : Int))
theorem owns_tight {w : World} {M m : Nat} {D : DataW Unit} (h : w.ownsMap Tryz.prog 9 plEl M m D) : w.ownsMap Tryz.prog 9 plEl M (Maps.size D) D := by
  obtain ⟨es, clock, hb, F, _, rfl⟩ := h
  exact ⟨es, clock, hb, F, by simp [Maps.size, length_sorted], rfl⟩
theorem isKey {k : ByteArray} (h : KeyS k) : WideAt.IsKeyLit (.string k.data.toList) := (mapKeyed).key (keyOfS h)
theorem ne_lit {k k' : ByteArray} (h : k' ≠ k) : Lit.string k'.data.toList ≠ Lit.string k.data.toList := fun e => h (by
  injection e with e
  cases k; cases k'
  simp only [ByteArray.mk.injEq]
  exact Array.toList_inj.1 e)
def updF {β : Type} (f : ByteArray → β) (k : ByteArray) (b : β) : ByteArray → β := fun x => if x = k then b else f x
theorem MapF.made (w : World) : MapF (w.alloc (.map #[] 0)) w.heap.size (fun _ => none) 0 :=
  ⟨.map [], World.ownsMap_made w _ _ _, rfl, fun _ _ _ => rfl, fun _ _ _ h => by cases h⟩
theorem MapF.lt {w : World} {M : Nat} {f : ByteArray → Option Nat} {n : Nat} (h : MapF w M f n) : M < w.heap.size := by
  obtain ⟨D, h, _⟩ := h; exact h.lt
theorem MapF.keep {w w' : World} {M : Nat} {f : ByteArray → Option Nat} {n : Nat} (h : MapF w M f n) (hk : w'.heap[M]? = w.heap[M]?) : MapF w' M f n := by
  obtain ⟨D, ⟨es, clock, hb, r⟩, q⟩ := h
  exact ⟨D, ⟨es, clock, hk.trans hb, r⟩, q⟩
theorem MapF.off {P : Nat → Prop} {w w' : World} {M : Nat} {f : ByteArray → Option Nat} {n : Nat} (h : MapF w M f n) (o : Off P w w') (hP : ¬ P M) : MapF w' M f n := h.keep (o.block M h.lt hP)
theorem MapF.below {w w' : World} {M : Nat} {f : ByteArray → Option Nat} {n : Nat} (h : MapF w M f n) (hb : Below w.heap.size w w') : MapF w' M f n := h.keep (hb.block M h.lt)
theorem MapF.isMap {w : World} {M : Nat} {f : ByteArray → Option Nat} {n : Nat} (h : MapF w M f n) : ∃ es clock, w.heap[M]? = some (.map es clock) := by
  obtain ⟨D, ⟨es, clock, hb, _⟩, _⟩ := h
  exact ⟨es, clock, hb⟩
theorem zeroPl (w : World) : (zeroValue 3).run Tryz.prog w = .ok (.int .i64 0) w := by kernel_rfl
theorem MapF.look_no {w : World} {M : Nat} {f : ByteArray → Option Nat} {n : Nat} (h : MapF w M f n) {k : ByteArray} (hk : KeyS k) (hf : f k = none) : (Instr.lookup 93 (.map (some M)) (.string k) true).run Tryz.prog w = .ok (.tuple #[.int .i64 0, .bool false]) w := by
  obtain ⟨D, h1, _, h3, _⟩ := h
  obtain ⟨v, ps, hr, hv⟩ := h1.look_ok mapKeyed Tryz.underlying93 (zeroPl w) (zd := .lit (.int .i64 0)) (zp := []) rfl (keyOfS hk)
  have h4 := h3 k hk hf
  rw [Maps.atKey_of_not_has h4] at hv
  rw [h4, plEl_inv hv] at hr
  exact hr
theorem MapF.look_yes {w : World} {M : Nat} {f : ByteArray → Option Nat} {n : Nat} (h : MapF w M f n) {k : ByteArray} {p : Nat} (hk : KeyS k) (hf : f k = some p) : (Instr.lookup 93 (.map (some M)) (.string k) true).run Tryz.prog w = .ok (.tuple #[.int .i64 (p : Int), .bool true]) w := by
  obtain ⟨D, h1, _, _, h3⟩ := h
  obtain ⟨v, ps, hr, hv⟩ := h1.look_ok mapKeyed Tryz.underlying93 (zeroPl w) (zd := .lit (.int .i64 0)) (zp := []) rfl (keyOfS hk)
  obtain ⟨h4, h5⟩ := h3 k p hk hf
  rw [h5] at hv
  rw [h4, plEl_inv hv] at hr
  exact hr
/-- What is found at a key. -/
def atP (o : Option Nat) : Int := match o with | some p => (p : Int) | none => 0
theorem MapF.look {w : World} {M : Nat} {f : ByteArray → Option Nat} {n : Nat} (h : MapF w M f n) {k : ByteArray} (hk : KeyS k) : (Instr.lookup 93 (.map (some M)) (.string k) true).run Tryz.prog w = .ok (.tuple #[.int .i64 (atP (f k)), .bool (f k).isSome]) w := by
  cases hf : f k with
  | none => exact h.look_no hk hf
  | some p => exact h.look_yes hk hf
theorem turned_off {w w' : World} {M : Nat} (h : w.mapTurned w' M) : Off (fun q => q = M) w w' := by
  have hg := h.grown
  exact ⟨hg.os, hg.tape, hg.output, hg.size, fun k hk hn => hg.block k hk (fun e => hn (by simpa using e))⟩
theorem MapF.drop {w : World} {M : Nat} {f : ByteArray → Option Nat} {n : Nat} (h : MapF w M f n) {k : ByteArray} (hk : KeyS k) (ty : TypeId) :
    ∃ w', (Builtin.delete_ #[93, 9] ty #[.map (some M), .string k]).run Tryz.prog w = .ok (.tuple #[]) w' ∧ MapF w' M (updF f k none) (n - (if (f k).isSome then 1 else 0)) ∧ Off (fun q => q = M) w w' := by
  obtain ⟨D, h1, h2, h3, h4⟩ := h
  obtain ⟨w', hr, h5, h6⟩ := h1.drop mapKeyed Tryz.underlying93 (keyOfS hk) ty
  have hs := Maps.size_del (h1.tidy mapKeyed) (k := .string k.data.toList)
  have hhas : Maps.has D (.string k.data.toList) = (f k).isSome := by
    cases hf : f k with
    | none => rw [h3 k hk hf]; rfl
    | some p => rw [(h4 k p hk hf).1]; rfl
  rw [hhas, h2] at hs
  have hs' : Maps.size (D.del (.string k.data.toList)) = n - (if (f k).isSome then 1 else 0) := by omega
  refine ⟨w', hr, ⟨D.del (.string k.data.toList), by rw [← hs']; exact owns_tight h5, hs', fun k' hk' hf' => ?_, fun k' p hk' hf' => ?_⟩, turned_off h6⟩
  · by_cases e : k' = k
    · subst e; exact Maps.has_del_same
    · rw [Maps.has_del_other (ne_lit e)]
      exact h3 k' hk' (by simpa [updF, e] using hf')
  · by_cases e : k' = k
    · simp [updF, e] at hf'
    · have := h4 k' p hk' (by simpa [updF, e] using hf')
      exact ⟨by rw [Maps.has_del_other (ne_lit e)]; exact this.1, fun z => by rw [Maps.atKey_del_other (ne_lit e)]; exact this.2 z⟩
theorem MapF.store {w : World} {M : Nat} {f : ByteArray → Option Nat} {n : Nat} (h : MapF w M f n) (hn : n < 1000000000) {k : ByteArray} (hk : KeyS k) (p : Nat) :
    ∃ w', (Instr.mapUpdate 93 (.map (some M)) (.string k) (.int .i64 (p : Int))).run Tryz.prog w = .ok () w' ∧ MapF w' M (updF f k (some p)) (n + (if (f k).isSome then 0 else 1)) ∧ Off (fun q => q = M) w w' := by
  obtain ⟨D, h1, h2, h3, h4⟩ := h
  obtain ⟨w', hr, h5, h6⟩ := h1.store mapKeyed Tryz.underlying93 (by unfold maxLen; omega) (keyOfS hk) (show plEl (.int .i64 (p : Int)) = some (.lit (.int .i64 (p : Int)), []) from rfl)
  have hs := Maps.size_put (h1.tidy mapKeyed) (k := .string k.data.toList) (.lit (.int .i64 (p : Int)))
  have hhas : Maps.has D (.string k.data.toList) = (f k).isSome := by
    cases hf : f k with
    | none => rw [h3 k hk hf]; rfl
    | some p => rw [(h4 k p hk hf).1]; rfl
  rw [hhas, h2] at hs
  have hs' : Maps.size (D.put (.string k.data.toList) (.lit (.int .i64 (p : Int)))) = n + (if (f k).isSome then 0 else 1) := by rw [hs]; split <;> simp
  refine ⟨w', hr, ⟨D.put (.string k.data.toList) (.lit (.int .i64 (p : Int))), by rw [← hs']; exact owns_tight h5, hs', fun k' hk' hf' => ?_, fun k' p' hk' hf' => ?_⟩, turned_off h6⟩
  · by_cases e : k' = k
    · simp [updF, e] at hf'
    · rw [Maps.has_put_other (ne_lit e)]
      exact h3 k' hk' (by simpa [updF, e] using hf')
  · by_cases e : k' = k
    · subst e
      simp only [updF, if_pos, Option.some.injEq] at hf'
      subst hf'
      exact ⟨Maps.has_put_same h1.isMap (isKey hk) _, fun z => Maps.atKey_put_same h1.isMap (isKey hk) _ z⟩
    · have := h4 k' p' hk' (by simpa [updF, e] using hf')
      exact ⟨by rw [Maps.has_put_other (ne_lit e)]; exact this.1, fun z => by rw [Maps.atKey_put_other (ne_lit e)]; exact this.2 z⟩
/-! ### at the operation -/
section
variable {P : Program} {w w' : World} {ops : Array Oper} {rest : List Oper} {o : Oper} {a : Act} {Q : Exit → Act → World → Prop}
theorem wpList_upd_run (hg : o.guard = none) (m x v : Operand) (t : TypeId) (hop : o.op = Op.mapUpdate t m x v) {mv xv vv : Value} (hm : a.eval m = mv) (hx : a.eval x = xv) (hv : a.eval v = vv) (hr : (Instr.mapUpdate t mv xv vv).run P w = .ok () w') (hK : wpList P ops Q rest (a.put o.dst undef) w') :
    wpList P ops Q (o :: rest) a w := by
  refine wpList_plain hg fun K' hK' => ?_
  unfold Oper.wp
  simp [execOp, hop, hm, hx, hv, hr, Result.andThen]
  exact hK' _ _ hK
theorem wpList_del_run (hg : o.guard = none) (m x : Operand) (t k : TypeId) (hop : o.op = Op.call { callee := Callee.builtin Builtin.delete, args := #[m, x], argTypes := #[t, k] }) {mv xv : Value} (hm : a.eval m = mv) (hx : a.eval x = xv) (hr : (Builtin.delete_ #[t, k] o.type #[mv, xv]).run P w = .ok (.tuple #[]) w') (hK : wpList P ops Q rest (a.put o.dst (.tuple #[])) w') :
    wpList P ops Q (o :: rest) a w := by
  refine wpList_plain hg fun K' hK' => ?_
  unfold Oper.wp
  simp [execOp, hop, resolve, invoke, builtin, hm, hx, hr, Result.andThen]
  exact hK' _ _ hK
end
end Go.Proofs.YtplhdgijjckjcaaGreatDoor
