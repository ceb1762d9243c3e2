/-
  The law DiskTorn: what its walks share.
-/
import Derived.Test.YtlgjjemfckmidaaDkStr
import Derived.Deep.DeepCutAuto
namespace Go.Proofs.Ytlgjjemfckmidaa
open Go.RowKit

theorem wpList_append_run_g {P : Program} {w w' : World} {ops : Array Oper} {rest : List Oper} {o : Oper} {a : Act} {Q : Exit → Act → World → Prop} (hw : Region.wanted o (yielded ops a.tmps) = true) (s x : Operand) (t : TypeId) (v' : Value)
    (ho : o.op = .call { callee := .builtin .append, args := #[s, x], argTypes := #[t, t] }) (hr : (Builtin.append_ #[t, t] o.type #[a.eval s, a.eval x]).run P w = .ok v' w') (h : wpList P ops Q rest (a.put o.dst v') w') : wpList P ops Q (o :: rest) a w :=
  wpList_step fun _ hK => by
    rw [if_pos hw]
    unfold Oper.wp execOp
    simp only [ho, resolve, invoke, builtin, Sem.run_bind, Sem.run_pure, Result.andThen_ok, List.map_toArray, List.map_cons, List.map_nil, hr]
    exact hK _ _ h
theorem Row.byts' {w : World} {B : Nat} {a : Option Addr} {n c : Nat} {xs : List Int} (h : Row w B (.slice a n c) xs) : n = xs.length ∧ Byts w a n xs ∧ (a = none → c = 0) ∧ ∀ b o, a = some ⟨b, o, none⟩ → B ≤ b := by
  rcases h.form with ⟨e, rfl⟩ | ⟨g, cap, e, hB, _⟩
  · simp only [Value.slice.injEq] at e
    obtain ⟨rfl, rfl, rfl⟩ := e
    exact ⟨rfl, ⟨rfl, fun j hj => by omega⟩, fun _ => rfl, fun b o e => by cases e⟩
  · simp only [Value.slice.injEq] at e
    obtain ⟨rfl, rfl, rfl⟩ := e
    refine ⟨rfl, ?_, fun e => (by cases e), fun b o e => by simp only [Option.some.injEq, Addr.mk.injEq] at e; omega⟩
    have := h.byts (x := 0) (n := xs.length) (m := xs.length) (by omega) rfl
    simpa using this
theorem row_empty (w : World) (n : Nat) (hn : w.heap.size = n) : Row (w.alloc (.cells #[] 5)) n (.slice (some ⟨n, 0, none⟩) 0 0) [] := by
  subst hn
  refine ⟨rfl, Or.inr ⟨w.heap.size, 0, #[], rfl, Nat.le_refl _, ?_, Nat.le_refl _, Nat.zero_le _, rfl, rfl⟩⟩
  show (w.heap.push _)[w.heap.size]? = _
  simp
/-- A copy: append to an empty list. -/
theorem run_copy_bytes {w : World} {po : Option Addr} {m c : Nat} {bs : List Int} (hb : Byts w po m bs) (hpo : po = none → c = 0) (hl : m ≤ 140737488355328) :
    ∃ a n c' w', (Builtin.append_ #[25, 25] 25 #[.slice (some ⟨w.heap.size, 0, none⟩) 0 0, .slice po m c]).run Try.prog (w.alloc (.cells #[] 5)) = .ok (.slice a n c') w' ∧ Row w' w.heap.size (.slice a n c') bs ∧ Below w.heap.size w w' := by
  obtain ⟨v', w', hr, r1, g1, b1⟩ := run_append_bytes (row_empty w _ rfl) (hb.off (P := fun _ => False) ((Off.refl _ _).alloc _) (fun _ _ _ => id)) hpo (by simp; omega) (by simp) 25
  obtain ⟨a, c', rfl, _⟩ := r1.slice
  refine ⟨a, _, c', w', hr, by simpa using r1, ((Below.refl _ _).alloc (Nat.le_refl _) _).trans ((Off.of_grown g1).below (by simp) (fun k e => by simp [Value.ownBlock] at e; omega))⟩

theorem torn_eq (ss ts : List Int) (k z : Nat) : torn (ss ++ ts) ss.length k z = ss ++ (ts.take k ++ List.replicate z 0) := by
  unfold torn
  rw [List.take_append, List.take_of_length_le (by omega), Nat.add_sub_cancel_left, List.append_assoc]
theorem torn_rest {W : World} {a : Option Addr} {ss ts : List Int} {sl k z c : Nat} (h : Byts W a (sl + k + z) (torn (ss ++ ts) ss.length k z)) (hs : ss.length = sl) (hc : sl + k + z ≤ c) (nd : Nat) :
    (c = sl → Byts (W.drewN nd) a (k + z) (ts.take k ++ List.replicate z 0)) ∧ (∀ g, a = some ⟨g, 0, none⟩ → Byts (W.drewN nd) (some ⟨g, sl, none⟩) (k + z) (ts.take k ++ List.replicate z 0)) := by
  rw [torn_eq] at h
  have hl : (ts.take k ++ List.replicate z (0 : Int)).length = k + z := by have := h.len; rw [List.length_append] at this; omega
  refine ⟨fun e => ⟨hl, fun j hj => by omega⟩, fun g hg => ⟨hl, fun j hj => ?_⟩⟩
  subst hg
  obtain ⟨b, o, e, hb, hcell⟩ := h.cell (sl + j) (by omega)
  simp only [Option.some.injEq, Addr.mk.injEq, and_true] at e
  obtain ⟨rfl, rfl⟩ := e
  refine ⟨g, sl, rfl, hb, ?_⟩
  have e2 : (W.drewN nd).cell? ⟨g, sl + j, none⟩ = W.cell? ⟨g, sl + j, none⟩ := rfl
  rw [e2]
  rw [Nat.zero_add] at hcell
  rw [hcell]
  congr 2
  rw [List.getD_eq_getElem?_getD, List.getD_eq_getElem?_getD, List.getElem?_append_right (by omega), hs, Nat.add_sub_cancel_left]
theorem torn_pre {ss ts : List Int} {k z : Nat} (_h : ss.length ≤ ss.length) : ss.length ≤ (torn (ss ++ ts) ss.length k z).length ∧ (torn (ss ++ ts) ss.length k z).take ss.length = ss := by
  have e : torn (ss ++ ts) ss.length k z = ss ++ (ts.take k ++ List.replicate z 0) := by
    unfold torn
    rw [List.take_append, List.take_of_length_le (by omega), Nat.add_sub_cancel_left, List.append_assoc]
  rw [e]
  exact ⟨by simp, by rw [List.take_append_of_le_length (Nat.le_refl _), List.take_length]⟩
end Go.Proofs.Ytlgjjemfckmidaa
