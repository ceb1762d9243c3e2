/-
  Lists of pieces of the call's own; add.
-/
import Derived.Test.YtkpebmhokdckfaaDoorEsKind
import Derived.Laws.AppendOwn
import Derived.Laws.OwnMore
import Derived.Maps.AppendAt
namespace Go.Proofs.YtkpebmhokdckfaaDoor
open Go.RowKit

def pcells (p : Pc) : List Value := [.int .i64 (p.k : Int), .string p.t, .int .i64 0]
def PcRow (w : World) (B : Nat) (v : Value) (xs : List Pc) : Prop := w.ownsRow B 53 3 v xs.length (xs.flatMap pcells)
theorem pcinfo : ∃ i z, Tryd.prog.info? 53 = some i ∧ i.zero = some z ∧ z.cells.size = 3 ∧ i.size = 3 ∧ i.bytes = 32 := by
  have h : (Tryd.prog.info? 53).map (fun i => (i.zero.map (fun z => z.cells.size), i.size, i.bytes)) = some (some 3, 3, 32) := by kernel_rfl
  obtain ⟨i, hi, e⟩ := Option.map_eq_some_iff.1 h
  simp only [Prod.mk.injEq] at e
  obtain ⟨z, hz, e1⟩ := Option.map_eq_some_iff.1 e.1
  exact ⟨i, z, hi, hz, e1, e.2.1, e.2.2⟩
theorem pflat_get : ∀ (xs : List Pc) (k : Nat) (x : Pc), xs[k]? = some x → ∀ q, q < 3 → (xs.flatMap pcells)[k * 3 + q]? = (pcells x)[q]?
  | [], k, x, h, q, hq => by simp at h
  | y :: r, 0, x, h, q, hq => by
    simp only [List.getElem?_cons_zero, Option.some.injEq] at h
    subst h
    rw [List.flatMap_cons, List.getElem?_append_left (by simp [pcells]; omega)]
    simp
  | y :: r, k + 1, x, h, q, hq => by
    rw [List.getElem?_cons_succ] at h
    rw [List.flatMap_cons, List.getElem?_append_right (by simp [pcells]; omega)]
    have := pflat_get r k x h q hq
    rw [← this]
    congr 1
    simp [pcells]; omega
theorem PcRow.nil (w : World) (B : Nat) : PcRow w B (.slice none 0 0) [] := World.ownsRow_nil w B _ 3
theorem PcRow.isSlice {w : World} {B : Nat} {v : Value} {xs : List Pc} (h : PcRow w B v xs) : (v = .slice none 0 0 ∧ xs = []) ∨ ∃ g c, v = .slice (some ⟨g, 0, none⟩) xs.length c ∧ g < w.heap.size := by
  rcases h.2 with ⟨rfl, h0⟩ | ⟨g, cap, cur, rfl, _, hg, _⟩
  · exact Or.inl ⟨rfl, List.eq_nil_of_length_eq_zero h0⟩
  · refine Or.inr ⟨g, cap, rfl, ?_⟩
    rcases Nat.lt_or_ge g w.heap.size with q | q
    · exact q
    · rw [Array.getElem?_eq_none q] at hg; cases hg
theorem PcRow.keep {w w' : World} {B : Nat} {v : Value} {xs : List Pc} (h : PcRow w B v xs) (hk : ∀ k, B ≤ k → k < w.heap.size → w'.heap[k]? = w.heap[k]?) : PcRow w' B v xs := by
  refine ⟨h.1, ?_⟩
  rcases h.2 with ⟨rfl, h0⟩ | ⟨g, cap, cur, rfl, hbg, hg, r⟩
  · exact .inl ⟨rfl, h0⟩
  · exact .inr ⟨g, cap, cur, rfl, hbg, by rw [hk g hbg (by rcases Nat.lt_or_ge g w.heap.size with q | q; exact q; rw [Array.getElem?_eq_none q] at hg; cases hg)]; exact hg, r⟩
theorem PcRow.below {w w' : World} {B : Nat} {v : Value} {xs : List Pc} (h : PcRow w B v xs) (hb : Below w.heap.size w w') : PcRow w' B v xs := h.keep fun k _ hk => hb.block k hk
theorem run_ppush {w : World} {B : Nat} {v : Value} {xs : List Pc} (h : PcRow w B v xs) (hB : B ≤ w.heap.size) (hl : xs.length + 1 ≤ 1048577) (y : Pc) :
    ∃ a c w', (Builtin.append_ #[38, 38] 38 #[v, .slice (some ⟨w.heap.size, 0, none⟩) 1 1]).run Tryd.prog (w.alloc (.cells (pcells y).toArray 53)) = .ok (.slice a (xs.length + 1) c) w' ∧ PcRow w' B (.slice a (xs.length + 1) c) (xs ++ [y]) ∧ Below B w w' := by
  obtain ⟨i, z, hi, hz, hzs, hs, hby⟩ := pcinfo
  have bW : Below w.heap.size w (w.alloc (.cells (pcells y).toArray 53)) := (Below.refl _ _).alloc (Nat.le_refl _) _
  have hrow : PcRow (w.alloc (.cells (pcells y).toArray 53)) B v xs := h.below bW
  obtain ⟨v', w', hr, r, hg, _⟩ := run_append_own (P := Tryd.prog) (w.alloc (.cells (pcells y).toArray 53)) B 38 38 53 i z 3 32 Tryd.underlying38 hi hz hs hby hzs (by omega) v xs.length (xs.flatMap pcells) hrow ⟨w.heap.size, 0, none⟩ 1 1 (pcells y) rfl (fun j u hu => by
      rw [show (⟨w.heap.size, 0, none⟩ : Addr).add j = ⟨w.heap.size, j, none⟩ by rw [Addr.add_lit, Nat.zero_add]]
      match j, hu with
      | 0, hu | 1, hu | 2, hu => simp [pcells] at hu ⊢; exact hu
      | j + 3, hu => simp [pcells] at hu) (fun u hu => by simp only [pcells, List.mem_cons, List.not_mem_nil, or_false] at hu; rcases hu with rfl | rfl | rfl <;> rfl) (by unfold maxLen; omega) (by omega) (by simp; omega)
  have hR : PcRow w' B v' (xs ++ [y]) := by
    unfold PcRow
    simpa using r
  have hsl : ∃ a c, v' = .slice a (xs.length + 1) c := by
    rcases hR.isSlice with ⟨_, h0⟩ | ⟨g, c, rfl, _⟩
    · simp at h0
    · exact ⟨_, c, by rw [List.length_append]; rfl⟩
  obtain ⟨a, c, rfl⟩ := hsl
  refine ⟨a, c, w', hr, hR, ?_⟩
  refine Below.trans ⟨bW.os, bW.tape, bW.output, bW.size, fun k hk => bW.block k (by omega)⟩ ⟨hg.os, hg.tape, hg.output, hg.size, fun k hk => hg.block k (by simp; omega) (fun e => ?_)⟩
  rcases h.2 with ⟨rfl, h0⟩ | ⟨g, cap, cur, rfl, hbg, _⟩
  · simp [Value.ownBlock] at e
  · simp [Value.ownBlock] at e; omega
/-- append, in the walk, by an equation of its run. -/
theorem wpList_append_run {P : Program} {w w' : World} {ops : Array Oper} {rest : List Oper} {o : Oper} {a : Act} {Q : Exit → Act → World → Prop} (hgd : o.guard = none) (s x : Operand) (t : TypeId) (v' : Value)
    (ho : o.op = .call { callee := .builtin .append, args := #[s, x], argTypes := #[t, t] }) (hr : (Builtin.append_ #[t, t] o.type #[a.eval s, a.eval x]).run P w = .ok v' w') (h : wpList P ops Q rest (a.put o.dst v') w') : wpList P ops Q (o :: rest) a w :=
  wpList_plain hgd fun _ hK => by
    unfold Oper.wp execOp
    simp only [ho, resolve, invoke, builtin, Sem.run_bind, Sem.run_pure, Result.andThen_ok, List.map_toArray, List.map_cons, List.map_nil, hr]
    exact hK _ _ h
theorem notEmpty {t : ByteArray} (h : t.size ≠ 0) : t.toList.isEmpty = false := by
  rw [ByteArray.toList_eq, Bool.eq_false_iff]
  intro g
  apply h
  show t.data.size = 0
  rw [← Array.length_toList, List.isEmpty_iff.1 g]; rfl
/-- What add leaves. -/
def pushP (m : Mk) (k : Nat) (t : ByteArray) (xs : List Pc) : List Pc := if t.size = 0 then xs else xs ++ [⟨k, if k = 2 then ltS (ltB m (t.data.toList.getD 0 0)) else t⟩]
def AddQ (B : Nat) (w : World) (l : List Pc) (e : Ending) (w' : World) : Prop := ∃ v', e = .returned v' ∧ PcRow w' B v' l ∧ Below B w w'
theorem AddQ.mk {B : Nat} {w w' : World} {l : List Pc} {v' : Value} (h : PcRow w' B v' l) (g : Below B w w') : AddQ B w l (.returned v') w' := ⟨v', rfl, h, g⟩
set_option maxRecDepth 100000 in
set_option maxHeartbeats 2000000 in
theorem add_empty (m : Mk) (v : Value) (xs : List Pc) (k : Nat) (w : World) (B : Nat) (h : PcRow w B v xs) :
    Calls Tryd.prog 20 #[.string m.str, v, .int .i64 (k : Int), .string ⟨#[]⟩] w (AddQ B w xs) := by
  go_enter Tryd.func20, Tryd.ntmps20
  go_wp2_with fail
  go_ret
  exact AddQ.mk h (Below.refl _ _)
set_option maxRecDepth 100000 in
set_option maxHeartbeats 2000000 in
theorem add_other (m : Mk) (v : Value) (xs : List Pc) (k : Nat) (t : ByteArray) (w : World) (B : Nat) (h : PcRow w B v xs) (hB : B ≤ w.heap.size) (hl : xs.length + 1 ≤ 1048577) (ht : t.size ≠ 0) (hk : k ≠ 2) :
    Calls Tryd.prog 20 #[.string m.str, v, .int .i64 (k : Int), .string t] w (AddQ B w (xs ++ [⟨k, t⟩])) := by
  have hk2 : ((k : Int) == 2) = false := by simp; omega
  have hne := notEmpty ht
  obtain ⟨a, c, w', hr, hrow, hb⟩ := run_ppush h hB hl ⟨k, t⟩
  have HR : Hid (PcRow w' B (.slice a (xs.length + 1) c) (xs ++ [⟨k, t⟩]) ∧ Below B w w') := ⟨hrow, hb⟩
  simp only [pcells] at hr
  clear h hrow hb ht hk hB
  go_enter Tryd.func20, Tryd.ntmps20
  go_wp2_with (at_builtin; refine wpList_append_run rfl (.tmp 18) (.tmp 22) 38 _ rfl hr ?_)
  go_ret
  exact AddQ.mk HR.out.1 HR.out.2
set_option maxRecDepth 100000 in
set_option maxHeartbeats 2000000 in
theorem add_mark (m : Mk) (v : Value) (xs : List Pc) (t : ByteArray) (w : World) (B : Nat) (h : PcRow w B v xs) (hB : B ≤ w.heap.size) (hl : xs.length + 1 ≤ 1048577) (ht : 0 < t.size) (hm : t.data.toList.getD 0 0 ∈ m.l) :
    Calls Tryd.prog 20 #[.string m.str, v, .int .i64 2, .string t] w (AddQ B w (xs ++ [⟨2, ltS (ltB m (t.data.toList.getD 0 0))⟩])) := by
  have hne := notEmpty (t := t) (by omega)
  obtain ⟨b, hbb⟩ : ∃ b, t.data.toList.getD 0 0 = b := ⟨_, rfl⟩
  rw [hbb] at hm ⊢
  have hix : ∀ w, (Instr.index 9 (.string t) (.int .i64 0)).run Tryd.prog w = .ok (.int .u8 (b.toNat : Int)) w := fun w => by
    have h0 : t[0]? = some b := by
      rw [getElem?_pos t 0 ht, ← hbb, get_bt ht]
    simp [Instr.index, run_underlying Tryd.underlying9, go_sem, h0, asIntOf]
  have hlt := fun w => letter_any m b w hm
  obtain ⟨a, c, w', hr, hrow, hb⟩ := run_ppush h hB hl ⟨2, ltS (ltB m b)⟩
  have HR : Hid (PcRow w' B (.slice a (xs.length + 1) c) (xs ++ [⟨2, ltS (ltB m b)⟩]) ∧ Below B w w') := ⟨hrow, hb⟩
  simp only [pcells] at hr
  rw [show ((2 : Nat) : Int) = 2 from rfl] at hr
  obtain ⟨L, hL⟩ : ∃ L, ltS (ltB m b) = L := ⟨_, rfl⟩
  rw [hL] at hr HR hlt ⊢
  clear h hrow hb hB hbb hm hL
  go_enter Tryd.func20, Tryd.ntmps20
  go_wp2_with (first | (go_at_call 33; refine (hlt _).mono ?_; rintro e w' ⟨rfl, hw⟩; rw [hw]; clear hw) | (at_builtin; refine wpList_append_run rfl (.tmp 18) (.tmp 22) 38 _ rfl hr ?_))
  go_ret
  exact AddQ.mk HR.out.1 HR.out.2
theorem add_any (m : Mk) (v : Value) (xs : List Pc) (k : Nat) (t : ByteArray) (w : World) (B : Nat) (h : PcRow w B v xs) (hB : B ≤ w.heap.size) (hl : xs.length + 1 ≤ 1048577) (hm : k = 2 → 0 < t.size → t.data.toList.getD 0 0 ∈ m.l) :
    Calls Tryd.prog 20 #[.string m.str, v, .int .i64 (k : Int), .string t] w (AddQ B w (pushP m k t xs)) := by
  by_cases h0 : t.size = 0
  · obtain rfl : t = ⟨#[]⟩ := by obtain ⟨⟨l⟩⟩ := t; have : l.length = 0 := h0; rw [List.eq_nil_of_length_eq_zero this]
    exact add_empty m v xs k w B h
  · unfold pushP
    rw [if_neg h0]
    by_cases h2 : k = 2
    · subst h2
      rw [if_pos rfl]
      exact add_mark m v xs t w B h hB hl (by omega) (hm rfl (by omega))
    · rw [if_neg h2]
      exact add_other m v xs k t w B h hB hl h0 h2
end Go.Proofs.YtkpebmhokdckfaaDoor
