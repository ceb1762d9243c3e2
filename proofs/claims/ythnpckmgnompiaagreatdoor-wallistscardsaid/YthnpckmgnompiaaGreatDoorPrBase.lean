import Derived.Test.YthnpckmgnompiaaGreatDoorRfBase
import Derived.Test.YthnpckmgnompiaaGreatDoorDkFrom
import Derived.Deep.OwnRows
import Derived.Deep.DeepCutAuto
import Derived.Deep.RegionLaw
import Derived.Test.YthnpckmgnompiaaGreatDoorDkMore
import Derived.Laws.Runes
/-
  The calls of the document's disk. (Typed by gen/mkref.py.)
-/
namespace Go.Proofs.YthnpckmgnompiaaGreatDoor
open Go.RowKit

/-- Bytes that stand apart, if there are any. -/
theorem Byts.off' {P : Nat → Prop} {w w' : World} {po : Option Addr} {n : Nat} {bs : List Int} (h : Byts w po n bs) (ho : Off P w w') (hP : 0 < n → ∀ b o, po = some ⟨b, o, none⟩ → ¬ P b) : Byts w' po n bs :=
  ⟨h.len, fun j hj => by
    obtain ⟨b, o, e, hl, hc⟩ := h.cell j hj
    exact ⟨b, o, e, Nat.lt_of_lt_of_le hl ho.size, by rw [ho.cell (p := ⟨b, o + j, none⟩) hl (hP (by omega) b o e)]; exact hc⟩⟩

/-- Whether a write is done; what the fuse is then. -/
def goesOn (dead : Bool) (left : Int) : Bool := !(dead || left == 0)
theorem RStep.drewN (w : World) (R : Nat) (v : Nat → Value) (k : Nat) : RStep w (w.drewN k) R v v := ⟨(Off.refl _ _).drewN _, fun _ _ g => g⟩
def leftOn (left : Int) : Int := if 0 < left then left - 1 else left
def oneMore (n : Int) : Int := if 9007199254740992 ≤ n then 9007199254740992 else n + 1
theorem oneMore_bn {n : Int} (h : 0 ≤ n ∧ n ≤ 9007199254740992) : 0 ≤ oneMore n ∧ oneMore n ≤ 9007199254740992 := by
  unfold oneMore; split <;> omega
end Go.Proofs.YthnpckmgnompiaaGreatDoor

/-
  Counts of a disk that was made; the law's fill and beyond.
-/
namespace Go.Proofs.YthnpckmgnompiaaGreatDoor
open Go.RowKit

/-- What fill answers: a list no longer than that. -/
def FOut (e : Ending) : Prop := ∃ (a : Option Addr) (m c : Nat), e = .returned (.slice a m c) ∧ m ≤ 16777217
/-- What beyond answers. -/
def BOut (xs : List Opv) (e : Ending) : Prop := ∃ b, e = .returned (.bool b) ∧ (b = false → ∀ y ∈ xs, y.pl ≤ 2147483647)
theorem u8make : (Tryz.prog.info? 5).map (fun i => (i.zero, i.size, i.bytes)) = some (some (.int .u8 0), 1, 1) := by kernel_rfl
end Go.Proofs.YthnpckmgnompiaaGreatDoor

/-
  The law DiskTorn: what its walks share.
-/
namespace Go.Proofs.YthnpckmgnompiaaGreatDoor
open Go.RowKit

theorem wpList_append_run_g {P : Program} {w w' : World} {ops : Array Oper} {rest : List Oper} {o : Oper} {a : Act} {Q : Exit → Act → World → Prop} (hw : Region.wanted o (yielded ops a.tmps) = true) (s x : Operand) (t : TypeId) (v' : Value)
    (ho : o.op = .call { callee := .builtin .append, args := #[s, x], argTypes := #[t, t] }) (hr : (Builtin.append_ #[t, t] o.type #[a.eval s, a.eval x]).run P w = .ok v' w') (h : wpList P ops Q rest (a.put o.dst v') w') : wpList P ops Q (o :: rest) a w :=
  wpList_step fun _ hK => by
    rw [if_pos hw]
    unfold Oper.wp execOp
    simp only [ho, resolve, invoke, builtin, Sem.run_bind, Sem.run_pure, Result.andThen_ok, List.map_toArray, List.map_cons, List.map_nil, hr]
    exact hK _ _ h
theorem Row.byts' {w : World} {B : Nat} {a : Option Addr} {n c : Nat} {xs : List Int} (h : Row w B (.slice a n c) xs) : n = xs.length ∧ Byts w a n xs ∧ (a = none → c = 0) ∧ ∀ b o, a = some ⟨b, o, none⟩ → B ≤ b := by
  rcases h.form with ⟨e, rfl⟩ | ⟨g, cap, e, hB, _⟩
  · simp only [Value.slice.injEq] at e
    obtain ⟨rfl, rfl, rfl⟩ := e
    exact ⟨rfl, ⟨rfl, fun j hj => by omega⟩, fun _ => rfl, fun b o e => by cases e⟩
  · simp only [Value.slice.injEq] at e
    obtain ⟨rfl, rfl, rfl⟩ := e
    refine ⟨rfl, ?_, fun e => (by cases e), fun b o e => by simp only [Option.some.injEq, Addr.mk.injEq] at e; omega⟩
    have := h.byts (x := 0) (n := xs.length) (m := xs.length) (by omega) rfl
    simpa using this
theorem row_empty (w : World) (n : Nat) (hn : w.heap.size = n) : Row (w.alloc (.cells #[] 5)) n (.slice (some ⟨n, 0, none⟩) 0 0) [] := by
  subst hn
  refine ⟨rfl, Or.inr ⟨w.heap.size, 0, #[], rfl, Nat.le_refl _, ?_, Nat.le_refl _, Nat.zero_le _, rfl, rfl⟩⟩
  show (w.heap.push _)[w.heap.size]? = _
  simp
/-- A copy: append to an empty list. -/
theorem run_copy_bytes {w : World} {po : Option Addr} {m c : Nat} {bs : List Int} (hb : Byts w po m bs) (hpo : po = none → c = 0) (hl : m ≤ 140737488355328) :
    ∃ a n c' w', (Builtin.append_ #[22, 22] 22 #[.slice (some ⟨w.heap.size, 0, none⟩) 0 0, .slice po m c]).run Tryz.prog (w.alloc (.cells #[] 5)) = .ok (.slice a n c') w' ∧ Row w' w.heap.size (.slice a n c') bs ∧ Below w.heap.size w w' := by
  obtain ⟨v', w', hr, r1, g1, b1⟩ := run_append_bytes (row_empty w _ rfl) (hb.off (P := fun _ => False) ((Off.refl _ _).alloc _) (fun _ _ _ => id)) hpo (by simp; omega) (by simp) 22
  obtain ⟨a, c', rfl, _⟩ := r1.slice
  refine ⟨a, _, c', w', hr, by simpa using r1, ((Below.refl _ _).alloc (Nat.le_refl _) _).trans ((Off.of_grown g1).below (by simp) (fun k e => by simp [Value.ownBlock] at e; omega))⟩

theorem torn_eq (ss ts : List Int) (k z : Nat) : torn (ss ++ ts) ss.length k z = ss ++ (ts.take k ++ List.replicate z 0) := by
  unfold torn
  rw [List.take_append, List.take_of_length_le (by omega), Nat.add_sub_cancel_left, List.append_assoc]
theorem torn_rest {W : World} {a : Option Addr} {ss ts : List Int} {sl k z c : Nat} (h : Byts W a (sl + k + z) (torn (ss ++ ts) ss.length k z)) (hs : ss.length = sl) (hc : sl + k + z ≤ c) (nd : Nat) :
    (c = sl → Byts (W.drewN nd) a (k + z) (ts.take k ++ List.replicate z 0)) ∧ (∀ g, a = some ⟨g, 0, none⟩ → Byts (W.drewN nd) (some ⟨g, sl, none⟩) (k + z) (ts.take k ++ List.replicate z 0)) := by
  rw [torn_eq] at h
  have hl : (ts.take k ++ List.replicate z (0 : Int)).length = k + z := by have := h.len; rw [List.length_append] at this; omega
  refine ⟨fun e => ⟨hl, fun j hj => by omega⟩, fun g hg => ⟨hl, fun j hj => ?_⟩⟩
  subst hg
  obtain ⟨b, o, e, hb, hcell⟩ := h.cell (sl + j) (by omega)
  simp only [Option.some.injEq, Addr.mk.injEq, and_true] at e
  obtain ⟨rfl, rfl⟩ := e
  refine ⟨g, sl, rfl, hb, ?_⟩
  have e2 : (W.drewN nd).cell? ⟨g, sl + j, none⟩ = W.cell? ⟨g, sl + j, none⟩ := rfl
  rw [e2]
  rw [Nat.zero_add] at hcell
  rw [hcell]
  congr 2
  rw [List.getD_eq_getElem?_getD, List.getD_eq_getElem?_getD, List.getElem?_append_right (by omega), hs, Nat.add_sub_cancel_left]
theorem torn_pre {ss ts : List Int} {k z : Nat} (_h : ss.length ≤ ss.length) : ss.length ≤ (torn (ss ++ ts) ss.length k z).length ∧ (torn (ss ++ ts) ss.length k z).take ss.length = ss := by
  have e : torn (ss ++ ts) ss.length k z = ss ++ (ts.take k ++ List.replicate z 0) := by
    unfold torn
    rw [List.take_append, List.take_of_length_le (by omega), Nat.add_sub_cancel_left, List.append_assoc]
  rw [e]
  exact ⟨by simp, by rw [List.take_append_of_le_length (Nat.le_refl _), List.take_length]⟩
end Go.Proofs.YthnpckmgnompiaaGreatDoor

/-
  The law's does: one call that may write.
-/
namespace Go.Proofs.YthnpckmgnompiaaGreatDoor
open Go.RowKit

theorem row_empty_at {w0 w : World} {n : Nat} (hn : w0.heap.size ≤ n) (hg : w.heap[n]? = some (.cells #[] 5)) : Row w w0.heap.size (.slice (some ⟨n, 0, none⟩) 0 0) [] :=
  ⟨rfl, Or.inr ⟨n, 0, #[], rfl, hn, hg, Nat.le_refl _, Nat.zero_le _, rfl, rfl⟩⟩
/-- A copy by append, as a step of a region that draws. -/
theorem step_copy {w0 w : World} {ops : Array Oper} {o : Oper} {a : Act} {K : Act → World → Prop} {Q : Exit → Act → World → Prop} {E : Prop} {n : Nat} {po : Option Addr} {m c : Nat} {bs : List Int} (hgd : o.guard = none) (s x : Operand)
    (ho : o.op = .call { callee := .builtin .append, args := #[s, x], argTypes := #[22, 22] }) (hs : a.eval s = .slice (some ⟨n, 0, none⟩) 0 0) (hx : a.eval x = .slice po m c)
    (hb : Byts w0 po m bs) (hpo : po = none → c = 0) (hl : m ≤ 140737488355328) (ha : Off (fun _ => False) w0 w) (hn : w0.heap.size ≤ n) (hg : w.heap[n]? = some (.cells #[] 5))
    (h : ∀ a' n' c' w', Row w' w0.heap.size (.slice a' n' c') bs → Below w0.heap.size w0 w' → K (a.put o.dst (.slice a' n' c')) w') :
    if Region.wanted o (yielded ops a.tmps) = true then Oper.wp Tryz.prog o a w K Q else E := by
  have hw : Region.wanted o (yielded ops a.tmps) = true := by simp [Region.wanted, hgd]
  obtain ⟨v', w', hr, r1, g1, b1⟩ := run_append_bytes (row_empty_at hn hg) (hb.off ha (fun _ _ _ => id)) hpo (by simp; omega) ha.size o.type
  obtain ⟨a', c', rfl, _⟩ := r1.slice
  rw [if_pos hw]
  unfold Oper.wp execOp
  simp only [ho, resolve, invoke, builtin, Sem.run_bind, Sem.run_pure, Result.andThen_ok, List.map_toArray, List.map_cons, List.map_nil, hs, hx, hr]
  exact h _ _ _ _ (by simpa using r1) ((ha.below_of (fun _ _ => id)).trans ((Off.of_grown g1).below ha.size (fun k e => by simp [Value.ownBlock] at e; omega)))

end Go.Proofs.YthnpckmgnompiaaGreatDoor

/-
  Cut of the document's disk. (Typed by gen/mkref2.py.)
-/
namespace Go.Proofs.YthnpckmgnompiaaGreatDoor
open Go.RowKit

theorem Row.cutTo {w : World} {B n c m : Nat} {a : Option Addr} {xs : List Int} (h : Row w B (.slice a n c) xs) (hm : m ≤ n) : Byts w a m (xs.take m) := by
  rcases h.form with ⟨e, rfl⟩ | ⟨g, cap, e, _⟩
  · cases e; obtain rfl : m = 0 := by omega
    exact ⟨rfl, fun j hj => by omega⟩
  · cases e; exact (h.prefix hm).bytes
theorem row_empty_new {w : World} {B : Nat} (hB : B ≤ w.heap.size) : Row (w.alloc (.cells #[] 5)) B (.slice (some ⟨w.heap.size, 0, none⟩) 0 0) [] :=
  ⟨rfl, Or.inr ⟨w.heap.size, 0, #[], rfl, hB, heap_alloc_new _ _, Nat.le_refl _, Nat.zero_le _, rfl, rfl⟩⟩
/-- append of bytes to nothing, the answer a slice in a new block or none. -/
theorem run_copy {w : World} {B : Nat} {po : Option Addr} {m c : Nat} {bs : List Int} (hB : B ≤ w.heap.size) (hb : Byts w po m bs) (hpo : po = none → c = 0) (hl : m ≤ 140737488355328) :
    ∃ a n c' w', (Builtin.append_ #[22, 22] 22 #[.slice (some ⟨w.heap.size, 0, none⟩) 0 0, .slice po m c]).run Tryz.prog (w.alloc (.cells #[] 5)) = .ok (.slice a n c') w' ∧ Row w' B (.slice a n c') bs ∧ Below w.heap.size w w' ∧ (∀ g, (Value.slice a n c').ownBlock = some g → w.heap.size ≤ g) := by
  have hal : Below w.heap.size w (w.alloc (.cells #[] 5)) := (Below.refl _ _).alloc (Nat.le_refl _) _
  obtain ⟨v', w', hr, r1, g1, b1⟩ := run_append_bytes (row_empty_new hB) (hb.below hal) hpo (by simpa using hl) (by simp; omega) 22
  obtain ⟨a', c', rfl, _⟩ := r1.slice
  refine ⟨_, _, _, w', hr, by simpa using r1, hal.trans ((Off.of_grown g1).below (by simp) (fun k e => by simp [Value.ownBlock] at e; omega)), fun g e => ?_⟩
  rcases b1 with q | q
  · rw [q] at e; simp [Value.ownBlock] at e; omega
  · rw [q, Option.some.injEq] at e; simp at e; omega
end Go.Proofs.YthnpckmgnompiaaGreatDoor

/-
  The document's disk: New, From, Len.
-/
namespace Go.Proofs.YthnpckmgnompiaaGreatDoor
open Go.RowKit

section
variable {w : World} {B R : Nat} {v : Nat → Value} {x : Nat → List Int} {dead : Bool} {left na ns nc : Int}
end
end Go.Proofs.YthnpckmgnompiaaGreatDoor

/-
  The disk: Read from any place; Fuse of a dead disk; From of too long an area, and the document's. (Typed by gen/mkmore2.py.)
-/
namespace Go.Proofs.YthnpckmgnompiaaGreatDoor
open Go.RowKit

set_option maxRecDepth 100000 in
set_option maxHeartbeats 2000000 in
theorem Read0_at {w : World} {B K : Nat} {v0 v1 : Value} {x0 x1 : List Int} {s0 s1 : Nat} {fu na ns nc : Int} (p n : Nat) (h : Dsk w B K v0 v1 x0 x1 s0 s1 1 fu na ns nc) (hb : p + n ≤ x0.length) : Calls Tryz.prog 88 #[.pointer (some ⟨K, 0, none⟩), .int .i64 0, .int .i64 (p : Int), .int .i64 (n : Int)] w fun e w' => ∃ a k c, e = .returned (.tuple #[.slice a k c, .nilIface]) ∧ Row w' w.heap.size (.slice a k c) ((x0.drop p).take n) ∧ Below w.heap.size w w' := by
  have H : Hid (Dsk w B K v0 v1 x0 x1 s0 s1 1 fu na ns nc) := h
  have HH : Hid (hasB x0.length (p : Int) (n : Int) = true) := by unfold Hid hasB; simp; omega
  have hpl : p ≤ 16777216 := by have := h.a0.len; omega
  have c4 := h.c4
  clear h
  go_enter Tryz.func88, Tryz.ntmps88
  go_wp2_with fail
  refine (check_ok 0 H.out (Or.inl rfl) (by omega)).mono ?_
  rintro e w1 ⟨rfl, hw⟩
  rw [hw]
  clear hw w1
  go_wp2_with fail
  refine (has_any (p : Int) (n : Int) _ H.out.a0 (by omega)).mono ?_
  rintro e w1 ⟨he, hw⟩
  rw [HH.out] at he
  subst he
  rw [hw]
  clear hw w1
  go_wp2_with fail
  refine (read_any p n _ H.out.a0 hb).mono ?_
  rintro e w3 ⟨r, rfl, hR, hbl⟩
  obtain ⟨a, cp, rfl, _⟩ := hR.slice
  obtain ⟨k, hk⟩ : ∃ k, ((x0.drop p).take n).length = k := ⟨_, rfl⟩
  have HR : Hid (Row w3 w.heap.size (.slice a k cp) ((x0.drop p).take n) ∧ Below w.heap.size w w3) := ⟨by rw [← hk]; exact hR, hbl⟩
  rw [hk]
  clear hR hbl hk
  go_wp2_with fail
  exact bodyPost_ret (v := .tuple #[.slice a k cp, .nilIface]) (by simp [results, Tryz.results88, go_sem]) rfl ⟨a, k, cp, rfl, HR.out.1, HR.out.2⟩
set_option maxRecDepth 100000 in
set_option maxHeartbeats 2000000 in
theorem Read1_at {w : World} {B K : Nat} {v0 v1 : Value} {x0 x1 : List Int} {s0 s1 : Nat} {fu na ns nc : Int} (p n : Nat) (h : Dsk w B K v0 v1 x0 x1 s0 s1 1 fu na ns nc) (hb : p + n ≤ x1.length) : Calls Tryz.prog 88 #[.pointer (some ⟨K, 0, none⟩), .int .i64 1, .int .i64 (p : Int), .int .i64 (n : Int)] w fun e w' => ∃ a k c, e = .returned (.tuple #[.slice a k c, .nilIface]) ∧ Row w' w.heap.size (.slice a k c) ((x1.drop p).take n) ∧ Below w.heap.size w w' := by
  have H : Hid (Dsk w B K v0 v1 x0 x1 s0 s1 1 fu na ns nc) := h
  have HH : Hid (hasB x1.length (p : Int) (n : Int) = true) := by unfold Hid hasB; simp; omega
  have hpl : p ≤ 16777216 := by have := h.a1.len; omega
  have c4 := h.c4
  clear h
  go_enter Tryz.func88, Tryz.ntmps88
  go_wp2_with fail
  refine (check_ok 1 H.out (Or.inl rfl) (by omega)).mono ?_
  rintro e w1 ⟨rfl, hw⟩
  rw [hw]
  clear hw w1
  go_wp2_with fail
  refine (has_any (p : Int) (n : Int) _ H.out.a1 (by omega)).mono ?_
  rintro e w1 ⟨he, hw⟩
  rw [HH.out] at he
  subst he
  rw [hw]
  clear hw w1
  go_wp2_with fail
  refine (read_any p n _ H.out.a1 hb).mono ?_
  rintro e w3 ⟨r, rfl, hR, hbl⟩
  obtain ⟨a, cp, rfl, _⟩ := hR.slice
  obtain ⟨k, hk⟩ : ∃ k, ((x1.drop p).take n).length = k := ⟨_, rfl⟩
  have HR : Hid (Row w3 w.heap.size (.slice a k cp) ((x1.drop p).take n) ∧ Below w.heap.size w w3) := ⟨by rw [← hk]; exact hR, hbl⟩
  rw [hk]
  clear hR hbl hk
  go_wp2_with fail
  exact bodyPost_ret (v := .tuple #[.slice a k cp, .nilIface]) (by simp [results, Tryz.results88, go_sem]) rfl ⟨a, k, cp, rfl, HR.out.1, HR.out.2⟩
end Go.Proofs.YthnpckmgnompiaaGreatDoor

/-
  Cut of the document's disk, within the tail. (Typed by gen/mkref3.py.)
-/
namespace Go.Proofs.YthnpckmgnompiaaGreatDoor
open Go.RowKit

end Go.Proofs.YthnpckmgnompiaaGreatDoor

/-
  Read of the document's disk. (Typed by gen/mkref4.py.)
-/
namespace Go.Proofs.YthnpckmgnompiaaGreatDoor
open Go.RowKit

theorem Byts.piece {w : World} {g cap n : Nat} {xs : List Int} {B : Nat} (h : Row w B (.slice (some ⟨g, 0, none⟩) n cap) xs) (p k : Nat) (hp : p + k ≤ n) : Byts w (some ⟨g, p, none⟩) k ((xs.drop p).take k) := by
  obtain ⟨hn, hc⟩ := h.cell
  refine ⟨by rw [List.length_take, List.length_drop]; omega, fun j hj => ⟨g, p, rfl, (h.lt (g := g) rfl).2, ?_⟩⟩
  rw [hc (p + j) (by omega)]
  congr 2
  rw [List.getD_eq_getElem?_getD, List.getD_eq_getElem?_getD, List.getElem?_take, if_pos hj, List.getElem?_drop]
end Go.Proofs.YthnpckmgnompiaaGreatDoor

/-
  Image of the document's disk.
-/
namespace Go.Proofs.YthnpckmgnompiaaGreatDoor
open Go.RowKit

end Go.Proofs.YthnpckmgnompiaaGreatDoor

/-
  Crash of the document's disk. (Typed by gen/mkref5.py.)
-/
namespace Go.Proofs.YthnpckmgnompiaaGreatDoor
open Go.RowKit

theorem upd_upd {α : Type} (f : Nat → α) (q : Nat) (y z : α) : upd (upd f q y) q z = upd f q z := by
  funext k; unfold upd; split <;> rfl
theorem sliceTo (a : Option Addr) (n c k : Nat) (W : World) (ha : a = none → c = 0) (hk : k ≤ c) : (Instr.sliceAt 22 (.slice a n c) none (some (.int .i64 (k : Int))) none).run Tryz.prog W = .ok (.slice a k c) W := by
  have hk2 : (k : Int) ≤ (c : Int) := by omega
  cases a with
  | none =>
    obtain rfl := ha rfl
    obtain rfl : k = 0 := by omega
    simp [Instr.sliceAt, Instr.sliceBounds, Instr.sliceBound, asIntOf, run_underlying Tryz.underlying22, go_sem]
  | some ad =>
    simp [Instr.sliceAt, Instr.sliceBounds, Instr.sliceBound, asIntOf, run_underlying Tryz.underlying22, hk2, go_sem]
theorem rpush {w : World} {B : Nat} {v : Value} {xs : List Int} (h : Row w B v xs) (hB : B ≤ w.heap.size) (hl : xs.length + 1 ≤ 140737488355328) (z : Int) :
    ∃ a n c w', (Builtin.append_ #[22, 22] 22 #[v, .slice (some ⟨w.heap.size, 0, none⟩) 1 1]).run Tryz.prog (w.alloc (.cells #[.int .u8 z] 5)) = .ok (.slice a n c) w' ∧ Row w' B (.slice a n c) (xs ++ [z]) ∧ Off (fun k => v.ownBlock = some k) w w' ∧ (∀ g, (Value.slice a n c).ownBlock = some g → v.ownBlock = some g ∨ w.heap.size ≤ g) := by
  have hrow : Row (w.alloc (.cells #[.int .u8 z] 5)) B v xs := h.keep (fun g e => ((Below.refl w.heap.size w).alloc (Nat.le_refl _) (.cells #[.int .u8 z] 5)).block g (h.lt e).2)
  have hone : Byts (w.alloc (.cells #[.int .u8 z] 5)) (some ⟨w.heap.size, 0, none⟩) 1 [z] := by
    refine ⟨rfl, fun q hq => ⟨w.heap.size, 0, rfl, by simp, ?_⟩⟩
    obtain rfl : q = 0 := by omega
    simp
  obtain ⟨v', w', hr, r, g, o⟩ := run_append_bytes (c := 1) hrow hone (fun e => by cases e) hl (by simp; omega) 22
  obtain ⟨a', c', rfl, _⟩ := r.slice
  refine ⟨_, _, _, w', hr, r, ((Off.refl _ w).alloc _).trans (Off.of_grown g), fun k e => ?_⟩
  rcases o with o | o
  · rw [o] at e; exact Or.inl e
  · rw [o, Option.some.injEq] at e; simp at e; exact Or.inr (by omega)
theorem rq_plus {P : Program} {f : FuncId} {args : Array Value} {W : World} {a x : Nat} {v : Value} (h : Calls P f args (W.drewN (a + x)) fun e w' => e = .returned v ∧ w' = W.drewN (a + x)) :
    Calls P f args (W.drewN (a + x)) fun e w' => e = .returned v ∧ ∃ n, w' = W.drewN (a + n) := h.mono fun _ _ ⟨he, hw⟩ => ⟨he, x, hw⟩
theorem Off.drewN2 (w : World) (k : Nat) : Off (fun _ => False) w (w.drewN k) := (Off.refl _ _).drewN _
end Go.Proofs.YthnpckmgnompiaaGreatDoor

/-
  Both disks, the program's and the document's, in one state.
-/
namespace Go.Proofs.YthnpckmgnompiaaGreatDoor
open Go.RowKit

/-- What a disk is: all bytes of each area, how many are synced, dead, fuse, counts. -/
structure Sg where
  x0 : List Int
  x1 : List Int
  s0 : Nat
  s1 : Nat
  dead : Bool
  fuse : Int
  na : Int
  ns : Int
  nc : Int
def stOf (d : Bool) : Int := if d then 2 else 1
theorem stOf_any (d : Bool) : stOf d = 1 ∨ stOf d = 2 := by cases d <;> simp [stOf]
def rx (σ : Sg) (q : Nat) : List Int := if q = 0 then σ.x0.take σ.s0 else if q = 1 then σ.x0.drop σ.s0 else if q = 2 then σ.x1.take σ.s1 else σ.x1.drop σ.s1
structure Pr (w : World) (B K R : Nat) (v0 v1 : Value) (v : Nat → Value) (σ : Sg) : Prop where
  d : Dsk w B K v0 v1 σ.x0 σ.x1 σ.s0 σ.s1 (stOf σ.dead) σ.fuse σ.na σ.ns σ.nc
  r : Rk w B R v (rx σ) σ.dead σ.fuse σ.na σ.ns σ.nc
  ap : ∀ k, Foot K v0 v1 k → ¬ RFoot R v k
structure PStep (w w' : World) (K R : Nat) (v0 v1 : Value) (v : Nat → Value) (v0' v1' : Value) (v' : Nat → Value) : Prop where
  off : Off (fun k => Foot K v0 v1 k ∨ RFoot R v k) w w'
  foot : ∀ k, k < w.heap.size → (Foot K v0' v1' k ∨ RFoot R v' k) → (Foot K v0 v1 k ∨ RFoot R v k)
theorem Rk.congr {w : World} {B R : Nat} {v : Nat → Value} {x x' : Nat → List Int} {dead : Bool} {left na ns nc : Int} (h : Rk w B R v x dead left na ns nc) (hx : ∀ q, q < 4 → x q = x' q) : Rk w B R v x' dead left na ns nc :=
  ⟨h.cell, h.c4, h.c5, h.c6, h.c7, h.c8, h.fr, fun q hq => by rw [← hx q hq]; exact h.row q hq, h.own, h.ap, fun q hq => by rw [← hx q hq]; exact h.len q hq, h.hB, h.hR, h.bn⟩
theorem fz_left (n : Int) : fz n = leftOn n := by unfold fz leftOn; rfl
theorem ct_more (n : Int) (h : 0 ≤ n ∧ n ≤ 9007199254740992) : ct n = oneMore n := by unfold ct oneMore; split <;> omega
theorem PStep.refl (w : World) (K R : Nat) (v0 v1 : Value) (v : Nat → Value) : PStep w w K R v0 v1 v v0 v1 v := ⟨Off.refl _ _, fun _ _ h => h⟩
theorem PStep.trans {a b c : World} {K R : Nat} {u0 u1 v0 v1 z0 z1 : Value} {u v z : Nat → Value} (h : PStep a b K R u0 u1 u v0 v1 v) (k : PStep b c K R v0 v1 v z0 z1 z) : PStep a c K R u0 u1 u z0 z1 z :=
  ⟨h.off.join k.off h.foot, fun i hi g => h.foot i hi (k.foot i (Nat.lt_of_lt_of_le hi h.off.size) g)⟩
section
variable {w w1 w2 : World} {B K R : Nat} {v0 v1 v0' v1' : Value} {v v' : Nat → Value} {σ τ : Sg}
/-- The program's call, then the document's: both come to the same state. -/
theorem Pr.step (h : Pr w B K R v0 v1 v σ) (hd : Dsk w1 B K v0' v1' τ.x0 τ.x1 τ.s0 τ.s1 (stOf τ.dead) τ.fuse τ.na τ.ns τ.nc) (sd : DStep w w1 K v0 v1 v0' v1') :
    Rk w1 B R v (rx σ) σ.dead σ.fuse σ.na σ.ns σ.nc ∧ (∀ k, Foot K v0' v1' k → ¬ RFoot R v k) ∧ (∀ w2 v', Rk w2 B R v' (rx τ) τ.dead τ.fuse τ.na τ.ns τ.nc → RStep w1 w2 R v v' → Pr w2 B K R v0' v1' v' τ ∧ PStep w w2 K R v0 v1 v v0' v1' v') := by
  have hk := h.r.off sd.off (fun k hk hf => h.ap k hf hk)
  have hap : ∀ k, Foot K v0' v1' k → ¬ RFoot R v k := fun k hf hr => by
    have hl := (h.r.foot_lt hr).2
    exact h.ap k (sd.foot k hl hf) hr
  refine ⟨hk, hap, fun w2 v' hr sr => ⟨⟨hd.off sr.off (fun k hf hr2 => hap k hf hr2), hr, fun k hf hr2 => ?_⟩, ⟨?_, fun k hkl g => ?_⟩⟩⟩
  · have hl := (hd.foot_lt hf).2
    exact hap k hf (sr.foot k hl hr2)
  · exact (sd.off.mono (fun _ p => Or.inl p)).trans (sr.off.mono (fun _ p => Or.inr p))
  · rcases g with g | g
    · exact Or.inl (sd.foot k hkl g)
    · exact Or.inr (sr.foot k (Nat.lt_of_lt_of_le hkl sd.off.size) g)
theorem Pr.off {P : Nat → Prop} (h : Pr w B K R v0 v1 v σ) (o : Off P w w1) (hP : ∀ k, (Foot K v0 v1 k ∨ RFoot R v k) → ¬ P k) : Pr w1 B K R v0 v1 v σ :=
  ⟨h.d.off o (fun k hf => hP k (Or.inl hf)), h.r.off o (fun k hf => hP k (Or.inr hf)), h.ap⟩
end
end Go.Proofs.YthnpckmgnompiaaGreatDoor
