import Derived.Test.YtoijhecphgdfnaaDoorOxDel
import Derived.Test.YtoijhecphgdfnaaDoorDcPa
import Derived.Test.YtoijhecphgdfnaaDoorDcOpen
import Derived.Deep.RegionLaw
import Derived.Deep.CutRange
import Derived.Laws.EntriesVeiled
import Derived.Deep.WholeRow
/-
  slices.Delete of one message, walked; remove.
-/
namespace Go.Proofs.YtoijhecphgdfnaaDoor
open Go.RowKit

end Go.Proofs.YtoijhecphgdfnaaDoor

/-
  The program's refuse, refusal, areTries, owedBy, sent, begin.
-/
namespace Go.Proofs.YtoijhecphgdfnaaDoor
open Go.RowKit

theorem isCond_any (n : Int) (w : World) : Calls Tryd.prog 62 #[.int .i64 n] w fun r w' => r = .returned (.bool (decide (0 ≤ n) && decide (n < 4))) ∧ w' = w := by
  go_enter Tryd.func62, Tryd.ntmps62
  go_wp2
  all_goals (go_ret; exact ⟨ret_bool (by rw [Bool.eq_iff_iff]; simp; try (first | omega | (intros; omega))), rfl⟩)
set_option maxHeartbeats 1000000 in
theorem refuse_ok (e : Bool) (a p : Int) (w : World) (h : okB e a p = true) : Calls Tryd.prog 60 #[.agg #[.bool e, .int .i64 a, .int .i64 p]] w fun r w' => r = .returned .nilIface ∧ Below w.heap.size w w' := by
  obtain ⟨h1, h2, h3, h4, h5⟩ := ok_of h
  have c1 : ∀ w, Calls Tryd.prog 62 #[.int .i64 a] w fun r w' => r = .returned (.bool true) ∧ w' = w := fun w => by
    have := isCond_any a w; rw [show (decide (0 ≤ a) && decide (a < 4)) = true by simp; omega] at this; exact this
  have c2 : ∀ w, Calls Tryd.prog 62 #[.int .i64 p] w fun r w' => r = .returned (.bool true) ∧ w' = w := fun w => by
    have := isCond_any p w; rw [show (decide (0 ≤ p) && decide (p < 4)) = true by simp; omega] at this; exact this
  clear h
  cases e with
  | true =>
    clear h1 h2 h3 h4 h5
    go_enter Tryd.func60, Tryd.ntmps60
    go_wp2_with fail
    refine (c1 _).mono ?_
    rintro _ w1 ⟨rfl, rfl⟩
    go_wp2_with fail
    refine (c2 _).mono ?_
    rintro _ w2 ⟨rfl, rfl⟩
    go_wp2_with fail
    go_ret
    exact ⟨rfl, (Below.refl _ _).alloc (Nat.le_refl _) _⟩
  | false =>
    obtain ⟨rfl, rfl⟩ : a = 0 ∧ p = 0 := by rcases h5 with h5 | h5; cases h5; exact h5
    clear h1 h2 h3 h4 h5 c1 c2
    go_enter Tryd.func60, Tryd.ntmps60
    go_wp2_with fail
    go_ret
    exact ⟨rfl, (Below.refl _ _).alloc (Nat.le_refl _) _⟩
set_option maxHeartbeats 1000000 in
theorem refuse_no (e : Bool) (a p : Int) (w : World) (h : okB e a p = false) : Calls Tryd.prog 60 #[.agg #[.bool e, .int .i64 a, .int .i64 p]] w (FltQ 0 220 w) := by
  have fl := pfault_ex 0 220
  have ho : ¬ (0 ≤ a ∧ a ≤ 3 ∧ 0 ≤ p ∧ p ≤ 3 ∧ (e = true ∨ (a = 0 ∧ p = 0))) := fun g => by
    have : okB e a p = true := by unfold okB; obtain ⟨g1, g2, g3, g4, g5⟩ := g; simp [g1, g2, g3, g4]; exact g5
    rw [h] at this; cases this
  clear h
  have i1 := isCond_any a
  have i2 := isCond_any p
  cases e with
  | true =>
    cases ha : (decide (0 ≤ a) && decide (a < 4)) with
    | false =>
      rw [ha] at i1
      clear i2 ho ha
      go_enter Tryd.func60, Tryd.ntmps60
      go_wp2_with fail
      refine (i1 _).mono ?_
      rintro _ w1 ⟨rfl, rfl⟩
      go_wp2_with fail
      refine (fl _).mono ?_
      rintro _ w2 ⟨b, rfl, hf, hb⟩
      have HF : Hid (DFault w2 b 0 220 ∧ Below _ _ w2) := ⟨hf, hb⟩
      clear hf hb
      go_wp2_with fail
      go_ret
      exact ⟨_, rfl, HF.out.1, below_then ((Below.refl _ _).alloc (Nat.le_refl _) _) HF.out.2⟩
    | true =>
      have hp : (decide (0 ≤ p) && decide (p < 4)) = false := by simp at ha ⊢; intro; false_or_by_contra; exact ho ⟨by omega, by omega, by omega, by omega, Or.inl rfl⟩
      rw [ha] at i1
      rw [hp] at i2
      clear ho ha hp
      go_enter Tryd.func60, Tryd.ntmps60
      go_wp2_with fail
      refine (i1 _).mono ?_
      rintro _ w1 ⟨rfl, rfl⟩
      go_wp2_with fail
      refine (i2 _).mono ?_
      rintro _ w1 ⟨rfl, rfl⟩
      go_wp2_with fail
      refine (fl _).mono ?_
      rintro _ w2 ⟨b, rfl, hf, hb⟩
      have HF : Hid (DFault w2 b 0 220 ∧ Below _ _ w2) := ⟨hf, hb⟩
      clear hf hb
      go_wp2_with fail
      go_ret
      exact ⟨_, rfl, HF.out.1, below_then ((Below.refl _ _).alloc (Nat.le_refl _) _) HF.out.2⟩
  | false =>
    clear i1 i2
    by_cases ha : a = 0
    · subst ha
      have hp : ¬ p = 0 := fun g => ho (by subst g; exact ⟨by omega, by omega, by omega, by omega, Or.inr ⟨rfl, rfl⟩⟩)
      clear ho
      go_enter Tryd.func60, Tryd.ntmps60
      go_wp2_with fail
      refine (fl _).mono ?_
      rintro _ w2 ⟨b, rfl, hf, hb⟩
      have HF : Hid (DFault w2 b 0 220 ∧ Below _ _ w2) := ⟨hf, hb⟩
      clear hf hb
      go_wp2_with fail
      go_ret
      exact ⟨_, rfl, HF.out.1, below_then ((Below.refl _ _).alloc (Nat.le_refl _) _) HF.out.2⟩
    · clear ho
      go_enter Tryd.func60, Tryd.ntmps60
      go_wp2_with fail
      refine (fl _).mono ?_
      rintro _ w2 ⟨b, rfl, hf, hb⟩
      have HF : Hid (DFault w2 b 0 220 ∧ Below _ _ w2) := ⟨hf, hb⟩
      clear hf hb
      go_wp2_with fail
      go_ret
      exact ⟨_, rfl, HF.out.1, below_then ((Below.refl _ _).alloc (Nat.le_refl _) _) HF.out.2⟩
end Go.Proofs.YtoijhecphgdfnaaDoor

/-
  append of one list of acts to another; right by functions; the verdict's code.
-/
namespace Go.Proofs.YtoijhecphgdfnaaDoor
open Go.RowKit

theorem aflat_len (l : ActL) : (l.flatMap acells).length = l.length * 2 := by
  induction l with
  | nil => rfl
  | cons y r ih => rw [List.flatMap_cons, List.length_append, ih, List.length_cons]; simp [acells]; omega
theorem aflat_one {l : ActL} {u : Value} (h : u ∈ l.flatMap acells) : u.oneCell' = true := by
  obtain ⟨y, _, hy⟩ := List.mem_flatMap.1 h
  simp only [acells, List.mem_cons, List.not_mem_nil, or_false] at hy
  rcases hy with rfl | rfl <;> rfl
theorem aflat_split (l : ActL) {j : Nat} {u : Value} (h : (l.flatMap acells)[j]? = some u) : ∃ k y, l[k]? = some y ∧ ((j = k * 2 ∧ u = .int .i64 y.1) ∨ (j = k * 2 + 1 ∧ u = .string y.2)) := by
  have hj : j < l.length * 2 := by rw [← aflat_len]; exact (List.getElem?_eq_some_iff.1 h).1
  obtain ⟨y, hy⟩ : ∃ y, l[j / 2]? = some y := ⟨_, List.getElem?_eq_getElem (by omega)⟩
  refine ⟨j / 2, y, hy, ?_⟩
  rcases (by omega : j = j / 2 * 2 ∨ j = j / 2 * 2 + 1) with e | e
  · have := aflat_get l (j / 2) y hy 0 (by omega)
    rw [Nat.add_zero, ← e, h] at this
    exact Or.inl ⟨e, by simpa [acells] using this⟩
  · have := aflat_get l (j / 2) y hy 1 (by omega)
    rw [← e, h] at this
    exact Or.inr ⟨e, by simpa [acells] using this⟩
theorem ActRow.empty (w : World) (B b : Nat) (hb : w.heap.size = b) (hB : B ≤ b) : ActRow (w.alloc (.cells #[] 68)) B (.slice (some ⟨b, 0, none⟩) 0 0) [] := by
  subst hb
  refine ⟨rfl, Or.inr ⟨w.heap.size, 0, #[], rfl, hB, ?_, Nat.le_refl _, by unfold maxLen; omega, rfl, rfl⟩⟩
  show (w.heap.push _)[w.heap.size]? = _
  simp
/-- A beginning of a list. -/
theorem Acts.take {w : World} {N : Nat} {po : Option Addr} {n cap : Nat} {l : ActL} (h : Acts w N (.slice po n cap) l) (m : Nat) (hm : m ≤ n) : Acts w N (.slice po m cap) (l.take m) := by
  obtain ⟨po', cap', e, hc, hl⟩ := h
  obtain ⟨rfl, rfl, rfl⟩ : po = po' ∧ n = l.length ∧ cap = cap' := by simpa using e
  refine ⟨po, cap, by rw [List.length_take, Nat.min_eq_left hm], by rw [List.length_take]; omega, fun j y hj => hl j y ?_⟩
  rw [List.getElem?_take] at hj
  split at hj
  · exact hj
  · cases hj
end Go.Proofs.YtoijhecphgdfnaaDoor

/-
  The program's automata: over, again, closed, stay, strange, refusedOrOver, heardAhead, heardBehind.
-/
namespace Go.Proofs.YtoijhecphgdfnaaDoor
open Go.RowKit

/-- What a want's function answers. -/
def WQ (st lf : Int) (l : ActL) (w : World) (r : Ending) (w' : World) : Prop := ∃ po cap, r = .returned (.tuple #[.agg #[.int .i64 st, .int .i64 lf], .slice po l.length cap]) ∧ ActRow w' w.heap.size (.slice po l.length cap) l ∧ Below w.heap.size w w'
theorem fin2 {w x : World} {R B : Nat} {v u0 u1 : Value} {l : ActL} (hb : Below w.heap.size w x) (hr : ActRow x B v l) (hR : w.heap.size ≤ R) (hB : R < B) : ActRow ((x.setCell ⟨R, 0, none⟩ u0).setCell ⟨R, 1, none⟩ u1) w.heap.size v l ∧ Below w.heap.size w ((x.setCell ⟨R, 0, none⟩ u0).setCell ⟨R, 1, none⟩ u1) :=
  ⟨((hr.set (p := ⟨R, 0, none⟩) (fun g hg => by have := hr.ne hg; simp only; omega)).set (p := ⟨R, 1, none⟩) (fun g hg => by have := hr.ne hg; simp only; omega)).mono (by omega), (hb.setCell (p := ⟨R, 0, none⟩) hR _).setCell (p := ⟨R, 1, none⟩) hR _⟩
/-- Whether it is a refusal by number. -/
def numB (s : ByteArray) (n : Bool) : Bool := n && (s.toList == [67, 69] || s.toList == [65, 69])
end Go.Proofs.YtoijhecphgdfnaaDoor

/-
  The program's owedBy.
-/
namespace Go.Proofs.YtoijhecphgdfnaaDoor
open Go.RowKit

theorem ear_is (e : Bool) (a p : Int) : (!aaB e p && (aeB e p || (!caB e a && ceB e a))) = earB e a p (caB e a) := by
  unfold earB aaB aeB caB ceB
  cases e
  · simp
  · by_cases h1 : p = 1 <;> by_cases h2 : p = 2 <;> by_cases h3 : p = 3 <;> by_cases g1 : a = 1 <;> by_cases g2 : a = 2 <;> by_cases g3 : a = 3 <;> simp_all
/-- The owed one in memory, beside the conditions and the result. -/
structure OwI (w : World) (e : Bool) (a p : Int) (q1 q2 : Bool) (b : Nat) (wx : World) : Prop where
  c : Box wx w.heap.size #[.bool e, .int .i64 a, .int .i64 p]
  r : Box wx (w.heap.size + 1) #[.bool false, .bool false, .bool false]
  o : Box wx b #[.bool q1, .bool q2, .bool false]
  ge : w.heap.size + 2 ≤ b
  bl : Below w.heap.size w wx
  pv : PVc wx
theorem OwI.below {w : World} {e : Bool} {a p : Int} {q1 q2 : Bool} {b : Nat} {wx wy : World} (h : OwI w e a p q1 q2 b wx) (hb : Below wx.heap.size wx wy) : OwI w e a p q1 q2 b wy :=
  ⟨h.c.below hb, h.r.below hb, h.o.below hb, h.ge, below_then h.bl hb, h.pv.below hb⟩
theorem Box.pDrew {w : World} {b : Nat} {cs : Array Value} (h : Box w b cs) : Box w.drew b cs := ⟨h.lt, h.cell, h.free⟩
abbrev OwV (w V : World) (e : Bool) (a p : Int) : Prop := Below w.heap.size w V ∧ PVc V ∧ Box V w.heap.size #[.bool e, .int .i64 a, .int .i64 p] ∧ Box V (w.heap.size + 1) #[.bool false, .bool false, .bool false] ∧ V.heap.size = w.heap.size + 2
theorem ow_fin {w x : World} {b : Nat} (h : Below w.heap.size w x) (hb : w.heap.size + 2 ≤ b) (v r0 r1 r2 : Value) : Below w.heap.size w ((((x.setCell ⟨b, 2, none⟩ v).setCell ⟨w.heap.size + 1, 0, none⟩ r0).setCell ⟨w.heap.size + 1, 1, none⟩ r1).setCell ⟨w.heap.size + 1, 2, none⟩ r2) :=
  (((h.setCell (p := ⟨b, 2, none⟩) (by simp only; omega) _).setCell (p := ⟨w.heap.size + 1, 0, none⟩) (by simp only; omega) _).setCell (p := ⟨w.heap.size + 1, 1, none⟩) (by simp only; omega) _).setCell (p := ⟨w.heap.size + 1, 2, none⟩) (by simp only; omega) _
theorem ow_b {w V y : World} {e : Bool} {a p : Int} {q1 q2 : Bool} {b : Nat} (q : OwV w V e a p) (h : Hid (Below V.heap.size V y)) (hb : Box y b #[.bool false, .bool false, .bool false]) (hg : V.heap.size ≤ b) : OwI w e a p q1 q2 b (((y.setCell ⟨b, 0, none⟩ (.bool q1)).setCell ⟨b, 1, none⟩ (.bool q2)).setCell ⟨b, 2, none⟩ (.bool false)) := by
  have hz := q.2.2.2.2
  have hs : Below V.heap.size V (((y.setCell ⟨b, 0, none⟩ (.bool q1)).setCell ⟨b, 1, none⟩ (.bool q2)).setCell ⟨b, 2, none⟩ (.bool false)) := ((h.out.setCell (p := ⟨b, 0, none⟩) hg _).setCell (p := ⟨b, 1, none⟩) hg _).setCell (p := ⟨b, 2, none⟩) hg _
  exact ⟨q.2.2.1.below hs, q.2.2.2.1.below hs, hb.pPut3 _ _ _, by omega, below_then q.1 hs, q.2.1.below hs⟩
end Go.Proofs.YtoijhecphgdfnaaDoor

/-
  The program's May, Refuse, Owes, Texts, Mode.
-/
namespace Go.Proofs.YtoijhecphgdfnaaDoor
open Go.RowKit

set_option maxRecDepth 100000 in
set_option maxHeartbeats 2000000 in
theorem May_no (e : Bool) (a p : Int) (s : ByteArray) (w : World) (ok : okB e a p = false) : Calls Tryd.prog 55 #[.agg #[.bool e, .int .i64 a, .int .i64 p], .string s] w (fun r w' => ∃ z, r = .returned (.tuple #[.bool false, .iface 91 (.pointer (some ⟨z, 0, none⟩))]) ∧ DFault w' z 0 220 ∧ Below w.heap.size w w') := by
  have c1 := fun x => refuse_no e a p x ok
  go_enter Tryd.func55, Tryd.ntmps55
  go_wp2_with fail
  refine (c1 _).mono ?_
  rintro _ w1 ⟨z, rfl, hz, b1⟩
  have HB1 : Hid (Below w.heap.size w w1) := below_then ((Below.refl _ _).alloc (Nat.le_refl _) _) b1
  have X1_0 : Hid (Box w1 (w.heap.size) #[.bool e, .int .i64 a, .int .i64 p]) := (Box.new' _ #[.bool e, .int .i64 a, .int .i64 p] 46 (w.heap.size) (by simp)).below b1
  obtain ⟨l1_0, k1_0, f1_0⟩ := X1_0.out
  have HZ : Hid (DFault w1 z 0 220) := hz
  clear b1 hz
  go_wp2_with fail
  refine bodyPost_ret (v := .tuple #[.bool false, .iface 91 (.pointer (some ⟨z, 0, none⟩))]) ?_ rfl ⟨z, rfl, HZ.out, HB1.out⟩
  simp [results, Tryd.results55, go_sem]
set_option maxRecDepth 100000 in
set_option maxHeartbeats 4000000 in
theorem May_ok (e : Bool) (a p : Int) (s : ByteArray) (w : World) (hV : PVc w) (ok : okB e a p = true) : Calls Tryd.prog 55 #[.agg #[.bool e, .int .i64 a, .int .i64 p], .string s] w (fun r w' => r = .returned (.tuple #[.bool (sentB e a p s), .nilIface]) ∧ Below w.heap.size w w') := by
  have HV : Hid (PVc w) := hV
  clear hV
  have c1 := fun x => refuse_ok e a p x ok
  go_enter Tryd.func55, Tryd.ntmps55
  go_wp2_with fail
  refine (c1 _).mono ?_
  rintro _ w1 ⟨rfl, b1⟩
  have HB1 : Hid (Below w.heap.size w w1) := below_then ((Below.refl _ _).alloc (Nat.le_refl _) _) b1
  have X1_0 : Hid (Box w1 (w.heap.size) #[.bool e, .int .i64 a, .int .i64 p]) := (Box.new' _ #[.bool e, .int .i64 a, .int .i64 p] 46 (w.heap.size) (by simp)).below b1
  obtain ⟨l1_0, k1_0, f1_0⟩ := X1_0.out
  clear b1
  go_wp2_with fail
  refine (may_any e a p s _ (HV.out.below HB1.out)).mono ?_
  rintro _ w2 ⟨rfl, b2⟩
  have HB2 : Hid (Below w.heap.size w w2) := below_then HB1.out b2
  have X2_0 : Hid (Box w2 (w.heap.size) #[.bool e, .int .i64 a, .int .i64 p]) := X1_0.out.below b2
  clear k1_0 l1_0 f1_0 X1_0 HB1
  obtain ⟨l2_0, k2_0, f2_0⟩ := X2_0.out
  clear b2
  go_wp2_with fail
  refine bodyPost_ret (v := .tuple #[.bool (sentB e a p s), .nilIface]) ?_ rfl ⟨rfl, HB2.out⟩
  simp [results, Tryd.results55, go_sem]
end Go.Proofs.YtoijhecphgdfnaaDoor

/-
  The program's states, standing.
-/
namespace Go.Proofs.YtoijhecphgdfnaaDoor
open Go.RowKit

abbrev fv (f : FuncId) : Value := .func (.func f) #[] #[]
end Go.Proofs.YtoijhecphgdfnaaDoor

/-
  The program's standing.
-/
namespace Go.Proofs.YtoijhecphgdfnaaDoor
open Go.RowKit

/-- standing's refusals. -/
def StE (code : Int) (w : World) (r : Ending) (w' : World) : Prop := ∃ b, r = .returned (.tuple #[.agg #[.bool false, .bool false, .bool false], .agg #[.nilFunc, .nilFunc, .nilFunc], .iface 91 (.pointer (some ⟨b, 0, none⟩))]) ∧ DFault w' b 0 code ∧ Below w.heap.size w w'
theorem DFault.pOff {w : World} {b : Nat} {a c : Int} (h : DFault w b a c) {p : Addr} (hp : p.block ≠ b) (v : Value) : DFault (w.setCell p v) b a c := by
  have hc : ∀ o, (w.setCell p v).cell? ⟨b, o, none⟩ = w.cell? ⟨b, o, none⟩ := fun o => World.cell?_setCell_other _ _ _ _ (fun e => hp (by rw [e]))
  exact ⟨by rw [hc]; exact h.1, by rw [hc]; exact h.2.1, by rw [hc]; exact h.2.2.1, by rw [hc]; exact h.2.2.2⟩
/-- Two boxes of three written. -/
theorem fin33 {w x : World} {R S b : Nat} {cd : Int} (hb : Below w.heap.size w x) (hf : DFault x b 0 cd) (hR : w.heap.size ≤ R) (hS : w.heap.size ≤ S) (nR : R ≠ b) (nS : S ≠ b) (u0 u1 u2 v0 v1 v2 : Value) :
    DFault ((((((x.setCell ⟨R, 0, none⟩ u0).setCell ⟨R, 1, none⟩ u1).setCell ⟨R, 2, none⟩ u2).setCell ⟨S, 0, none⟩ v0).setCell ⟨S, 1, none⟩ v1).setCell ⟨S, 2, none⟩ v2) b 0 cd ∧ Below w.heap.size w ((((((x.setCell ⟨R, 0, none⟩ u0).setCell ⟨R, 1, none⟩ u1).setCell ⟨R, 2, none⟩ u2).setCell ⟨S, 0, none⟩ v0).setCell ⟨S, 1, none⟩ v1).setCell ⟨S, 2, none⟩ v2) :=
  ⟨(((((hf.pOff (p := ⟨R, 0, none⟩) nR _).pOff (p := ⟨R, 1, none⟩) nR _).pOff (p := ⟨R, 2, none⟩) nR _).pOff (p := ⟨S, 0, none⟩) nS _).pOff (p := ⟨S, 1, none⟩) nS _).pOff (p := ⟨S, 2, none⟩) nS _,
   (((((hb.setCell (p := ⟨R, 0, none⟩) hR _).setCell (p := ⟨R, 1, none⟩) hR _).setCell (p := ⟨R, 2, none⟩) hR _).setCell (p := ⟨S, 0, none⟩) hS _).setCell (p := ⟨S, 1, none⟩) hS _).setCell (p := ⟨S, 2, none⟩) hS _⟩
theorem below33 {w x : World} {R S : Nat} (hb : Below w.heap.size w x) (hR : w.heap.size ≤ R) (hS : w.heap.size ≤ S) (u0 u1 u2 v0 v1 v2 : Value) :
    Below w.heap.size w ((((((x.setCell ⟨R, 0, none⟩ u0).setCell ⟨R, 1, none⟩ u1).setCell ⟨R, 2, none⟩ u2).setCell ⟨S, 0, none⟩ v0).setCell ⟨S, 1, none⟩ v1).setCell ⟨S, 2, none⟩ v2) :=
  (((((hb.setCell (p := ⟨R, 0, none⟩) hR _).setCell (p := ⟨R, 1, none⟩) hR _).setCell (p := ⟨R, 2, none⟩) hR _).setCell (p := ⟨S, 0, none⟩) hS _).setCell (p := ⟨S, 1, none⟩) hS _).setCell (p := ⟨S, 2, none⟩) hS _
/-- What lies in memory behind the state's finding. -/
structure SdI (w : World) (e : Bool) (a p st lf : Int) (q1 q2 q3 : Bool) (f h d : FuncId) (c b : Nat) (wx : World) : Prop where
  o : Box wx (w.heap.size + 1 + 1) #[.bool false, .bool false, .bool false]
  s : Box wx (w.heap.size + 1 + 1 + 1) #[.nilFunc, .nilFunc, .nilFunc]
  x : Box wx c #[.bool q1, .bool q2, .bool q3]
  y : Box wx b #[.func (.func f) #[] #[], .func (.func h) #[] #[], .func (.func d) #[] #[]]
  gc : w.heap.size + 4 ≤ c
  gb : w.heap.size + 4 ≤ b
  ne : c ≠ b
  bl : Below w.heap.size w wx
theorem SdI.below {w : World} {e : Bool} {a p st lf : Int} {q1 q2 q3 : Bool} {f h d : FuncId} {c b : Nat} {wx wy : World} (i : SdI w e a p st lf q1 q2 q3 f h d c b wx) (hb : Below wx.heap.size wx wy) : SdI w e a p st lf q1 q2 q3 f h d c b wy :=
  ⟨i.o.below hb, i.s.below hb, i.x.below hb, i.y.below hb, i.gc, i.gb, i.ne, below_then i.bl hb⟩
/-- Ahead of it. -/
abbrev SdV (w V : World) (st lf : Int) (q1 q2 q3 : Bool) (c : Nat) : Prop := Box V (w.heap.size + 1) #[.int .i64 st, .int .i64 lf] ∧ Box V (w.heap.size + 1 + 1) #[.bool false, .bool false, .bool false] ∧ Box V (w.heap.size + 1 + 1 + 1) #[.nilFunc, .nilFunc, .nilFunc] ∧ Box V c #[.bool q1, .bool q2, .bool q3] ∧ w.heap.size + 4 ≤ c ∧ Below w.heap.size w V
theorem sd_b {w V y : World} {e : Bool} {a p st lf : Int} {q1 q2 q3 : Bool} {f h d : FuncId} {c b : Nat} (q : SdV w V st lf q1 q2 q3 c) (g : Hid (Below V.heap.size V y)) (hb : Box y b #[.nilFunc, .nilFunc, .nilFunc]) (hg : V.heap.size ≤ b) :
    SdI w e a p st lf q1 q2 q3 f h d c b (((y.setCell ⟨b, 0, none⟩ (.func (.func f) #[] #[])).setCell ⟨b, 1, none⟩ (.func (.func h) #[] #[])).setCell ⟨b, 2, none⟩ (.func (.func d) #[] #[])) := by
  have hc := q.2.2.2.1.lt
  have hs : Below V.heap.size V (((y.setCell ⟨b, 0, none⟩ (.func (.func f) #[] #[])).setCell ⟨b, 1, none⟩ (.func (.func h) #[] #[])).setCell ⟨b, 2, none⟩ (.func (.func d) #[] #[])) := ((g.out.setCell (p := ⟨b, 0, none⟩) hg _).setCell (p := ⟨b, 1, none⟩) hg _).setCell (p := ⟨b, 2, none⟩) hg _
  exact ⟨q.2.1.below hs, q.2.2.1.below hs, q.2.2.2.1.below hs, hb.pPut3 _ _ _, q.2.2.2.2.1, by have := q.2.2.2.2.1; omega, by omega, below_then q.2.2.2.2.2 hs⟩
end Go.Proofs.YtoijhecphgdfnaaDoor
