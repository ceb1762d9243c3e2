/-
  The program's leaves: faults, the table of codes gone through, the words.
-/
import Derived.Test.YtoijhecphgdfnaaDoorDcOpen
import Derived.Deep.MidRow
namespace Go.Proofs.YtoijhecphgdfnaaDoor
open Go.RowKit

theorem bl_alloc {V x : World} (h : Below V.heap.size V x) (c : Obj) : Below V.heap.size V (x.alloc c) := h.alloc h.size c
/-- What lies in a world lies in a later one. -/
structure Held (x y : World) : Prop where
  cell : ∀ b o, b < x.heap.size → y.cell? ⟨b, o, none⟩ = x.cell? ⟨b, o, none⟩
  froz : ∀ b o, b < x.heap.size → y.frozen? ⟨b, o, none⟩ = x.frozen? ⟨b, o, none⟩
  size : ∀ b, b < x.heap.size → b < y.heap.size
theorem held_of {x y : World} (h : Below x.heap.size x y) : Held x y := ⟨fun b o hb => h.cell (p := ⟨b, o, none⟩) hb, fun b o hb => h.frozen (p := ⟨b, o, none⟩) hb, fun _ hb => Nat.lt_of_lt_of_le hb h.size⟩
theorem Box.pPut {w : World} {b : Nat} {cs : Array Value} (h : Box w b cs) {j : Nat} (hj : j < cs.size) (v : Value) : Box (w.setCell ⟨b, j, none⟩ v) b (cs.set! j v) := by
  refine ⟨by have := h.lt; simpa [World.setCell] using this, fun o => ?_, fun o => (World.frozen?_setCell _ _ _ _).trans (h.free o)⟩
  by_cases ho : j = o
  · subst ho
    rw [World.cell?_setCell_same' _ _ _ (by rw [h.cell j]; simp [hj])]
    simp [hj]
  · rw [World.cell?_setCell_other _ _ _ _ (by simp), h.cell o, Array.set!_eq_setIfInBounds, Array.getElem?_setIfInBounds_ne (by omega)]
theorem Box.pOff {w : World} {b : Nat} {cs : Array Value} (h : Box w b cs) {p : Addr} (hp : p.block ≠ b) (v : Value) : Box (w.setCell p v) b cs := by
  refine ⟨by have := h.lt; simpa [World.setCell] using this, fun o => ?_, fun o => (World.frozen?_setCell _ _ _ _).trans (h.free o)⟩
  rw [World.cell?_setCell_other _ _ _ _ (fun e => hp (by rw [e])), h.cell o]
theorem Box.pPut3 {w : World} {b : Nat} {z0 z1 z2 : Value} (h : Box w b #[z0, z1, z2]) (v0 v1 v2 : Value) : Box (((w.setCell ⟨b, 0, none⟩ v0).setCell ⟨b, 1, none⟩ v1).setCell ⟨b, 2, none⟩ v2) b #[v0, v1, v2] := by
  have h1 := h.pPut (j := 0) (by simp) v0
  have h2 := h1.pPut (j := 1) (by simp) v1
  have h3 := h2.pPut (j := 2) (by simp) v2
  simpa using h3
theorem Box.pPut2 {w : World} {b : Nat} {z0 z1 : Value} (h : Box w b #[z0, z1]) (v0 v1 : Value) : Box ((w.setCell ⟨b, 0, none⟩ v0).setCell ⟨b, 1, none⟩ v1) b #[v0, v1] := by
  have h1 := h.pPut (j := 0) (by simp) v0
  have h2 := h1.pPut (j := 1) (by simp) v1
  simpa using h2
set_option maxHeartbeats 400000 in
theorem pfault_any (a code : Int) (w : World) : Calls Tryd.prog 63 #[.int .i64 a, .int .i64 code] w fun e w' => e = .returned (.iface 91 (.pointer (some ⟨w.heap.size, 0, none⟩))) ∧ DFault w' w.heap.size a code ∧ Below w.heap.size w w' := by
  go_enter Tryd.func63, Tryd.ntmps63
  go_wp2
  go_ret
  exact ⟨rfl, ⟨by simp, by simp, by simp, by simp⟩, (Below.refl _ _).alloc (Nat.le_refl _) _⟩
/-- A fault told. -/
def FltQ (a code : Int) (w : World) (r : Ending) (w' : World) : Prop := ∃ b, r = .returned (.iface 91 (.pointer (some ⟨b, 0, none⟩))) ∧ DFault w' b a code ∧ Below w.heap.size w w'
theorem pfault_ex (a code : Int) (w : World) : Calls Tryd.prog 63 #[.int .i64 a, .int .i64 code] w (FltQ a code w) := (pfault_any a code w).mono fun _ _ ⟨h, g, b⟩ => ⟨_, h, g, b⟩
/-- When a row of the table holds. -/
def holdB (e : Bool) (a p : Int) (cm : Bool) (on : Int) : Bool := if e = true then (if cm = true then (decide (a = 1) || decide (a = on)) else (decide (p = 1) || decide (p = on))) else !cm
set_option maxHeartbeats 1000000 in
theorem holds_any (cd : ByteArray) (cm : Bool) (on : Int) (e : Bool) (a p : Int) (w : World) : Calls Tryd.prog 64 #[.agg #[.string cd, .bool cm, .int .i64 on], .agg #[.bool e, .int .i64 a, .int .i64 p]] w fun r w' => r = .returned (.bool (holdB e a p cm on)) ∧ Below w.heap.size w w' := by
  cases e <;> cases cm
  all_goals
    go_enter Tryd.func64, Tryd.ntmps64
    go_wp2
    all_goals (go_ret; exact ⟨ret_bool (by first | rfl | (unfold holdB; rw [Bool.eq_iff_iff]; simp; done) | (unfold holdB; rw [Bool.eq_iff_iff]; simp; first | omega | (intros; omega))), ((Below.refl _ _).alloc (by first | omega | (simp; done) | (simp; omega)) _).alloc (by first | omega | (simp; done) | (simp; omega)) _⟩)
def cB : Nat → ByteArray
  | 0 => ⟨#[67, 65]⟩
  | 1 => ⟨#[67, 69]⟩
  | 2 => ⟨#[67, 82]⟩
  | 3 => ⟨#[65, 65]⟩
  | 4 => ⟨#[65, 69]⟩
  | 5 => ⟨#[65, 82]⟩
  | _ => ⟨#[]⟩
def cM : Nat → Bool
  | 0 => true
  | 1 => true
  | 2 => true
  | _ => false
def cO : Nat → Int
  | 0 => 3
  | 3 => 3
  | _ => 2
def wB : Nat → ByteArray
  | 0 => ⟨#[78, 69]⟩
  | 1 => ⟨#[65, 76]⟩
  | 2 => ⟨#[69, 82]⟩
  | 3 => ⟨#[83, 85]⟩
  | _ => ⟨#[]⟩
theorem index6 (i : Nat) (hi : i < 6) (w : World) : (Instr.index 124 (.agg #[.string ⟨#[67, 65]⟩, .bool true, .int .i64 3, .string ⟨#[67, 69]⟩, .bool true, .int .i64 2, .string ⟨#[67, 82]⟩, .bool true, .int .i64 2, .string ⟨#[65, 65]⟩, .bool false, .int .i64 3, .string ⟨#[65, 69]⟩, .bool false, .int .i64 2, .string ⟨#[65, 82]⟩, .bool false, .int .i64 2]) (.int .i64 (i : Int))).run Tryd.prog w = .ok (.agg #[.string (cB i), .bool (cM i), .int .i64 (cO i)]) w := by
  rcases (by omega : i = 0 ∨ i = 1 ∨ i = 2 ∨ i = 3 ∨ i = 4 ∨ i = 5) with rfl | rfl | rfl | rfl | rfl | rfl <;> kernel_rfl
theorem str_apart {s t : ByteArray} (h : ¬ s = t) : (s.toList == t.toList) = false := by
  rw [Lib.toList_data, Lib.toList_data]
  refine beq_eq_false_iff_ne.2 fun g => h ?_
  obtain ⟨⟨x⟩⟩ := s
  obtain ⟨⟨y⟩⟩ := t
  have g' : x = y := g
  rw [g']
theorem sent_at (e : Bool) (a p : Int) (i : Nat) (hi : i < 6) : sentB e a p (cB i) = holdB e a p (cM i) (cO i) := by
  rcases (by omega : i = 0 ∨ i = 1 ∨ i = 2 ∨ i = 3 ∨ i = 4 ∨ i = 5) with rfl | rfl | rfl | rfl | rfl | rfl
  · rw [show cB 0 = ⟨#[67, 65]⟩ from rfl, sent_1]; cases e <;> rfl
  · rw [show cB 1 = ⟨#[67, 69]⟩ from rfl, sent_2]; cases e <;> rfl
  · rw [show cB 2 = ⟨#[67, 82]⟩ from rfl, sent_3]; cases e <;> rfl
  · rw [show cB 3 = ⟨#[65, 65]⟩ from rfl, sent_4]; cases e <;> rfl
  · rw [show cB 4 = ⟨#[65, 69]⟩ from rfl, sent_5]; cases e <;> rfl
  · rw [show cB 5 = ⟨#[65, 82]⟩ from rfl, sent_6]; cases e <;> rfl
theorem none_of {s : ByteArray} (h : ∀ j, j < 6 → ¬ cB j = s) : codeN s = 0 ∧ verB s = false := by
  rcases code_cases s with rfl | rfl | rfl | rfl | rfl | rfl | ⟨ho, h0⟩
  · exact absurd rfl (h 0 (by omega))
  · exact absurd rfl (h 1 (by omega))
  · exact absurd rfl (h 2 (by omega))
  · exact absurd rfl (h 3 (by omega))
  · exact absurd rfl (h 4 (by omega))
  · exact absurd rfl (h 5 (by omega))
  · exact ⟨h0, by unfold verB; rw [ho.h4, ho.h5, ho.h6]; rfl⟩
theorem less_step {P : Nat → Prop} {i : Nat} (h : ∀ j, j < i → P j) (hi : P i) : ∀ j, j < i + 1 → P j := fun j hj => by
  rcases Nat.lt_or_ge j i with g | g
  · exact h j g
  · obtain rfl : j = i := by omega
    exact hi
theorem ver_at (i : Nat) (hi : i < 6) : verB (cB i) = !cM i := by
  rcases (by omega : i = 0 ∨ i = 1 ∨ i = 2 ∨ i = 3 ∨ i = 4 ∨ i = 5) with rfl | rfl | rfl | rfl | rfl | rfl <;> (unfold verB; simp only [Lib.toList_data]; rfl)
set_option maxRecDepth 100000 in
set_option maxHeartbeats 4000000 in
theorem may_any (e : Bool) (a p : Int) (s : ByteArray) (w : World) (hV : PVc w) : Calls Tryd.prog 61 #[.agg #[.bool e, .int .i64 a, .int .i64 p], .string s] w fun r w' => r = .returned (.bool (sentB e a p s)) ∧ Below w.heap.size w w' := by
  have hV' := hV.below ((Below.refl _ w).alloc (Nat.le_refl _) (.cells #[.bool e, .int .i64 a, .int .i64 p] 46))
  have b1 : Below w.heap.size w (w.alloc (.cells #[.bool e, .int .i64 a, .int .i64 p] 46)) := (Below.refl _ w).alloc (Nat.le_refl _) _
  have x1 := Box.new w #[.bool e, .int .i64 a, .int .i64 p] 46
  obtain ⟨W1, hW1⟩ : ∃ W, w.alloc (.cells #[.bool e, .int .i64 a, .int .i64 p] 46) = W := ⟨_, rfl⟩
  rw [hW1] at hV' b1 x1
  have hr : W1.rangeAt 0 0 CV := fun j v hv => by rw [Nat.zero_add]; exact hV' j v hv
  have HQ : Hid (Below w.heap.size w W1 ∧ Box W1 w.heap.size #[.bool e, .int .i64 a, .int .i64 p]) := ⟨b1, x1⟩
  have hix := index6
  rw [show (#[.string ⟨#[67, 65]⟩, .bool true, .int .i64 3, .string ⟨#[67, 69]⟩, .bool true, .int .i64 2, .string ⟨#[67, 82]⟩, .bool true, .int .i64 2, .string ⟨#[65, 65]⟩, .bool false, .int .i64 3, .string ⟨#[65, 69]⟩, .bool false, .int .i64 2, .string ⟨#[65, 82]⟩, .bool false, .int .i64 2] : Array Value) = CV.toArray from rfl] at hix
  clear hV hV' b1 x1
  go_enter Tryd.func61, Tryd.ntmps61
  go_wp2_with (refine wpList_load_mid rfl 124 (.global 0) rfl 0 0 rfl CV _ hr Tryd.underlying124 rfl (by kernel_rfl) ?_)
  obtain ⟨A, hA⟩ : ∃ A, CV.toArray = A := ⟨_, rfl⟩
  rw [hA] at hix ⊢
  clear hA hr
  go_wp2_with fail
  go_loopw [8] (fun t8 wx => ∃ i : Nat, i ≤ 6 ∧ t8 = .int .i64 i ∧ Hid (Below W1.heap.size W1 wx ∧ ∀ j, j < i → ¬ cB j = s)) (fun t8 _ => 6 - (intOf t8).toNat)
  case atStart => exact ⟨0, Nat.zero_le _, rfl, Below.refl _ _, fun j hj => by omega⟩
  case round =>
    obtain ⟨i, hi, rfl, HI⟩ := hrel
    have HB : Hid (Box wr w.heap.size #[.bool e, .int .i64 a, .int .i64 p]) := HQ.out.2.below HI.out.1
    obtain ⟨l1, k1, f1⟩ := HB.out
    have HBw : Hid (Below w.heap.size w wr) := below_then HQ.out.1 HI.out.1
    by_cases hlt : i < 6
    · have hlti : (i : Int) < 6 := by omega
      have hxi := hix i hlt
      clear hix
      by_cases hs : cB i = s
      · have hh := fun w => holds_any (cB i) (cM i) (cO i) e a p w
        rw [← sent_at e a p i hlt] at hh
        subst hs
        go_wp2_with fail
        refine (hh _).mono ?_
        rintro _ w2 ⟨rfl, b2⟩
        have HB2 : Hid (Below w.heap.size w w2) := below_then HBw.out (below_then ((Below.refl _ _).alloc (Nat.le_refl _) _) b2)
        clear b2
        go_wp2_with fail
        go_ret
        exact ⟨rfl, HB2.out⟩
      · have hs' := str_apart hs
        go_wp2_with fail
        go_roundw
        case rel => exact ⟨i + 1, by omega, by go_num, below_then HI.out.1 ((Below.refl _ _).alloc (Nat.le_refl _) _), less_step HI.out.2 hs⟩
        case measure => simp [intOf]; omega
    · obtain rfl : i = 6 := by omega
      clear hix
      have h0 : sentB e a p s = false := by unfold sentB; rw [(none_of HI.out.2).1]; rfl
      go_wp2_with fail
      go_ret
      exact ⟨ret_bool h0.symm, HBw.out⟩
theorem wordI_at (i : Nat) (hi : i < 4) : wordI (wB i) = i ∧ wordK (wB i) = true := by
  rcases (by omega : i = 0 ∨ i = 1 ∨ i = 2 ∨ i = 3) with rfl | rfl | rfl | rfl <;> (unfold wordI wordK; simp only [Lib.toList_data]; exact ⟨rfl, rfl⟩)
theorem word_none {s : ByteArray} (he : s.toList.isEmpty = false) (h : ∀ j, j < 4 → ¬ wB j = s) : wordI s = 0 ∧ wordK s = false := by
  have g0 : (s.toList == [78, 69]) = false := str_ne fun e => h 0 (by omega) e.symm
  have g1 : (s.toList == [65, 76]) = false := str_ne fun e => h 1 (by omega) e.symm
  have g2 : (s.toList == [69, 82]) = false := str_ne fun e => h 2 (by omega) e.symm
  have g3 : (s.toList == [83, 85]) = false := str_ne fun e => h 3 (by omega) e.symm
  unfold wordI wordK
  rw [he, g0, g1, g2, g3]
  exact ⟨rfl, rfl⟩
theorem ret_word {a b : Int} {x y : Bool} (h : a = b) (g : x = y) : Ending.returned (.tuple #[.int .i64 a, .bool x]) = .returned (.tuple #[.int .i64 b, .bool y]) := by rw [h, g]
end Go.Proofs.YtoijhecphgdfnaaDoor
