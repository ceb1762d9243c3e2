import Derived.Test.YtoijhecphgdfnaaGreatDoorProg
import Derived.WalkKit
import Derived.WalkSpells
import Derived.WalkLawsBesides
import Derived.RowKitTokens
import Derived.Lib.IndexAny
import Derived.BigQuiet
import Derived.Deep.QuietTactic
import Derived.Deep.RegionWith
import Derived.LoopTactic
import Derived.Laws.Cells
import Derived.OwnWalk
import Derived.Laws.AppendOwn
/-
  decide as plain data: which conditions are right, which code is sent under them, what a want does. Of no program.
-/
namespace Go.Proofs.YtoijhecphgdfnaaGreatDoor
open Go.RowKit

/-- The six codes. -/
abbrev kCA : ByteArray := ⟨#[67, 65]⟩
abbrev kCE : ByteArray := ⟨#[67, 69]⟩
abbrev kCR : ByteArray := ⟨#[67, 82]⟩
abbrev kAA : ByteArray := ⟨#[65, 65]⟩
abbrev kAE : ByteArray := ⟨#[65, 69]⟩
abbrev kAR : ByteArray := ⟨#[65, 82]⟩
/-- Conditions that are right; what is sent, and may come. -/
def okB (e : Bool) (a p : Int) : Bool := decide (0 ≤ a ∧ a ≤ 3 ∧ 0 ≤ p ∧ p ≤ 3) && (e || (decide (a = 0) && decide (p = 0)))
def caB (e : Bool) (a : Int) : Bool := e && (decide (a = 1) || decide (a = 3))
def ceB (e : Bool) (a : Int) : Bool := e && (decide (a = 1) || decide (a = 2))
def aaB (e : Bool) (p : Int) : Bool := !e || (decide (p = 1) || decide (p = 3))
def aeB (e : Bool) (p : Int) : Bool := !e || (decide (p = 1) || decide (p = 2))
/-- A code's number: 0 of any other text. -/
def codeN (s : ByteArray) : Nat := if s = kCA then 1 else if s = kCE then 2 else if s = kCR then 3 else if s = kAA then 4 else if s = kAE then 5 else if s = kAR then 6 else 0
def sentN (e : Bool) (a p : Int) (k : Nat) : Bool := if k = 1 then caB e a else if k = 2 then ceB e a else if k = 3 then ceB e a else if k = 4 then aaB e p else if k = 5 then aeB e p else if k = 6 then aeB e p else false
def sentB (e : Bool) (a p : Int) (s : ByteArray) : Bool := sentN e a p (codeN s)
def earB (e : Bool) (a p : Int) (came : Bool) : Bool := !aaB e p && (if caB e a then came && decide (p = 2) else decide (a = 2) || decide (p = 2))
def fitB (e : Bool) (a p st lf : Int) : Bool :=
  decide (1 ≤ st ∧ st ≤ 6 ∧ 0 ≤ lf ∧ lf ≤ 16) && (if st = 1 then caB e a else if st = 2 then aaB e p else if st = 3 then earB e a p (caB e a) else if st = 6 then caB e a || aaB e p else true)
def verB (s : ByteArray) : Bool := s.toList == [65, 65] || s.toList == [65, 69] || s.toList == [65, 82]
/-- A text that is none of the six. -/
structure Oth (s : ByteArray) : Prop where
  h1 : (s.toList == [67, 65]) = false
  h2 : (s.toList == [67, 69]) = false
  h3 : (s.toList == [67, 82]) = false
  h4 : (s.toList == [65, 65]) = false
  h5 : (s.toList == [65, 69]) = false
  h6 : (s.toList == [65, 82]) = false
theorem str_ne {s : ByteArray} {l : List UInt8} (h : ¬ s = ⟨l.toArray⟩) : (s.toList == l) = false := by
  rw [Lib.toList_data]
  refine beq_eq_false_iff_ne.2 fun g => h ?_
  obtain ⟨⟨d⟩⟩ := s
  have g' : d = l := g
  rw [g']
theorem code_cases (s : ByteArray) : s = ⟨#[67, 65]⟩ ∨ s = ⟨#[67, 69]⟩ ∨ s = ⟨#[67, 82]⟩ ∨ s = ⟨#[65, 65]⟩ ∨ s = ⟨#[65, 69]⟩ ∨ s = ⟨#[65, 82]⟩ ∨ (Oth s ∧ codeN s = 0) := by
  by_cases h1 : s = kCA
  · exact Or.inl h1
  by_cases h2 : s = kCE
  · exact Or.inr (Or.inl h2)
  by_cases h3 : s = kCR
  · exact Or.inr (Or.inr (Or.inl h3))
  by_cases h4 : s = kAA
  · exact Or.inr (Or.inr (Or.inr (Or.inl h4)))
  by_cases h5 : s = kAE
  · exact Or.inr (Or.inr (Or.inr (Or.inr (Or.inl h5))))
  by_cases h6 : s = kAR
  · exact Or.inr (Or.inr (Or.inr (Or.inr (Or.inr (Or.inl h6)))))
  refine Or.inr (Or.inr (Or.inr (Or.inr (Or.inr (Or.inr ⟨⟨str_ne h1, str_ne h2, str_ne h3, str_ne h4, str_ne h5, str_ne h6⟩, ?_⟩)))))
  unfold codeN; rw [if_neg h1, if_neg h2, if_neg h3, if_neg h4, if_neg h5, if_neg h6]

/-- The error of conditions. -/
def errN (e : Bool) (a p : Int) : Int := if okB e a p = true then 0 else 220
abbrev ActL := List (Int × ByteArray)
/-- What a call of the initiator's answers: state, left, acts, the error's place and number. -/
structure Ans where
  st : Int
  lf : Int
  l : ActL
  at_ : Int
  n : Int
abbrev nT : ByteArray := ⟨#[]⟩
def startS (e : Bool) (a p t : Int) (noted : Bool) : Ans :=
  if okB e a p = false then ⟨0, 0, [], 0, 220⟩ else if ¬ (0 ≤ t ∧ t ≤ 16) then ⟨0, 0, [], 0, 224⟩ else
  if (noted && !caB e a) = true then ⟨0, 0, [], 1, 220⟩ else
  if (caB e a && !noted) = true then ⟨1, t, [(1, nT), (2, nT)], 0, 0⟩ else
  if aaB e p = true then ⟨2, t, [(1, nT), (2, nT)], 0, 0⟩ else
  if earB e a p noted = true then ⟨3, t, [(1, nT), (2, nT)], 0, 0⟩ else
  if noted = true then ⟨4, t, [(1, nT), (4, kCA)], 0, 0⟩ else ⟨5, t, [(1, nT), (4, nT)], 0, 0⟩
def heardS (e : Bool) (a p st lf : Int) (s : ByteArray) (number : Bool) : Ans :=
  if okB e a p = false then ⟨0, 0, [], 0, 220⟩ else if fitB e a p st lf = false then ⟨0, 0, [], 0, 222⟩ else
  if (decide (4 ≤ st) || !sentB e a p s) = true then ⟨st, lf, [(6, nT)], 0, 0⟩ else
  if (s.toList == [67, 65]) = true then
    (if st = 1 then (if aaB e p = true then ⟨2, lf, [(3, nT)], 0, 0⟩ else if p = 2 then ⟨3, lf, [(3, nT), (2, nT)], 0, 0⟩ else ⟨4, lf, [(4, kCA)], 0, 0⟩) else ⟨st, lf, [], 0, 0⟩)
  else if (number && (s.toList == [67, 69] || s.toList == [65, 69])) = true then
    (if (caB e a && !decide (st = 1)) = true then ⟨st, lf, [(6, nT)], 0, 0⟩ else if 0 < lf then ⟨st, lf - 1, [(5, nT), (1, nT), (2, nT)], 0, 0⟩ else ⟨4, lf, [(4, s)], 0, 0⟩)
  else ⟨4, lf, [(4, s)], 0, 0⟩
def dueS (e : Bool) (a p st lf : Int) : Ans :=
  if okB e a p = false then ⟨0, 0, [], 0, 220⟩ else if fitB e a p st lf = false then ⟨0, 0, [], 0, 222⟩ else
  if 4 ≤ st then ⟨st, lf, [], 0, 0⟩ else if st = 3 then ⟨5, lf, [(4, nT)], 0, 0⟩ else if 0 < lf then ⟨st, lf - 1, [(1, nT), (2, nT)], 0, 0⟩ else ⟨6, 0, [(4, nT)], 0, 0⟩
end Go.Proofs.YtoijhecphgdfnaaGreatDoor

/-
  The document's leaves: Right, sent, commit, app, ear, fits, verdict, kept.
-/
namespace Go.Proofs.YtoijhecphgdfnaaGreatDoor
open Go.RowKit

theorem ret_bool {a b : Bool} (h : a = b) : Ending.returned (.bool a) = .returned (.bool b) := by rw [h]
theorem ret_int {k : IntKind} {a b : Int} (h : a = b) : Ending.returned (.int k a) = .returned (.int k b) := by rw [h]
theorem below_then {w a b : World} (h : Below w.heap.size w a) (g : Below a.heap.size a b) : Below w.heap.size w b := h.trans (g.mono h.size)
theorem ok_of {e : Bool} {a p : Int} (h : okB e a p = true) : 0 ≤ a ∧ a ≤ 3 ∧ 0 ≤ p ∧ p ≤ 3 ∧ (e = true ∨ (a = 0 ∧ p = 0)) := by
  unfold okB at h
  simp at h
  obtain ⟨⟨h1, h2, h3, h4⟩, h5⟩ := h
  exact ⟨h1, h2, h3, h4, h5⟩
/-- A block of one's own. -/
structure Box (w : World) (b : Nat) (cs : Array Value) : Prop where
  lt : b < w.heap.size
  cell : ∀ o, w.cell? ⟨b, o, none⟩ = cs[o]?
  free : ∀ o, w.frozen? ⟨b, o, none⟩ = false
theorem cell_new (w : World) (cs : Array Value) (t : TypeId) (j : Nat) : (w.alloc (.cells cs t)).cell? ⟨w.heap.size, j, none⟩ = cs[j]? := by
  have hb : (w.alloc (.cells cs t)).heap[w.heap.size]? = some (.cells cs t) := by show (w.heap.push _)[w.heap.size]? = _; simp
  unfold World.cell?
  rw [hb]
  rfl
theorem Box.new (w : World) (cs : Array Value) (t : TypeId) : Box (w.alloc (.cells cs t)) w.heap.size cs :=
  ⟨by simp, cell_new w cs t, fun o => by simp⟩
theorem Box.below {w w' : World} {b : Nat} {cs : Array Value} (h : Box w b cs) (hb : Below w.heap.size w w') : Box w' b cs :=
  ⟨Nat.lt_of_lt_of_le h.lt hb.size, fun o => by rw [hb.cell (p := ⟨b, o, none⟩) h.lt]; exact h.cell o, fun o => by rw [hb.frozen (p := ⟨b, o, none⟩) h.lt]; exact h.free o⟩
theorem Box.alloc {w : World} {b : Nat} {cs : Array Value} (h : Box w b cs) (x : Obj) : Box (w.alloc x) b cs := h.below ((Below.refl _ _).alloc (Nat.le_refl _) _)
set_option maxHeartbeats 1000000 in
theorem rRight_any (e : Bool) (a p : Int) (w : World) : Calls Tryz.prog 48 #[.agg #[.bool e, .int .i64 a, .int .i64 p]] w fun r w' => r = .returned (.bool (okB e a p)) ∧ Below w.heap.size w w' := by
  cases e
  all_goals
    go_enter Tryz.func48, Tryz.ntmps48
    go_wp2
    all_goals (go_ret; exact ⟨ret_bool (by unfold okB; rw [Bool.eq_iff_iff]; simp; try (first | omega | (intros; omega))), (Below.refl _ _).alloc (Nat.le_refl _) _⟩)
set_option maxHeartbeats 1000000 in
theorem rCommit_any (e : Bool) (a p : Int) (w : World) : Calls Tryz.prog 92 #[.agg #[.bool e, .int .i64 a, .int .i64 p]] w fun r w' => r = .returned (.bool (caB e a)) ∧ Below w.heap.size w w' := by
  cases e
  all_goals
    go_enter Tryz.func92, Tryz.ntmps92
    go_wp2
    all_goals (go_ret; exact ⟨ret_bool (by unfold caB; rw [Bool.eq_iff_iff]; simp; try (first | omega | (intros; omega))), (Below.refl _ _).alloc (Nat.le_refl _) _⟩)
set_option maxHeartbeats 1000000 in
theorem rApp_any (e : Bool) (a p : Int) (w : World) : Calls Tryz.prog 93 #[.agg #[.bool e, .int .i64 a, .int .i64 p]] w fun r w' => r = .returned (.bool (aaB e p)) ∧ Below w.heap.size w w' := by
  cases e
  all_goals
    go_enter Tryz.func93, Tryz.ntmps93
    go_wp2
    all_goals (go_ret; exact ⟨ret_bool (by unfold aaB; rw [Bool.eq_iff_iff]; simp; try (first | omega | (intros; omega))), (Below.refl _ _).alloc (Nat.le_refl _) _⟩)
theorem sent_1 (e : Bool) (a p : Int) : sentB e a p ⟨#[67, 65]⟩ = caB e a := by unfold sentB; rw [show codeN ⟨#[67, 65]⟩ = 1 by decide]; rfl
set_option maxHeartbeats 1000000 in
theorem rSent_1 (e : Bool) (a p : Int) (w : World) : Calls Tryz.prog 91 #[.agg #[.bool e, .int .i64 a, .int .i64 p], .string ⟨#[67, 65]⟩] w fun r w' => r = .returned (.bool (caB e a)) ∧ Below w.heap.size w w' := by
  cases e
  all_goals
    go_enter Tryz.func91, Tryz.ntmps91
    go_wp2
    all_goals (go_ret; exact ⟨ret_bool (by unfold caB; rw [Bool.eq_iff_iff]; simp; try (first | omega | (intros; omega))), (Below.refl _ _).alloc (Nat.le_refl _) _⟩)
theorem sent_2 (e : Bool) (a p : Int) : sentB e a p ⟨#[67, 69]⟩ = ceB e a := by unfold sentB; rw [show codeN ⟨#[67, 69]⟩ = 2 by decide]; rfl
set_option maxHeartbeats 1000000 in
theorem rSent_2 (e : Bool) (a p : Int) (w : World) : Calls Tryz.prog 91 #[.agg #[.bool e, .int .i64 a, .int .i64 p], .string ⟨#[67, 69]⟩] w fun r w' => r = .returned (.bool (ceB e a)) ∧ Below w.heap.size w w' := by
  cases e
  all_goals
    go_enter Tryz.func91, Tryz.ntmps91
    go_wp2
    all_goals (go_ret; exact ⟨ret_bool (by unfold ceB; rw [Bool.eq_iff_iff]; simp; try (first | omega | (intros; omega))), (Below.refl _ _).alloc (Nat.le_refl _) _⟩)
theorem sent_3 (e : Bool) (a p : Int) : sentB e a p ⟨#[67, 82]⟩ = ceB e a := by unfold sentB; rw [show codeN ⟨#[67, 82]⟩ = 3 by decide]; rfl
set_option maxHeartbeats 1000000 in
theorem rSent_3 (e : Bool) (a p : Int) (w : World) : Calls Tryz.prog 91 #[.agg #[.bool e, .int .i64 a, .int .i64 p], .string ⟨#[67, 82]⟩] w fun r w' => r = .returned (.bool (ceB e a)) ∧ Below w.heap.size w w' := by
  cases e
  all_goals
    go_enter Tryz.func91, Tryz.ntmps91
    go_wp2
    all_goals (go_ret; exact ⟨ret_bool (by unfold ceB; rw [Bool.eq_iff_iff]; simp; try (first | omega | (intros; omega))), (Below.refl _ _).alloc (Nat.le_refl _) _⟩)
theorem sent_4 (e : Bool) (a p : Int) : sentB e a p ⟨#[65, 65]⟩ = aaB e p := by unfold sentB; rw [show codeN ⟨#[65, 65]⟩ = 4 by decide]; rfl
set_option maxHeartbeats 1000000 in
theorem rSent_4 (e : Bool) (a p : Int) (w : World) : Calls Tryz.prog 91 #[.agg #[.bool e, .int .i64 a, .int .i64 p], .string ⟨#[65, 65]⟩] w fun r w' => r = .returned (.bool (aaB e p)) ∧ Below w.heap.size w w' := by
  cases e
  all_goals
    go_enter Tryz.func91, Tryz.ntmps91
    go_wp2
    all_goals (go_ret; exact ⟨ret_bool (by unfold aaB; rw [Bool.eq_iff_iff]; simp; try (first | omega | (intros; omega))), (Below.refl _ _).alloc (Nat.le_refl _) _⟩)
theorem sent_5 (e : Bool) (a p : Int) : sentB e a p ⟨#[65, 69]⟩ = aeB e p := by unfold sentB; rw [show codeN ⟨#[65, 69]⟩ = 5 by decide]; rfl
set_option maxHeartbeats 1000000 in
theorem rSent_5 (e : Bool) (a p : Int) (w : World) : Calls Tryz.prog 91 #[.agg #[.bool e, .int .i64 a, .int .i64 p], .string ⟨#[65, 69]⟩] w fun r w' => r = .returned (.bool (aeB e p)) ∧ Below w.heap.size w w' := by
  cases e
  all_goals
    go_enter Tryz.func91, Tryz.ntmps91
    go_wp2
    all_goals (go_ret; exact ⟨ret_bool (by unfold aeB; rw [Bool.eq_iff_iff]; simp; try (first | omega | (intros; omega))), (Below.refl _ _).alloc (Nat.le_refl _) _⟩)
theorem sent_6 (e : Bool) (a p : Int) : sentB e a p ⟨#[65, 82]⟩ = aeB e p := by unfold sentB; rw [show codeN ⟨#[65, 82]⟩ = 6 by decide]; rfl
set_option maxHeartbeats 1000000 in
theorem rSent_6 (e : Bool) (a p : Int) (w : World) : Calls Tryz.prog 91 #[.agg #[.bool e, .int .i64 a, .int .i64 p], .string ⟨#[65, 82]⟩] w fun r w' => r = .returned (.bool (aeB e p)) ∧ Below w.heap.size w w' := by
  cases e
  all_goals
    go_enter Tryz.func91, Tryz.ntmps91
    go_wp2
    all_goals (go_ret; exact ⟨ret_bool (by unfold aeB; rw [Bool.eq_iff_iff]; simp; try (first | omega | (intros; omega))), (Below.refl _ _).alloc (Nat.le_refl _) _⟩)
set_option maxHeartbeats 1000000 in
theorem rSent_0 (e : Bool) (a p : Int) (s : ByteArray) (w : World) (h : Oth s) : Calls Tryz.prog 91 #[.agg #[.bool e, .int .i64 a, .int .i64 p], .string s] w fun r w' => r = .returned (.bool false) ∧ Below w.heap.size w w' := by
  obtain ⟨h1, h2, h3, h4, h5, h6⟩ := h
  go_enter Tryz.func91, Tryz.ntmps91
  go_wp2
  all_goals (go_ret; exact ⟨rfl, (Below.refl _ _).alloc (Nat.le_refl _) _⟩)
theorem rSent_any (e : Bool) (a p : Int) (s : ByteArray) (w : World) : Calls Tryz.prog 91 #[.agg #[.bool e, .int .i64 a, .int .i64 p], .string s] w fun r w' => r = .returned (.bool (sentB e a p s)) ∧ Below w.heap.size w w' := by
  rcases code_cases s with rfl | rfl | rfl | rfl | rfl | rfl | ⟨h, h0⟩
  · exact rSent_1 e a p w
  · rw [sent_2]; exact rSent_2 e a p w
  · rw [sent_3]; exact rSent_3 e a p w
  · rw [sent_4]; exact rSent_4 e a p w
  · rw [sent_5]; exact rSent_5 e a p w
  · rw [sent_6]; exact rSent_6 e a p w
  · unfold sentB; rw [h0]; exact rSent_0 e a p s w h
set_option maxHeartbeats 2000000 in
theorem rEar_any (e : Bool) (a p : Int) (came : Bool) (w : World) : Calls Tryz.prog 94 #[.agg #[.bool e, .int .i64 a, .int .i64 p], .bool came] w fun r w' => r = .returned (.bool (earB e a p came)) ∧ Below w.heap.size w w' := by
  cases e with
  | false =>
    go_enter Tryz.func94, Tryz.ntmps94
    go_wp2
    all_goals (go_ret; exact ⟨rfl, (Below.refl _ _).alloc (Nat.le_refl _) _⟩)
  | true =>
    obtain ⟨q1, hq1⟩ : ∃ q, aaB true p = q := ⟨_, rfl⟩
    obtain ⟨q2, hq2⟩ : ∃ q, caB true a = q := ⟨_, rfl⟩
    have c1 : ∀ w, Calls Tryz.prog 93 #[.agg #[.bool true, .int .i64 a, .int .i64 p]] w fun r w' => r = .returned (.bool q1) ∧ Below w.heap.size w w' := fun w => by have := rApp_any true a p w; rw [hq1] at this; exact this
    have c2 : ∀ w, Calls Tryz.prog 92 #[.agg #[.bool true, .int .i64 a, .int .i64 p]] w fun r w' => r = .returned (.bool q2) ∧ Below w.heap.size w w' := fun w => by have := rCommit_any true a p w; rw [hq2] at this; exact this
    unfold earB
    rw [hq1, hq2]
    clear hq1 hq2
    go_enter Tryz.func94, Tryz.ntmps94
    go_wp2_with fail
    refine (c1 _).mono ?_
    rintro _ w1 ⟨rfl, b1⟩
    have HB1 : Hid (Below w.heap.size w w1) := below_then ((Below.refl _ _).alloc (Nat.le_refl _) _) b1
    obtain ⟨l1, k1, f1⟩ := (Box.new w #[.bool true, .int .i64 a, .int .i64 p] 45).below b1
    clear b1 c1 f1
    cases q1 with
    | true =>
      go_wp2_with fail
      all_goals (go_ret; exact ⟨rfl, HB1.out⟩)
    | false =>
      go_wp2_with fail
      refine (c2 _).mono ?_
      rintro _ w2 ⟨rfl, b2⟩
      have HB2 : Hid (Below w.heap.size w w2) := below_then HB1.out b2
      have k2 : ∀ o, w2.cell? ⟨w.heap.size, o, none⟩ = ((#[.bool true, .int .i64 a, .int .i64 p] : Array Value))[o]? := fun o => (b2.cell (p := ⟨w.heap.size, o, none⟩) l1).trans (k1 o)
      clear b2 c2 k1 l1 HB1
      cases q2 <;> cases came <;>
      (go_wp2_with fail
       all_goals (go_ret; exact ⟨ret_bool (by first | rfl | (rw [Bool.eq_iff_iff]; simp; done) | (rw [Bool.eq_iff_iff]; simp; omega)), HB2.out⟩))
end Go.Proofs.YtoijhecphgdfnaaGreatDoor

/-
  Errors of layer "decide", lists of acts in memory; the law's refused, same.
-/
namespace Go.Proofs.YtoijhecphgdfnaaGreatDoor
open Go.RowKit

theorem cell_lt {w : World} {a : Addr} {v : Value} (h : w.cell? a = some v) : a.block < w.heap.size := by
  rcases Nat.lt_or_ge a.block w.heap.size with g | g
  · exact g
  · simp [World.cell?, Array.getElem?_eq_none g] at h
/-- The cells of a fault of layer "decide". -/
def DFault (w : World) (b : Nat) (a code : Int) : Prop :=
  w.cell? ⟨b, 0, none⟩ = some (.string ⟨#[100, 101, 99, 105, 100, 101]⟩) ∧ w.cell? ⟨b, 1, none⟩ = some (.int .i64 a) ∧ w.cell? ⟨b, 2, none⟩ = some (.int .i64 code) ∧ w.cell? ⟨b, 3, none⟩ = some .nilIface
theorem DFault.below {w w' : World} {b : Nat} {a c : Int} (h : DFault w b a c) (hb : Below w.heap.size w w') : DFault w' b a c := by
  have hl : b < w.heap.size := cell_lt h.1
  have hc : ∀ o, w'.cell? ⟨b, o, none⟩ = w.cell? ⟨b, o, none⟩ := fun o => hb.cell (p := ⟨b, o, none⟩) hl
  exact ⟨by rw [hc]; exact h.1, by rw [hc]; exact h.2.1, by rw [hc]; exact h.2.2.1, by rw [hc]; exact h.2.2.2⟩
/-- An error that is just that: none where the number is 0. -/
def Ev (w : World) (v : Value) (a code : Int) : Prop := (v = .nilIface ∧ code = 0) ∨ (code ≠ 0 ∧ ∃ b, v = .iface 122 (.pointer (some ⟨b, 0, none⟩)) ∧ DFault w b a code)
theorem Ev.below {w w' : World} {v : Value} {a c : Int} (h : Ev w v a c) (hb : Below w.heap.size w w') : Ev w' v a c := by
  rcases h with h | ⟨h0, b, h1, h2⟩
  · exact Or.inl h
  · exact Or.inr ⟨h0, b, h1, h2.below hb⟩
theorem Ev.drewN {w : World} {v : Value} {a c : Int} (h : Ev w v a c) (n : Nat) : Ev (w.drewN n) v a c := h
theorem asFault (v : Value) (xT : TypeId) (w : World) : (Instr.typeAssert (.iface 122 v) xT 122 true).run Tryz.prog w = .ok (.tuple #[v, .bool true]) w := by
  simp [Instr.typeAssert, run_underlying Tryz.underlying122, go_sem, Result.andThen]
/-- A list of acts in memory, from block N on. -/
def Acts (w : World) (N : Nat) (v : Value) (l : ActL) : Prop :=
  ∃ po cap, v = .slice po l.length cap ∧ l.length ≤ cap ∧ ∀ j y, l[j]? = some y → ∃ b o, po = some ⟨b, o, none⟩ ∧ N ≤ b ∧ b < w.heap.size ∧ w.cell? ⟨b, o + j * 2, none⟩ = some (.int .i64 y.1) ∧ w.cell? ⟨b, o + j * 2 + 1, none⟩ = some (.string y.2)
theorem Acts.below {w w' : World} {N : Nat} {v : Value} {l : ActL} (h : Acts w N v l) (hb : Below w.heap.size w w') : Acts w' N v l := by
  obtain ⟨po, cap, h1, h2, h3⟩ := h
  refine ⟨po, cap, h1, h2, fun j y hj => ?_⟩
  obtain ⟨b, o, e, hn, hl, c1, c2⟩ := h3 j y hj
  exact ⟨b, o, e, hn, Nat.lt_of_lt_of_le hl hb.size, by rw [hb.cell (p := ⟨b, o + j * 2, none⟩) hl]; exact c1, by rw [hb.cell (p := ⟨b, o + j * 2 + 1, none⟩) hl]; exact c2⟩
theorem Acts.nil (w : World) (N : Nat) : Acts w N (.slice none 0 0) [] := ⟨none, 0, rfl, Nat.le_refl _, fun j y h => by simp at h⟩
end Go.Proofs.YtoijhecphgdfnaaGreatDoor

/-
  Lists of acts of a call's own: made, grown, kept.
-/
namespace Go.Proofs.YtoijhecphgdfnaaGreatDoor
open Go.RowKit

theorem below_drewN {B : Nat} {w w' : World} (h : Below B w w') (n : Nat) : Below B w (w'.drewN n) := h.trans ⟨rfl, rfl, rfl, Nat.le_refl _, fun _ _ => rfl⟩
def acells (y : Int × ByteArray) : List Value := [.int .i64 y.1, .string y.2]
def ActRow (w : World) (B : Nat) (v : Value) (l : ActL) : Prop := w.ownsRow B 103 2 v l.length (l.flatMap acells)
theorem actinfo : ∃ i z, Tryz.prog.info? 103 = some i ∧ i.zero = some z ∧ z.cells.size = 2 ∧ i.size = 2 ∧ i.bytes = 24 := by
  have h : (Tryz.prog.info? 103).map (fun i => (i.zero.map (fun z => z.cells.size), i.size, i.bytes)) = some (some 2, 2, 24) := by kernel_rfl
  obtain ⟨i, hi, e⟩ := Option.map_eq_some_iff.1 h
  simp only [Prod.mk.injEq] at e
  obtain ⟨z, hz, e1⟩ := Option.map_eq_some_iff.1 e.1
  exact ⟨i, z, hi, hz, e1, e.2.1, e.2.2⟩
theorem aflat_get : ∀ (xs : ActL) (k : Nat) (x : Int × ByteArray), xs[k]? = some x → ∀ q, q < 2 → (xs.flatMap acells)[k * 2 + q]? = (acells x)[q]?
  | [], k, x, h, q, hq => by simp at h
  | y :: r, 0, x, h, q, hq => by
    simp only [List.getElem?_cons_zero, Option.some.injEq] at h
    subst h
    rw [List.flatMap_cons, List.getElem?_append_left (by simp [acells]; omega)]
    simp
  | y :: r, k + 1, x, h, q, hq => by
    rw [List.getElem?_cons_succ] at h
    rw [List.flatMap_cons, List.getElem?_append_right (by simp [acells]; omega)]
    have := aflat_get r k x h q hq
    rw [← this]
    congr 1
    simp [acells]; omega
theorem ActRow.nil (w : World) (B : Nat) : ActRow w B (.slice none 0 0) [] := World.ownsRow_nil w B _ 2
theorem ActRow.isSlice {w : World} {B : Nat} {v : Value} {xs : ActL} (h : ActRow w B v xs) : ∃ a c, v = .slice a xs.length c ∧ xs.length ≤ c := by
  rcases h.2 with ⟨rfl, h0⟩ | ⟨g, cap, cur, rfl, _, _, hc, _⟩
  · exact ⟨none, 0, by rw [h0], by omega⟩
  · exact ⟨_, _, rfl, hc⟩
theorem ActRow.below {w w' : World} {B : Nat} {v : Value} {xs : ActL} (h : ActRow w B v xs) (hk : Below w.heap.size w w') : ActRow w' B v xs := by
  refine ⟨h.1, ?_⟩
  rcases h.2 with h | ⟨g, cap, cur, hv, hbg, hg, r⟩
  · exact Or.inl h
  · refine Or.inr ⟨g, cap, cur, hv, hbg, ?_, r⟩
    rw [hk.block g (by rcases Nat.lt_or_ge g w.heap.size with q | q
                       · exact q
                       · rw [Array.getElem?_eq_none q] at hg; cases hg)]
    exact hg
theorem ActRow.mono {w : World} {B C : Nat} {v : Value} {xs : ActL} (h : ActRow w B v xs) (hc : C ≤ B) : ActRow w C v xs := by
  refine ⟨h.1, ?_⟩
  rcases h.2 with h | ⟨g, cap, cur, hv, hbg, r⟩
  · exact Or.inl h
  · exact Or.inr ⟨g, cap, cur, hv, Nat.le_trans hc hbg, r⟩
theorem ActRow.acts {w : World} {B : Nat} {v : Value} {xs : ActL} (h : ActRow w B v xs) : Acts w B v xs := by
  obtain ⟨a, c, rfl, hc⟩ := h.isSlice
  refine ⟨a, c, rfl, hc, fun j y hj => ?_⟩
  have hcl := fun g e => World.ownsRow.cells h (g := g) e
  rcases h.2 with ⟨e, h0⟩ | ⟨g, cap, cur, e, hbg, hg, r⟩
  · have := List.getElem?_eq_none (l := xs) (i := j) (by omega); rw [this] at hj; cases hj
  · obtain ⟨rfl, rfl⟩ : a = some ⟨g, 0, none⟩ ∧ c = cap := by simpa using e
    have h0 := hcl g rfl (j * 2) (.int .i64 y.1) (by have := aflat_get xs j y hj 0 (by omega); simpa [acells] using this)
    have h1 := hcl g rfl (j * 2 + 1) (.string y.2) (by have := aflat_get xs j y hj 1 (by omega); simpa [acells] using this)
    rw [Addr.add_lit] at h0 h1
    refine ⟨g, 0, rfl, hbg, ?_, h0, by rw [← h1, Nat.add_assoc]⟩
    rcases Nat.lt_or_ge g w.heap.size with q | q
    · exact q
    · rw [Array.getElem?_eq_none q] at hg; cases hg
theorem ActRow.set {w : World} {B : Nat} {v : Value} {xs : ActL} (h : ActRow w B v xs) {p : Addr} {u : Value} (hp : ∀ g, v.ownBlock = some g → g ≠ p.block) : ActRow (w.setCell p u) B v xs := by
  refine ⟨h.1, ?_⟩
  rcases h.2 with h | ⟨g, cap, cur, rfl, hbg, hg, r⟩
  · exact Or.inl h
  · refine Or.inr ⟨g, cap, cur, rfl, hbg, ?_, r⟩
    rw [Below.heap_setCell w p u g (hp g rfl)]
    exact hg
/-- What the initiator's calls answer. -/
def AnsQ (x : Ans) (w : World) (r : Ending) (w' : World) : Prop := ∃ lv, r = .returned (.tuple #[.agg #[.int .i64 x.st, .int .i64 x.lf], lv, .int .i64 x.n]) ∧ ActRow w' w.heap.size lv x.l ∧ Below w.heap.size w w'
def AnsQ4 (x : Ans) (w : World) (r : Ending) (w' : World) : Prop := ∃ lv, r = .returned (.tuple #[.agg #[.int .i64 x.st, .int .i64 x.lf], lv, .int .i64 x.at_, .int .i64 x.n]) ∧ ActRow w' w.heap.size lv x.l ∧ Below w.heap.size w w'
theorem Box.new' (w : World) (cs : Array Value) (t : TypeId) (n : Nat) (hn : w.heap.size = n) : Box (w.alloc (.cells cs t)) n cs := hn ▸ Box.new w cs t
theorem Box.belowB {w w' : World} {b B : Nat} {cs : Array Value} (h : Box w b cs) (hb : Below B w w') (hB : b < B) (hw : B ≤ w.heap.size) : Box w' b cs :=
  ⟨by have := hb.size; omega, fun o => by rw [hb.cell (p := ⟨b, o, none⟩) hB]; exact h.cell o, fun o => by rw [hb.frozen (p := ⟨b, o, none⟩) hB]; exact h.free o⟩
theorem ActRow.ne {w : World} {B : Nat} {v : Value} {xs : ActL} (h : ActRow w B v xs) {g : Nat} (hg : v.ownBlock = some g) : B ≤ g := by
  rcases h.2 with ⟨rfl, _⟩ | ⟨g', cap, cur, rfl, hbg, _⟩
  · cases hg
  · simp [Value.ownBlock] at hg; omega
/-- A literal list. -/
theorem ActRow.lit (w : World) (l : ActL) (n : Nat) (cs : Array Value) (hn : n = l.length) (hc : cs = (l.flatMap acells).toArray) (hl : l.length ≤ 100) (h0 : 0 < l.length) : ActRow (w.alloc (.cells cs 103)) w.heap.size (.slice (some ⟨w.heap.size, 0, none⟩) n n) l := by
  subst hn hc
  have hfl : (l.flatMap acells).length = l.length * 2 := by
    clear h0 hl
    induction l with
    | nil => rfl
    | cons y r ih => rw [List.flatMap_cons, List.length_append, ih, List.length_cons]; simp [acells]; omega
  refine ⟨hfl, Or.inr ⟨w.heap.size, l.length, (l.flatMap acells).toArray, rfl, Nat.le_refl _, ?_, Nat.le_refl _, by unfold maxLen; omega, ?_, ?_⟩⟩
  · show (w.heap.push _)[w.heap.size]? = _
    simp
  · simp [hfl]
  · rw [← hfl]; exact List.take_length
theorem ActRow.lit' (w : World) (B : Nat) (l : ActL) (b n : Nat) (cs : Array Value) (hb : w.heap.size = b) (hB : B ≤ b) (hn : n = l.length) (hc : cs = (l.flatMap acells).toArray) (hl : l.length ≤ 100) (h0 : 0 < l.length) : ActRow (w.alloc (.cells cs 103)) B (.slice (some ⟨b, 0, none⟩) n n) l :=
  (hb ▸ ActRow.lit w l n cs hn hc hl h0 : ActRow (w.alloc (.cells cs 103)) b (.slice (some ⟨b, 0, none⟩) n n) l).mono hB
theorem below_grown {w w' : World} {B : Nat} {row : Option Nat} (h : w.grownBy w' row) (hB : B ≤ w.heap.size) (hr : ∀ g, row = some g → B ≤ g) : Below B w w' :=
  ⟨h.os, h.tape, h.output, h.size, fun k hk => h.block k (by omega) (fun e => by have := hr k e.symm; omega)⟩
/-- One more act. -/
theorem run_apush {w : World} {B : Nat} {v : Value} {xs : ActL} (h : ActRow w B v xs) (hB : B ≤ w.heap.size) (hl : xs.length + 1 ≤ 100) (y : Int × ByteArray) (cs : Array Value) (hcs : cs = (acells y).toArray) :
    ∃ a c w', (Builtin.append_ #[132, 132] 132 #[v, .slice (some ⟨w.heap.size, 0, none⟩) 1 1]).run Tryz.prog (w.alloc (.cells cs 103)) = .ok (.slice a (xs.length + 1) c) w' ∧ ActRow w' B (.slice a (xs.length + 1) c) (xs ++ [y]) ∧ Below B w w' := by
  subst hcs
  obtain ⟨i, z, hi, hz, hzs, hs, hby⟩ := actinfo
  have bW : Below w.heap.size w (w.alloc (.cells (acells y).toArray 103)) := (Below.refl _ _).alloc (Nat.le_refl _) _
  have hrow : ActRow (w.alloc (.cells (acells y).toArray 103)) B v xs := h.below bW
  obtain ⟨v', w', hr, r, hg, _⟩ := run_append_own (P := Tryz.prog) (w.alloc (.cells (acells y).toArray 103)) B 132 132 103 i z 2 24 Tryz.underlying132 hi hz hs hby hzs (by omega) v xs.length (xs.flatMap acells) hrow ⟨w.heap.size, 0, none⟩ 1 1 (acells y) rfl (fun j u hu => by
      rw [show (⟨w.heap.size, 0, none⟩ : Addr).add j = ⟨w.heap.size, j, none⟩ by rw [Addr.add_lit, Nat.zero_add], cell_new]
      simpa using hu) (fun u hu => by simp only [acells, List.mem_cons, List.not_mem_nil, or_false] at hu; rcases hu with rfl | rfl <;> rfl) (by unfold maxLen; omega) (by omega) (by simp; omega)
  have hR : ActRow w' B v' (xs ++ [y]) := by
    unfold ActRow
    simpa using r
  obtain ⟨a, c, rfl, _⟩ := hR.isSlice
  simp only [List.length_append, List.length_singleton] at hr hR
  refine ⟨a, c, w', hr, hR, ?_⟩
  refine Below.trans ⟨bW.os, bW.tape, bW.output, bW.size, fun k hk => bW.block k (by omega)⟩ (below_grown hg (by simp; omega) (fun g e => ?_))
  rcases h.2 with ⟨rfl, h0⟩ | ⟨g', cap, cur, rfl, hbg, _⟩
  · cases e
  · simp [Value.ownBlock] at e; omega
/-- Worlds that keep what lies in V. -/
def Sub (V : World) : Type := { x : World // Below V.heap.size V x }
theorem wp_region_class {P : Program} {V : World} {id : Nat} {Q : Exit → Act → World → Prop} {a : Act} {w : World} {l : List Oper} (hw : Below V.heap.size V w) (hm : P.follows .mixedOrders = true) (hB : Region.lexB .any l.toArray = true)
    (h : wpQuiet P l.toArray (fun w' => ∃ x : Sub V, w' = x.1) (fun a' => ∀ w', (∃ x : Sub V, w' = x.1) → Q .normal a' w') l a) : (Code.region id l.toArray true).wp P Q a w :=
  wp_region_quiet (C := fun w' => ∃ x : Sub V, w' = x.1) hm hB ⟨⟨_, Below.drew hw⟩, rfl⟩ (by simpa using h)
theorem sub_of {P : Program} {f : FuncId} {args : Array Value} {R : Ending} {V : World} (c : ∀ w, Calls P f args w fun r w' => r = R ∧ Below w.heap.size w w') (x : Sub V) : Calls P f args x.1 fun r x' => r = R ∧ ∃ y : Sub V, x' = y.1 :=
  (c x.1).mono fun _ x' ⟨h, hb⟩ => ⟨h, ⟨x', below_then x.2 hb⟩, rfl⟩
theorem sub_box {V : World} {b : Nat} {cs : Array Value} (h : Box V b cs) (x : Sub V) (o : Nat) : x.1.cell? ⟨b, o, none⟩ = cs[o]? := (h.below x.2).cell o
/-- append, in the walk, by an equation of its run. -/
theorem wpList_append_run {P : Program} {w w' : World} {ops : Array Oper} {rest : List Oper} {o : Oper} {a : Act} {Q : Exit → Act → World → Prop} (hgd : o.guard = none) (s x : Operand) (t : TypeId) (v' : Value)
    (ho : o.op = .call { callee := .builtin .append, args := #[s, x], argTypes := #[t, t] }) (hr : (Builtin.append_ #[t, t] o.type #[a.eval s, a.eval x]).run P w = .ok v' w') (h : wpList P ops Q rest (a.put o.dst v') w') : wpList P ops Q (o :: rest) a w :=
  wpList_plain hgd fun _ hK => by
    unfold Oper.wp execOp
    simp only [ho, resolve, invoke, builtin, Sem.run_bind, Sem.run_pure, Result.andThen_ok, List.map_toArray, List.map_cons, List.map_nil, hr]
    exact hK _ _ h
end Go.Proofs.YtoijhecphgdfnaaGreatDoor
