import Derived.Test.YtoijhecphgdfnaaDoorProg
import Derived.WalkKit
import Derived.WalkSpells
import Derived.WalkLawsBesides
import Derived.RowKitTokens
import Derived.Lib.IndexAny
import Derived.BigQuiet
import Derived.Deep.QuietTactic
import Derived.Deep.RegionWith
import Derived.LoopTactic
import Derived.Laws.Cells
/-
  decide as plain data: which conditions are right, which code is sent under them, what a want does. Of no program.
-/
namespace Go.Proofs.YtoijhecphgdfnaaDoor
open Go.RowKit

/-- The six codes. -/
abbrev kCA : ByteArray := ⟨#[67, 65]⟩
abbrev kCE : ByteArray := ⟨#[67, 69]⟩
abbrev kCR : ByteArray := ⟨#[67, 82]⟩
abbrev kAA : ByteArray := ⟨#[65, 65]⟩
abbrev kAE : ByteArray := ⟨#[65, 69]⟩
abbrev kAR : ByteArray := ⟨#[65, 82]⟩
/-- Conditions that are right; what is sent, and may come. -/
def okB (e : Bool) (a p : Int) : Bool := decide (0 ≤ a ∧ a ≤ 3 ∧ 0 ≤ p ∧ p ≤ 3) && (e || (decide (a = 0) && decide (p = 0)))
def caB (e : Bool) (a : Int) : Bool := e && (decide (a = 1) || decide (a = 3))
def ceB (e : Bool) (a : Int) : Bool := e && (decide (a = 1) || decide (a = 2))
def aaB (e : Bool) (p : Int) : Bool := !e || (decide (p = 1) || decide (p = 3))
def aeB (e : Bool) (p : Int) : Bool := !e || (decide (p = 1) || decide (p = 2))
/-- A code's number: 0 of any other text. -/
def codeN (s : ByteArray) : Nat := if s = kCA then 1 else if s = kCE then 2 else if s = kCR then 3 else if s = kAA then 4 else if s = kAE then 5 else if s = kAR then 6 else 0
def sentN (e : Bool) (a p : Int) (k : Nat) : Bool := if k = 1 then caB e a else if k = 2 then ceB e a else if k = 3 then ceB e a else if k = 4 then aaB e p else if k = 5 then aeB e p else if k = 6 then aeB e p else false
def sentB (e : Bool) (a p : Int) (s : ByteArray) : Bool := sentN e a p (codeN s)
def earB (e : Bool) (a p : Int) (came : Bool) : Bool := !aaB e p && (if caB e a then came && decide (p = 2) else decide (a = 2) || decide (p = 2))
def fitB (e : Bool) (a p st lf : Int) : Bool :=
  decide (1 ≤ st ∧ st ≤ 6 ∧ 0 ≤ lf ∧ lf ≤ 16) && (if st = 1 then caB e a else if st = 2 then aaB e p else if st = 3 then earB e a p (caB e a) else if st = 6 then caB e a || aaB e p else true)
def verB (s : ByteArray) : Bool := s.toList == [65, 65] || s.toList == [65, 69] || s.toList == [65, 82]
def keptB (d : Bool) (s : ByteArray) : Bool := if d then verB s else s.toList.isEmpty

/-- A text that is none of the six. -/
structure Oth (s : ByteArray) : Prop where
  h1 : (s.toList == [67, 65]) = false
  h2 : (s.toList == [67, 69]) = false
  h3 : (s.toList == [67, 82]) = false
  h4 : (s.toList == [65, 65]) = false
  h5 : (s.toList == [65, 69]) = false
  h6 : (s.toList == [65, 82]) = false
theorem str_ne {s : ByteArray} {l : List UInt8} (h : ¬ s = ⟨l.toArray⟩) : (s.toList == l) = false := by
  rw [Lib.toList_data]
  refine beq_eq_false_iff_ne.2 fun g => h ?_
  obtain ⟨⟨d⟩⟩ := s
  have g' : d = l := g
  rw [g']
theorem code_cases (s : ByteArray) : s = ⟨#[67, 65]⟩ ∨ s = ⟨#[67, 69]⟩ ∨ s = ⟨#[67, 82]⟩ ∨ s = ⟨#[65, 65]⟩ ∨ s = ⟨#[65, 69]⟩ ∨ s = ⟨#[65, 82]⟩ ∨ (Oth s ∧ codeN s = 0) := by
  by_cases h1 : s = kCA
  · exact Or.inl h1
  by_cases h2 : s = kCE
  · exact Or.inr (Or.inl h2)
  by_cases h3 : s = kCR
  · exact Or.inr (Or.inr (Or.inl h3))
  by_cases h4 : s = kAA
  · exact Or.inr (Or.inr (Or.inr (Or.inl h4)))
  by_cases h5 : s = kAE
  · exact Or.inr (Or.inr (Or.inr (Or.inr (Or.inl h5))))
  by_cases h6 : s = kAR
  · exact Or.inr (Or.inr (Or.inr (Or.inr (Or.inr (Or.inl h6)))))
  refine Or.inr (Or.inr (Or.inr (Or.inr (Or.inr (Or.inr ⟨⟨str_ne h1, str_ne h2, str_ne h3, str_ne h4, str_ne h5, str_ne h6⟩, ?_⟩)))))
  unfold codeN; rw [if_neg h1, if_neg h2, if_neg h3, if_neg h4, if_neg h5, if_neg h6]

/-- A condition's word. -/
def wordI (s : ByteArray) : Int := if (s.toList == [65, 76]) = true then 1 else if (s.toList == [69, 82]) = true then 2 else if (s.toList == [83, 85]) = true then 3 else 0
def wordK (s : ByteArray) : Bool := s.toList.isEmpty || s.toList == [78, 69] || s.toList == [65, 76] || s.toList == [69, 82] || s.toList == [83, 85]
/-- The words of conditions: none of the original mode. -/
def textB (e : Bool) (a : Int) : ByteArray := if e = true then (if a = 0 then ⟨#[78, 69]⟩ else if a = 1 then ⟨#[65, 76]⟩ else if a = 2 then ⟨#[69, 82]⟩ else ⟨#[83, 85]⟩) else ⟨#[]⟩
/-- What Mode answers: conditions, the error's place and number. -/
structure AnsM where
  e : Bool
  a : Int
  p : Int
  at_ : Int
  n : Int
def modeS (s t : ByteArray) : AnsM :=
  if wordK s = false then ⟨false, 0, 0, 15, 220⟩ else if wordK t = false then ⟨false, 0, 0, 16, 220⟩ else if (s.toList.isEmpty && t.toList.isEmpty) = true then ⟨false, 0, 0, 0, 0⟩ else ⟨true, wordI s, wordI t, 0, 0⟩
/-- The error of conditions. -/
def errN (e : Bool) (a p : Int) : Int := if okB e a p = true then 0 else 220
/-- Refuse's code. -/
def refC (e h : Bool) : ByteArray := if e = true then (if h = true then ⟨#[67, 82]⟩ else ⟨#[67, 69]⟩) else (if h = true then ⟨#[65, 82]⟩ else ⟨#[65, 69]⟩)

abbrev ActL := List (Int × ByteArray)
/-- What a call of the initiator's answers: state, left, acts, the error's place and number. -/
structure Ans where
  st : Int
  lf : Int
  l : ActL
  at_ : Int
  n : Int
abbrev nT : ByteArray := ⟨#[]⟩
def startS (e : Bool) (a p t : Int) (noted : Bool) : Ans :=
  if okB e a p = false then ⟨0, 0, [], 0, 220⟩ else if ¬ (0 ≤ t ∧ t ≤ 16) then ⟨0, 0, [], 0, 224⟩ else
  if (noted && !caB e a) = true then ⟨0, 0, [], 1, 220⟩ else
  if (caB e a && !noted) = true then ⟨1, t, [(1, nT), (2, nT)], 0, 0⟩ else
  if aaB e p = true then ⟨2, t, [(1, nT), (2, nT)], 0, 0⟩ else
  if earB e a p noted = true then ⟨3, t, [(1, nT), (2, nT)], 0, 0⟩ else
  if noted = true then ⟨4, t, [(1, nT), (4, kCA)], 0, 0⟩ else ⟨5, t, [(1, nT), (4, nT)], 0, 0⟩
def heardS (e : Bool) (a p st lf : Int) (s : ByteArray) (number : Bool) : Ans :=
  if okB e a p = false then ⟨0, 0, [], 0, 220⟩ else if fitB e a p st lf = false then ⟨0, 0, [], 0, 222⟩ else
  if (decide (4 ≤ st) || !sentB e a p s) = true then ⟨st, lf, [(6, nT)], 0, 0⟩ else
  if (s.toList == [67, 65]) = true then
    (if st = 1 then (if aaB e p = true then ⟨2, lf, [(3, nT)], 0, 0⟩ else if p = 2 then ⟨3, lf, [(3, nT), (2, nT)], 0, 0⟩ else ⟨4, lf, [(4, kCA)], 0, 0⟩) else ⟨st, lf, [], 0, 0⟩)
  else if (number && (s.toList == [67, 69] || s.toList == [65, 69])) = true then
    (if (caB e a && !decide (st = 1)) = true then ⟨st, lf, [(6, nT)], 0, 0⟩ else if 0 < lf then ⟨st, lf - 1, [(5, nT), (1, nT), (2, nT)], 0, 0⟩ else ⟨4, lf, [(4, s)], 0, 0⟩)
  else ⟨4, lf, [(4, s)], 0, 0⟩
def dueS (e : Bool) (a p st lf : Int) : Ans :=
  if okB e a p = false then ⟨0, 0, [], 0, 220⟩ else if fitB e a p st lf = false then ⟨0, 0, [], 0, 222⟩ else
  if 4 ≤ st then ⟨st, lf, [], 0, 0⟩ else if st = 3 then ⟨5, lf, [(4, nT)], 0, 0⟩ else if 0 < lf then ⟨st, lf - 1, [(1, nT), (2, nT)], 0, 0⟩ else ⟨6, 0, [(4, nT)], 0, 0⟩
/-- What the responder's calls answer: decided, code, acts, the error's number. -/
structure Ans2 where
  d : Bool
  c : ByteArray
  l : ActL
  n : Int
def caL (e : Bool) (a : Int) : ActL := if caB e a = true then [(7, kCA)] else []
def takeS (e : Bool) (a p : Int) : Ans2 := if okB e a p = false then ⟨false, nT, [], 220⟩ else ⟨false, nT, caL e a ++ [(8, nT)], 0⟩
def judgeS (e : Bool) (a p : Int) (d : Bool) (c s : ByteArray) : Ans2 :=
  if okB e a p = false then ⟨false, nT, [], 220⟩ else if (!keptB d c || d) = true then ⟨false, nT, [], 223⟩ else if verB s = false then ⟨false, nT, [], 221⟩ else
  ⟨true, s, if sentB e a p s = true then [(9, s)] else [], 0⟩
def copyS (e : Bool) (a p : Int) (d : Bool) (c : ByteArray) : Ans2 :=
  if okB e a p = false then ⟨false, nT, [], 220⟩ else if keptB d c = false then ⟨false, nT, [], 223⟩ else
  ⟨false, nT, caL e a ++ (if (d && sentB e a p c) = true then [(9, c)] else []), 0⟩
end Go.Proofs.YtoijhecphgdfnaaDoor

/-
  The document's leaves: Right, sent, commit, app, ear, fits, verdict, kept.
-/
namespace Go.Proofs.YtoijhecphgdfnaaDoor
open Go.RowKit

theorem ret_bool {a b : Bool} (h : a = b) : Ending.returned (.bool a) = .returned (.bool b) := by rw [h]
theorem ret_int {k : IntKind} {a b : Int} (h : a = b) : Ending.returned (.int k a) = .returned (.int k b) := by rw [h]
theorem below_then {w a b : World} (h : Below w.heap.size w a) (g : Below a.heap.size a b) : Below w.heap.size w b := h.trans (g.mono h.size)
theorem ok_of {e : Bool} {a p : Int} (h : okB e a p = true) : 0 ≤ a ∧ a ≤ 3 ∧ 0 ≤ p ∧ p ≤ 3 ∧ (e = true ∨ (a = 0 ∧ p = 0)) := by
  unfold okB at h
  simp at h
  obtain ⟨⟨h1, h2, h3, h4⟩, h5⟩ := h
  exact ⟨h1, h2, h3, h4, h5⟩
/-- A block of one's own. -/
structure Box (w : World) (b : Nat) (cs : Array Value) : Prop where
  lt : b < w.heap.size
  cell : ∀ o, w.cell? ⟨b, o, none⟩ = cs[o]?
  free : ∀ o, w.frozen? ⟨b, o, none⟩ = false
theorem cell_new (w : World) (cs : Array Value) (t : TypeId) (j : Nat) : (w.alloc (.cells cs t)).cell? ⟨w.heap.size, j, none⟩ = cs[j]? := by
  have hb : (w.alloc (.cells cs t)).heap[w.heap.size]? = some (.cells cs t) := by show (w.heap.push _)[w.heap.size]? = _; simp
  unfold World.cell?
  rw [hb]
  rfl
theorem Box.new (w : World) (cs : Array Value) (t : TypeId) : Box (w.alloc (.cells cs t)) w.heap.size cs :=
  ⟨by simp, cell_new w cs t, fun o => by simp⟩
theorem Box.below {w w' : World} {b : Nat} {cs : Array Value} (h : Box w b cs) (hb : Below w.heap.size w w') : Box w' b cs :=
  ⟨Nat.lt_of_lt_of_le h.lt hb.size, fun o => by rw [hb.cell (p := ⟨b, o, none⟩) h.lt]; exact h.cell o, fun o => by rw [hb.frozen (p := ⟨b, o, none⟩) h.lt]; exact h.free o⟩
theorem Box.alloc {w : World} {b : Nat} {cs : Array Value} (h : Box w b cs) (x : Obj) : Box (w.alloc x) b cs := h.below ((Below.refl _ _).alloc (Nat.le_refl _) _)
set_option maxHeartbeats 1000000 in
theorem rRight_any (e : Bool) (a p : Int) (w : World) : Calls Tryd.prog 28 #[.agg #[.bool e, .int .i64 a, .int .i64 p]] w fun r w' => r = .returned (.bool (okB e a p)) ∧ Below w.heap.size w w' := by
  cases e
  all_goals
    go_enter Tryd.func28, Tryd.ntmps28
    go_wp2
    all_goals (go_ret; exact ⟨ret_bool (by unfold okB; rw [Bool.eq_iff_iff]; simp; try (first | omega | (intros; omega))), (Below.refl _ _).alloc (Nat.le_refl _) _⟩)
theorem sent_1 (e : Bool) (a p : Int) : sentB e a p ⟨#[67, 65]⟩ = caB e a := by unfold sentB; rw [show codeN ⟨#[67, 65]⟩ = 1 by decide]; rfl
set_option maxHeartbeats 1000000 in
theorem rSent_1 (e : Bool) (a p : Int) (w : World) : Calls Tryd.prog 57 #[.agg #[.bool e, .int .i64 a, .int .i64 p], .string ⟨#[67, 65]⟩] w fun r w' => r = .returned (.bool (caB e a)) ∧ Below w.heap.size w w' := by
  cases e
  all_goals
    go_enter Tryd.func57, Tryd.ntmps57
    go_wp2
    all_goals (go_ret; exact ⟨ret_bool (by unfold caB; rw [Bool.eq_iff_iff]; simp; try (first | omega | (intros; omega))), (Below.refl _ _).alloc (Nat.le_refl _) _⟩)
theorem sent_2 (e : Bool) (a p : Int) : sentB e a p ⟨#[67, 69]⟩ = ceB e a := by unfold sentB; rw [show codeN ⟨#[67, 69]⟩ = 2 by decide]; rfl
set_option maxHeartbeats 1000000 in
theorem rSent_2 (e : Bool) (a p : Int) (w : World) : Calls Tryd.prog 57 #[.agg #[.bool e, .int .i64 a, .int .i64 p], .string ⟨#[67, 69]⟩] w fun r w' => r = .returned (.bool (ceB e a)) ∧ Below w.heap.size w w' := by
  cases e
  all_goals
    go_enter Tryd.func57, Tryd.ntmps57
    go_wp2
    all_goals (go_ret; exact ⟨ret_bool (by unfold ceB; rw [Bool.eq_iff_iff]; simp; try (first | omega | (intros; omega))), (Below.refl _ _).alloc (Nat.le_refl _) _⟩)
theorem sent_3 (e : Bool) (a p : Int) : sentB e a p ⟨#[67, 82]⟩ = ceB e a := by unfold sentB; rw [show codeN ⟨#[67, 82]⟩ = 3 by decide]; rfl
set_option maxHeartbeats 1000000 in
theorem rSent_3 (e : Bool) (a p : Int) (w : World) : Calls Tryd.prog 57 #[.agg #[.bool e, .int .i64 a, .int .i64 p], .string ⟨#[67, 82]⟩] w fun r w' => r = .returned (.bool (ceB e a)) ∧ Below w.heap.size w w' := by
  cases e
  all_goals
    go_enter Tryd.func57, Tryd.ntmps57
    go_wp2
    all_goals (go_ret; exact ⟨ret_bool (by unfold ceB; rw [Bool.eq_iff_iff]; simp; try (first | omega | (intros; omega))), (Below.refl _ _).alloc (Nat.le_refl _) _⟩)
theorem sent_4 (e : Bool) (a p : Int) : sentB e a p ⟨#[65, 65]⟩ = aaB e p := by unfold sentB; rw [show codeN ⟨#[65, 65]⟩ = 4 by decide]; rfl
set_option maxHeartbeats 1000000 in
theorem rSent_4 (e : Bool) (a p : Int) (w : World) : Calls Tryd.prog 57 #[.agg #[.bool e, .int .i64 a, .int .i64 p], .string ⟨#[65, 65]⟩] w fun r w' => r = .returned (.bool (aaB e p)) ∧ Below w.heap.size w w' := by
  cases e
  all_goals
    go_enter Tryd.func57, Tryd.ntmps57
    go_wp2
    all_goals (go_ret; exact ⟨ret_bool (by unfold aaB; rw [Bool.eq_iff_iff]; simp; try (first | omega | (intros; omega))), (Below.refl _ _).alloc (Nat.le_refl _) _⟩)
theorem sent_5 (e : Bool) (a p : Int) : sentB e a p ⟨#[65, 69]⟩ = aeB e p := by unfold sentB; rw [show codeN ⟨#[65, 69]⟩ = 5 by decide]; rfl
set_option maxHeartbeats 1000000 in
theorem rSent_5 (e : Bool) (a p : Int) (w : World) : Calls Tryd.prog 57 #[.agg #[.bool e, .int .i64 a, .int .i64 p], .string ⟨#[65, 69]⟩] w fun r w' => r = .returned (.bool (aeB e p)) ∧ Below w.heap.size w w' := by
  cases e
  all_goals
    go_enter Tryd.func57, Tryd.ntmps57
    go_wp2
    all_goals (go_ret; exact ⟨ret_bool (by unfold aeB; rw [Bool.eq_iff_iff]; simp; try (first | omega | (intros; omega))), (Below.refl _ _).alloc (Nat.le_refl _) _⟩)
theorem sent_6 (e : Bool) (a p : Int) : sentB e a p ⟨#[65, 82]⟩ = aeB e p := by unfold sentB; rw [show codeN ⟨#[65, 82]⟩ = 6 by decide]; rfl
set_option maxHeartbeats 1000000 in
theorem rSent_6 (e : Bool) (a p : Int) (w : World) : Calls Tryd.prog 57 #[.agg #[.bool e, .int .i64 a, .int .i64 p], .string ⟨#[65, 82]⟩] w fun r w' => r = .returned (.bool (aeB e p)) ∧ Below w.heap.size w w' := by
  cases e
  all_goals
    go_enter Tryd.func57, Tryd.ntmps57
    go_wp2
    all_goals (go_ret; exact ⟨ret_bool (by unfold aeB; rw [Bool.eq_iff_iff]; simp; try (first | omega | (intros; omega))), (Below.refl _ _).alloc (Nat.le_refl _) _⟩)
set_option maxHeartbeats 1000000 in
theorem rSent_0 (e : Bool) (a p : Int) (s : ByteArray) (w : World) (h : Oth s) : Calls Tryd.prog 57 #[.agg #[.bool e, .int .i64 a, .int .i64 p], .string s] w fun r w' => r = .returned (.bool false) ∧ Below w.heap.size w w' := by
  obtain ⟨h1, h2, h3, h4, h5, h6⟩ := h
  go_enter Tryd.func57, Tryd.ntmps57
  go_wp2
  all_goals (go_ret; exact ⟨rfl, (Below.refl _ _).alloc (Nat.le_refl _) _⟩)
theorem rSent_any (e : Bool) (a p : Int) (s : ByteArray) (w : World) : Calls Tryd.prog 57 #[.agg #[.bool e, .int .i64 a, .int .i64 p], .string s] w fun r w' => r = .returned (.bool (sentB e a p s)) ∧ Below w.heap.size w w' := by
  rcases code_cases s with rfl | rfl | rfl | rfl | rfl | rfl | ⟨h, h0⟩
  · exact rSent_1 e a p w
  · rw [sent_2]; exact rSent_2 e a p w
  · rw [sent_3]; exact rSent_3 e a p w
  · rw [sent_4]; exact rSent_4 e a p w
  · rw [sent_5]; exact rSent_5 e a p w
  · rw [sent_6]; exact rSent_6 e a p w
  · unfold sentB; rw [h0]; exact rSent_0 e a p s w h
end Go.Proofs.YtoijhecphgdfnaaDoor

/-
  Errors of layer "decide", lists of acts in memory; the law's refused, same.
-/
namespace Go.Proofs.YtoijhecphgdfnaaDoor
open Go.RowKit

theorem cell_lt {w : World} {a : Addr} {v : Value} (h : w.cell? a = some v) : a.block < w.heap.size := by
  rcases Nat.lt_or_ge a.block w.heap.size with g | g
  · exact g
  · simp [World.cell?, Array.getElem?_eq_none g] at h
/-- The cells of a fault of layer "decide". -/
def DFault (w : World) (b : Nat) (a code : Int) : Prop :=
  w.cell? ⟨b, 0, none⟩ = some (.string ⟨#[100, 101, 99, 105, 100, 101]⟩) ∧ w.cell? ⟨b, 1, none⟩ = some (.int .i64 a) ∧ w.cell? ⟨b, 2, none⟩ = some (.int .i64 code) ∧ w.cell? ⟨b, 3, none⟩ = some .nilIface
theorem DFault.below {w w' : World} {b : Nat} {a c : Int} (h : DFault w b a c) (hb : Below w.heap.size w w') : DFault w' b a c := by
  have hl : b < w.heap.size := cell_lt h.1
  have hc : ∀ o, w'.cell? ⟨b, o, none⟩ = w.cell? ⟨b, o, none⟩ := fun o => hb.cell (p := ⟨b, o, none⟩) hl
  exact ⟨by rw [hc]; exact h.1, by rw [hc]; exact h.2.1, by rw [hc]; exact h.2.2.1, by rw [hc]; exact h.2.2.2⟩
/-- An error that is just that: none where the number is 0. -/
def Ev (w : World) (v : Value) (a code : Int) : Prop := (v = .nilIface ∧ code = 0) ∨ (code ≠ 0 ∧ ∃ b, v = .iface 91 (.pointer (some ⟨b, 0, none⟩)) ∧ DFault w b a code)
theorem Ev.below {w w' : World} {v : Value} {a c : Int} (h : Ev w v a c) (hb : Below w.heap.size w w') : Ev w' v a c := by
  rcases h with h | ⟨h0, b, h1, h2⟩
  · exact Or.inl h
  · exact Or.inr ⟨h0, b, h1, h2.below hb⟩
theorem Ev.drewN {w : World} {v : Value} {a c : Int} (h : Ev w v a c) (n : Nat) : Ev (w.drewN n) v a c := h
theorem asFault (v : Value) (xT : TypeId) (w : World) : (Instr.typeAssert (.iface 91 v) xT 91 true).run Tryd.prog w = .ok (.tuple #[v, .bool true]) w := by
  simp [Instr.typeAssert, run_underlying Tryd.underlying91, go_sem, Result.andThen]
/-- A list of acts in memory, from block N on. -/
def Acts (w : World) (N : Nat) (v : Value) (l : ActL) : Prop :=
  ∃ po cap, v = .slice po l.length cap ∧ l.length ≤ cap ∧ ∀ j y, l[j]? = some y → ∃ b o, po = some ⟨b, o, none⟩ ∧ N ≤ b ∧ b < w.heap.size ∧ w.cell? ⟨b, o + j * 2, none⟩ = some (.int .i64 y.1) ∧ w.cell? ⟨b, o + j * 2 + 1, none⟩ = some (.string y.2)
theorem Acts.below {w w' : World} {N : Nat} {v : Value} {l : ActL} (h : Acts w N v l) (hb : Below w.heap.size w w') : Acts w' N v l := by
  obtain ⟨po, cap, h1, h2, h3⟩ := h
  refine ⟨po, cap, h1, h2, fun j y hj => ?_⟩
  obtain ⟨b, o, e, hn, hl, c1, c2⟩ := h3 j y hj
  exact ⟨b, o, e, hn, Nat.lt_of_lt_of_le hl hb.size, by rw [hb.cell (p := ⟨b, o + j * 2, none⟩) hl]; exact c1, by rw [hb.cell (p := ⟨b, o + j * 2 + 1, none⟩) hl]; exact c2⟩
theorem Acts.nil (w : World) (N : Nat) : Acts w N (.slice none 0 0) [] := ⟨none, 0, rfl, Nat.le_refl _, fun j y h => by simp at h⟩
end Go.Proofs.YtoijhecphgdfnaaDoor
