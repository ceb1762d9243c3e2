/-
  decide as plain data: which conditions are right, which code is sent under them, what a want does. Of no program.
-/
import Derived.Test.YtkngafnfenmfeaaDoorProg
import Derived.WalkKit
import Derived.WalkSpells
import Derived.WalkLawsBesides
import Derived.RowKitTokens
import Derived.Lib.IndexAny
namespace Go.Proofs.YtkngafnfenmfeaaDoor
open Go.RowKit

/-- The six codes. -/
abbrev kCA : ByteArray := ⟨#[67, 65]⟩
abbrev kCE : ByteArray := ⟨#[67, 69]⟩
abbrev kCR : ByteArray := ⟨#[67, 82]⟩
abbrev kAA : ByteArray := ⟨#[65, 65]⟩
abbrev kAE : ByteArray := ⟨#[65, 69]⟩
abbrev kAR : ByteArray := ⟨#[65, 82]⟩
/-- Conditions that are right; what is sent, and may come. -/
def okB (e : Bool) (a p : Int) : Bool := decide (0 ≤ a ∧ a ≤ 3 ∧ 0 ≤ p ∧ p ≤ 3) && (e || (decide (a = 0) && decide (p = 0)))
def caB (e : Bool) (a : Int) : Bool := e && (decide (a = 1) || decide (a = 3))
def ceB (e : Bool) (a : Int) : Bool := e && (decide (a = 1) || decide (a = 2))
def aaB (e : Bool) (p : Int) : Bool := !e || (decide (p = 1) || decide (p = 3))
def aeB (e : Bool) (p : Int) : Bool := !e || (decide (p = 1) || decide (p = 2))
/-- A code's number: 0 of any other text. -/
def codeN (s : ByteArray) : Nat := if s = kCA then 1 else if s = kCE then 2 else if s = kCR then 3 else if s = kAA then 4 else if s = kAE then 5 else if s = kAR then 6 else 0
def sentN (e : Bool) (a p : Int) (k : Nat) : Bool := if k = 1 then caB e a else if k = 2 then ceB e a else if k = 3 then ceB e a else if k = 4 then aaB e p else if k = 5 then aeB e p else if k = 6 then aeB e p else false
def sentB (e : Bool) (a p : Int) (s : ByteArray) : Bool := sentN e a p (codeN s)
def earB (e : Bool) (a p : Int) (came : Bool) : Bool := !aaB e p && (if caB e a then came && decide (p = 2) else decide (a = 2) || decide (p = 2))
def fitB (e : Bool) (a p st lf : Int) : Bool :=
  decide (1 ≤ st ∧ st ≤ 6 ∧ 0 ≤ lf ∧ lf ≤ 16) && (if st = 1 then caB e a else if st = 2 then aaB e p else if st = 3 then earB e a p (caB e a) else if st = 6 then caB e a || aaB e p else true)
def verB (s : ByteArray) : Bool := s.toList == [65, 65] || s.toList == [65, 69] || s.toList == [65, 82]
def keptB (d : Bool) (s : ByteArray) : Bool := if d then verB s else s.toList.isEmpty

/-- A text that is none of the six. -/
structure Oth (s : ByteArray) : Prop where
  h1 : (s.toList == [67, 65]) = false
  h2 : (s.toList == [67, 69]) = false
  h3 : (s.toList == [67, 82]) = false
  h4 : (s.toList == [65, 65]) = false
  h5 : (s.toList == [65, 69]) = false
  h6 : (s.toList == [65, 82]) = false
theorem str_ne {s : ByteArray} {l : List UInt8} (h : ¬ s = ⟨l.toArray⟩) : (s.toList == l) = false := by
  rw [Lib.toList_data]
  refine beq_eq_false_iff_ne.2 fun g => h ?_
  obtain ⟨⟨d⟩⟩ := s
  have g' : d = l := g
  rw [g']
theorem code_cases (s : ByteArray) : s = ⟨#[67, 65]⟩ ∨ s = ⟨#[67, 69]⟩ ∨ s = ⟨#[67, 82]⟩ ∨ s = ⟨#[65, 65]⟩ ∨ s = ⟨#[65, 69]⟩ ∨ s = ⟨#[65, 82]⟩ ∨ (Oth s ∧ codeN s = 0) := by
  by_cases h1 : s = kCA
  · exact Or.inl h1
  by_cases h2 : s = kCE
  · exact Or.inr (Or.inl h2)
  by_cases h3 : s = kCR
  · exact Or.inr (Or.inr (Or.inl h3))
  by_cases h4 : s = kAA
  · exact Or.inr (Or.inr (Or.inr (Or.inl h4)))
  by_cases h5 : s = kAE
  · exact Or.inr (Or.inr (Or.inr (Or.inr (Or.inl h5))))
  by_cases h6 : s = kAR
  · exact Or.inr (Or.inr (Or.inr (Or.inr (Or.inr (Or.inl h6)))))
  refine Or.inr (Or.inr (Or.inr (Or.inr (Or.inr (Or.inr ⟨⟨str_ne h1, str_ne h2, str_ne h3, str_ne h4, str_ne h5, str_ne h6⟩, ?_⟩)))))
  unfold codeN; rw [if_neg h1, if_neg h2, if_neg h3, if_neg h4, if_neg h5, if_neg h6]

/-- A condition's word. -/
def wordI (s : ByteArray) : Int := if (s.toList == [65, 76]) = true then 1 else if (s.toList == [69, 82]) = true then 2 else if (s.toList == [83, 85]) = true then 3 else 0
def wordK (s : ByteArray) : Bool := s.toList.isEmpty || s.toList == [78, 69] || s.toList == [65, 76] || s.toList == [69, 82] || s.toList == [83, 85]
/-- The words of conditions: none of the original mode. -/
def textB (e : Bool) (a : Int) : ByteArray := if e = true then (if a = 0 then ⟨#[78, 69]⟩ else if a = 1 then ⟨#[65, 76]⟩ else if a = 2 then ⟨#[69, 82]⟩ else ⟨#[83, 85]⟩) else ⟨#[]⟩
/-- What Mode answers: conditions, the error's place and number. -/
structure AnsM where
  e : Bool
  a : Int
  p : Int
  at_ : Int
  n : Int
def modeS (s t : ByteArray) : AnsM :=
  if wordK s = false then ⟨false, 0, 0, 15, 220⟩ else if wordK t = false then ⟨false, 0, 0, 16, 220⟩ else if (s.toList.isEmpty && t.toList.isEmpty) = true then ⟨false, 0, 0, 0, 0⟩ else ⟨true, wordI s, wordI t, 0, 0⟩
/-- The error of conditions. -/
def errN (e : Bool) (a p : Int) : Int := if okB e a p = true then 0 else 220
/-- Refuse's code. -/
def refC (e h : Bool) : ByteArray := if e = true then (if h = true then ⟨#[67, 82]⟩ else ⟨#[67, 69]⟩) else (if h = true then ⟨#[65, 82]⟩ else ⟨#[65, 69]⟩)

abbrev ActL := List (Int × ByteArray)
/-- What a call of the initiator's answers: state, left, acts, the error's place and number. -/
structure Ans where
  st : Int
  lf : Int
  l : ActL
  at_ : Int
  n : Int
abbrev nT : ByteArray := ⟨#[]⟩
def startS (e : Bool) (a p t : Int) (noted : Bool) : Ans :=
  if okB e a p = false then ⟨0, 0, [], 0, 220⟩ else if ¬ (0 ≤ t ∧ t ≤ 16) then ⟨0, 0, [], 0, 224⟩ else
  if (noted && !caB e a) = true then ⟨0, 0, [], 1, 220⟩ else
  if (caB e a && !noted) = true then ⟨1, t, [(1, nT), (2, nT)], 0, 0⟩ else
  if aaB e p = true then ⟨2, t, [(1, nT), (2, nT)], 0, 0⟩ else
  if earB e a p noted = true then ⟨3, t, [(1, nT), (2, nT)], 0, 0⟩ else
  if noted = true then ⟨4, t, [(1, nT), (4, kCA)], 0, 0⟩ else ⟨5, t, [(1, nT), (4, nT)], 0, 0⟩
def heardS (e : Bool) (a p st lf : Int) (s : ByteArray) (number : Bool) : Ans :=
  if okB e a p = false then ⟨0, 0, [], 0, 220⟩ else if fitB e a p st lf = false then ⟨0, 0, [], 0, 222⟩ else
  if (decide (4 ≤ st) || !sentB e a p s) = true then ⟨st, lf, [(6, nT)], 0, 0⟩ else
  if (s.toList == [67, 65]) = true then
    (if st = 1 then (if aaB e p = true then ⟨2, lf, [(3, nT)], 0, 0⟩ else if p = 2 then ⟨3, lf, [(3, nT), (2, nT)], 0, 0⟩ else ⟨4, lf, [(4, kCA)], 0, 0⟩) else ⟨st, lf, [], 0, 0⟩)
  else if (number && (s.toList == [67, 69] || s.toList == [65, 69])) = true then
    (if (caB e a && !decide (st = 1)) = true then ⟨st, lf, [(6, nT)], 0, 0⟩ else if 0 < lf then ⟨st, lf - 1, [(5, nT), (1, nT), (2, nT)], 0, 0⟩ else ⟨4, lf, [(4, s)], 0, 0⟩)
  else ⟨4, lf, [(4, s)], 0, 0⟩
def dueS (e : Bool) (a p st lf : Int) : Ans :=
  if okB e a p = false then ⟨0, 0, [], 0, 220⟩ else if fitB e a p st lf = false then ⟨0, 0, [], 0, 222⟩ else
  if 4 ≤ st then ⟨st, lf, [], 0, 0⟩ else if st = 3 then ⟨5, lf, [(4, nT)], 0, 0⟩ else if 0 < lf then ⟨st, lf - 1, [(1, nT), (2, nT)], 0, 0⟩ else ⟨6, 0, [(4, nT)], 0, 0⟩
/-- What the responder's calls answer: decided, code, acts, the error's number. -/
structure Ans2 where
  d : Bool
  c : ByteArray
  l : ActL
  n : Int
def caL (e : Bool) (a : Int) : ActL := if caB e a = true then [(7, kCA)] else []
def takeS (e : Bool) (a p : Int) : Ans2 := if okB e a p = false then ⟨false, nT, [], 220⟩ else ⟨false, nT, caL e a ++ [(8, nT)], 0⟩
def judgeS (e : Bool) (a p : Int) (d : Bool) (c s : ByteArray) : Ans2 :=
  if okB e a p = false then ⟨false, nT, [], 220⟩ else if (!keptB d c || d) = true then ⟨false, nT, [], 223⟩ else if verB s = false then ⟨false, nT, [], 221⟩ else
  ⟨true, s, if sentB e a p s = true then [(9, s)] else [], 0⟩
def copyS (e : Bool) (a p : Int) (d : Bool) (c : ByteArray) : Ans2 :=
  if okB e a p = false then ⟨false, nT, [], 220⟩ else if keptB d c = false then ⟨false, nT, [], 223⟩ else
  ⟨false, nT, caL e a ++ (if (d && sentB e a p c) = true then [(9, c)] else []), 0⟩
end Go.Proofs.YtkngafnfenmfeaaDoor
