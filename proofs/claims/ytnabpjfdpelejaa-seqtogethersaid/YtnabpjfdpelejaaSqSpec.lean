/-
  The counters as plain data. Of no program.
-/
import Derived.Test.YtnabpjfdpelejaaSqBase
namespace Go.Proofs.Ytnabpjfdpelejaa
open Go.RowKit

def isN (n : Int) : Prop := 1 ≤ n ∧ n ≤ 2147483647
instance (n : Int) : Decidable (isN n) := inferInstanceAs (Decidable (1 ≤ n ∧ n ≤ 2147483647))
def aft (n : Int) : Int := if n = 2147483647 then 0 else n + 1
def newC (n : Int) : Int := if 0 ≤ n ∧ n ≤ 2147483647 then 0 else 2
def takeC (n : Int) : Int := if n = 0 then 9 else 0
def takeS (n : Int) : Int := if n = 0 then 0 else aft n
def backC (n e : Int) : Int := if isN n ∧ isN e then (if n = e then 240 else 0) else 2
def backV (n e : Int) : Int := if isN n ∧ isN e ∧ n ≠ e then e else 0
def backS (s n e : Int) : Int := if isN n ∧ isN e ∧ n ≠ e then aft e else s
def setS (s n : Int) : Int := if 0 ≤ n ∧ n ≤ 2147483647 then n else s
def newR (e l : Int) : Int :=
  if 0 ≤ e ∧ e ≤ 2147483648 ∧ 0 ≤ l ∧ l ≤ 2147483647 ∧ ¬ (e = 0 ∧ l ≠ 0) ∧ ¬ (e = 2147483648 ∧ l ≠ 2147483647) ∧ ¬ (e ≠ 0 ∧ l ≠ 0 ∧ l ≠ e - 1) then 0 else 2
def judK (e l n : Int) : Int := if n = 0 then 1 else if n = -1 then 2 else if isN n ∧ (e = 0 ∨ e = n) then 3 else if n = l then 4 else 5
def okR (e n : Int) : Prop := isN n ∧ (e = 0 ∨ e = n)
instance (e n : Int) : Decidable (okR e n) := inferInstanceAs (Decidable (isN n ∧ (e = 0 ∨ e = n)))
def accC (e n : Int) : Int := if okR e n then 0 else 2
def accE (e n : Int) : Int := if okR e n then n + 1 else e
def accL (e l n : Int) : Int := if okR e n then n else l
def tellV (e : Int) : Int := if isN e then e else 0
theorem jud3 {e l n : Int} : judK e l n = 3 ↔ okR e n := by
  unfold judK okR isN
  constructor
  · intro h; split at h <;> (try split at h) <;> (try split at h) <;> (try split at h) <;> simp_all
  · rintro ⟨⟨h1, h2⟩, h3⟩; rw [if_neg (by omega), if_neg (by omega), if_pos ⟨⟨h1, h2⟩, h3⟩]
/-- What a sender, a receiver holds. -/
def SOk (n : Int) : Prop := 0 ≤ n ∧ n ≤ 2147483647
def ROk (e l : Int) : Prop := 0 ≤ e ∧ e ≤ 2147483648 ∧ 0 ≤ l ∧ l ≤ 2147483647
theorem SOk.take {n : Int} (h : SOk n) : SOk (takeS n) := by unfold SOk takeS aft at *; split <;> (try split) <;> omega
theorem SOk.back {s n e : Int} (h : SOk s) : SOk (backS s n e) := by unfold SOk backS aft isN at *; split <;> (try split) <;> omega
theorem SOk.set {s n : Int} (h : SOk s) : SOk (setS s n) := by unfold SOk setS at *; split <;> omega
theorem ROk.acc {e l n : Int} (h : ROk e l) : ROk (accE e n) (accL e l n) := by
  unfold accE accL
  by_cases hk : okR e n
  · rw [if_pos hk, if_pos hk]; unfold ROk okR isN at *; omega
  · rw [if_neg hk, if_neg hk]; exact h
theorem newC_ok {n : Int} : newC n = 0 ↔ SOk n := by unfold newC SOk; split <;> simp_all
end Go.Proofs.Ytnabpjfdpelejaa
