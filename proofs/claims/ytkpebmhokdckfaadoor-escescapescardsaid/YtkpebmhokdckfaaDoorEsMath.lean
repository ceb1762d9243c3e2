/-
  Marks as plain data: which of five is wrong first. Of no program.
-/
import Derived.Test.YtkpebmhokdckfaaDoorEsIter
import Derived.Lib.IndexAny
namespace Go.Proofs.YtkpebmhokdckfaaDoor
open Go.RowKit

/-- A digit or a letter; a mark. -/
def wordI (r : Int) : Bool := decide (48 ≤ r ∧ r ≤ 57) || decide (65 ≤ r ∧ r ≤ 90) || decide (97 ≤ r ∧ r ≤ 122)
def markI (r : Int) : Bool := decide (32 < r ∧ r < 127) && !wordI r
/-- Whether a byte stands in a text. -/
def inB (l : List UInt8) (r : Int) : Bool := l.contains r.toNat.toUInt8
/-- The one at a place is no mark, or stands ahead of itself. -/
def badAt (l : List UInt8) (j : Nat) : Bool := !markI (l.getD j 0).toNat || (l.take j).contains (l.getD j 0)
structure Wrong (l : List UInt8) (m n : Nat) : Prop where
  le : n ≤ m
  ok : ∀ j, j < n → badAt l j = false
  bad : n < m → badAt l n = true
theorem Wrong.one {l : List UInt8} {m a b : Nat} (h : Wrong l m a) (g : Wrong l m b) : a = b := by
  rcases Nat.lt_trichotomy a b with q | q | q
  · have h1 := h.bad (by have := g.le; omega)
    rw [g.ok a q] at h1; cases h1
  · exact q
  · have h1 := g.bad (by have := h.le; omega)
    rw [h.ok b q] at h1; cases h1
theorem wrong_ex (l : List UInt8) : ∀ m, ∃ n, Wrong l m n
  | 0 => ⟨0, Nat.le_refl _, fun _ h => absurd h (by omega), fun h => absurd h (by omega)⟩
  | m + 1 => by
    obtain ⟨n, h⟩ := wrong_ex l m
    rcases Nat.lt_or_ge n m with q | q
    · exact ⟨n, by omega, h.ok, fun _ => h.bad q⟩
    · obtain rfl : n = m := by have := h.le; omega
      by_cases hb : badAt l n = true
      · exact ⟨n, by omega, h.ok, fun _ => hb⟩
      · refine ⟨n + 1, by omega, fun j hj => ?_, fun g => absurd g (by omega)⟩
        rcases Nat.lt_or_ge j n with q | q
        · exact h.ok j q
        · obtain rfl : j = n := by omega
          simpa using hb
/-- Five marks. -/
structure Mk where
  f : UInt8
  c : UInt8
  r : UInt8
  x : UInt8
  s : UInt8
def Mk.l (m : Mk) : List UInt8 := [m.f, m.c, m.r, m.x, m.s]
def Mk.str (m : Mk) : ByteArray := ⟨#[m.f, m.c, m.r, m.x, m.s]⟩
theorem Mk.str_l (m : Mk) : m.str.data.toList = m.l := rfl
theorem Mk.str_size (m : Mk) : m.str.size = 5 := rfl
theorem toU8 (b : UInt8) : ((b.toNat : Int)).toNat.toUInt8 = b := by simp
theorem inB_toNat (l : List UInt8) (b : UInt8) : inB l b.toNat = l.contains b := by unfold inB; rw [toU8]
theorem markI_low {r : Int} (h : markI r = true) : 33 ≤ r ∧ r ≤ 126 := by
  simp [markI] at h; omega
end Go.Proofs.YtkpebmhokdckfaaDoor
