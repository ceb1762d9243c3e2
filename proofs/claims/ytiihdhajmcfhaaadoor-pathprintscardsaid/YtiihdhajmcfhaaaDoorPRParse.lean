/-
  The document's Parse of a place's text, walked.
-/
import Derived.Test.YtiihdhajmcfhaaaDoorPRState
namespace Go.Proofs.YtiihdhajmcfhaaaDoor
open Go.RowKit

/-- Behind the three bytes of the name. -/
def NmS (s : ByteArray) (i : Nat) (bad : Option Nat) : Prop := (bad = none ∧ ∀ j, j < i → nmAt s j = true) ∨ (∃ k, bad = some k ∧ k < 3 ∧ nmC s = k)
/-- What it answers, whole. -/
def RAll (s : ByteArray) (e : Ending) (w' : World) : Prop :=
  if nmC s = 3 then (ROut s (S6 s (sg s)) (S5 s (sg s)) e w' ∧ (S5 s (sg s)).a ≤ s.size) else ROut s (some (nmC s)) S0 e w'
theorem new_pb {seg : ByteArray} (w : World) (n : Nat) (hn : w.heap.size = n) : Pb (w.alloc (.cells #[.string seg, .int .i64 1, .int .i64 3, .int .i64 1, .int .i64 1, .int .i64 1] 23)) n seg 1 3 1 1 1 := by
  subst hn
  exact ⟨by simp, by simp, by simp, by simp, by simp, by simp, fun j => by simp⟩
theorem adv_no {s : ByteArray} {ch : Nat} {x : RS} (h : isQ s ch x.a x.bad = false) : adv s ch x = x := by
  unfold adv isA; rw [h]; rfl
end Go.Proofs.YtiihdhajmcfhaaaDoor
