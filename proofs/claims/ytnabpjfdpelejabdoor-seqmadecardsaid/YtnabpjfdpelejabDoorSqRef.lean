/-
  The document's counters (courierref12), at a block of the law's own.
-/
import Derived.Test.YtnabpjfdpelejabDoorSqSpec
namespace Go.Proofs.YtnabpjfdpelejabDoor
open Go.RowKit

set_option maxHeartbeats 400000 in
theorem rNewS_any (n : Int) (w : World) : Calls Tryd.prog 18 #[.int .i64 n] w fun e w' => e = .returned (.tuple #[.agg #[.bool (newC n == 0), .int .i64 (setS 0 n)], .int .i64 (newC n)]) ∧ Below w.heap.size w w' := by
  by_cases h : 0 ≤ n ∧ n ≤ 2147483647
  · have e1 : newC n = 0 := if_pos h
    have e2 : setS 0 n = n := if_pos h
    rw [e1, e2]
    obtain ⟨h1, h2⟩ := h
    have h3 : ¬ n < 0 := by omega
    have h4 : ¬ 2147483647 < n := by omega
    go_enter Tryd.func18, Tryd.ntmps18
    go_wp2
    refine bodyPost_ret ?_ rfl ⟨rfl, ?_⟩
    · simp [results, Tryd.results18, go_sem]
    · repeat (first | exact Below.refl _ _ | refine Below.setCell ?_ (by simp) _ | refine Below.alloc ?_ (by simp) _)
  · have e1 : newC n = 2 := if_neg h
    have e2 : setS 0 n = 0 := if_neg h
    rw [e1, e2]
    by_cases h3 : n < 0
    · go_enter Tryd.func18, Tryd.ntmps18
      go_wp2
      refine bodyPost_ret ?_ rfl ⟨rfl, ?_⟩
      · simp [results, Tryd.results18, go_sem]
      · repeat (first | exact Below.refl _ _ | refine Below.setCell ?_ (by simp) _ | refine Below.alloc ?_ (by simp) _)
    · have h4 : 2147483647 < n := by omega
      go_enter Tryd.func18, Tryd.ntmps18
      go_wp2
      refine bodyPost_ret ?_ rfl ⟨rfl, ?_⟩
      · simp [results, Tryd.results18, go_sem]
      · repeat (first | exact Below.refl _ _ | refine Below.setCell ?_ (by simp) _ | refine Below.alloc ?_ (by simp) _)
section
variable {w : World} {b : Nat} {sp : Value} {n : Int}
/-- What a call of the document's sender leaves. -/
def RSQ (w : World) (b : Nat) (sp : Value) (s : Int) (w' : World) : Prop := Box w' b #[sp, .bool true, .int .i64 s] ∧ Off (fun k => k = b) w w'
theorem RSQ.put (h : Box w b #[sp, .bool true, .int .i64 n]) (s : Int) : RSQ w b sp s (w.setCell ⟨b, 2, none⟩ (.int .i64 s)) :=
  ⟨by simpa using h.pPut (j := 2) (by simp) (.int .i64 s), (Off.refl (fun k => k = b) _).setCell (p := ⟨b, 2, none⟩) rfl _⟩
end
end Go.Proofs.YtnabpjfdpelejabDoor
