/-
  The document's refusals of this layer.
-/
import Derived.Test.YtjdpjielpbiedaaGreatDoorTdDec
namespace Go.Proofs.YtjdpjielpbiedaaGreatDoor.Td
open Go.RowKit

/-- One link of this layer. -/
def TLink (w : World) (g : Nat) (a code : Int) : Prop := w.cell? ⟨g, 0, none⟩ = some (.string ⟨#[116, 121, 112, 101, 115]⟩) ∧ w.cell? ⟨g, 1, none⟩ = some (.int .i64 a) ∧ w.cell? ⟨g, 2, none⟩ = some (.int .i64 code)
/-- The document's refusal: none where the number is 0. -/
def TNo (w : World) (v : Value) (a code : Int) : Prop := (v = .slice none 0 0 ∧ code = 0) ∨ (code ≠ 0 ∧ ∃ g, v = .slice (some ⟨g, 0, none⟩) 1 1 ∧ TLink w g a code)
theorem TNo.below {w w' : World} {v : Value} {a c : Int} (h : TNo w v a c) (hb : Below w.heap.size w w') : TNo w' v a c := by
  rcases h with h | ⟨h0, g, h1, h2⟩
  · exact Or.inl h
  · have hl : g < w.heap.size := cell_lt h2.1
    have hc : ∀ o, w'.cell? ⟨g, o, none⟩ = w.cell? ⟨g, o, none⟩ := fun o => hb.cell (p := ⟨g, o, none⟩) hl
    exact Or.inr ⟨h0, g, h1, by rw [hc]; exact h2.1, by rw [hc]; exact h2.2.1, by rw [hc]; exact h2.2.2⟩
theorem TNo.bad {w : World} {v : Value} {a c : Int} (h : TNo w v a c) (hc : c ≠ 0) : ∃ g, v = .slice (some ⟨g, 0, none⟩) 1 1 := by
  rcases h with h | ⟨_, b, h, _⟩
  · exact absurd h.2 hc
  · exact ⟨b, h⟩
set_option maxHeartbeats 1000000 in
theorem rNo_any (a code : Int) (hc : code ≠ 0) (w : World) : Calls Tryz.prog 8 #[.int .i64 a, .int .i64 code] w fun e w' => ∃ v, e = .returned v ∧ TNo w' v a code ∧ Below w.heap.size w w' := by
  go_enter Tryz.func8, Tryz.ntmps8
  go_wp2
  go_ret
  refine ⟨_, rfl, Or.inr ⟨hc, _, rfl, ?_⟩, ?_⟩
  · simp [TLink]
  · repeat (first | exact Below.refl _ _ | refine Below.setCell ?_ (by simp) _ | refine Below.alloc ?_ (by simp) _)
end Go.Proofs.YtjdpjielpbiedaaGreatDoor.Td
