/-
  judge and Text of "NM"; types.Decimal.
-/
import Derived.Test.YtjdpjielpbiedaaGreatDoorTdText
namespace Go.Proofs.YtjdpjielpbiedaaGreatDoor.Td
open Go.RowKit

theorem cell_lt {w : World} {a : Addr} {v : Value} (h : w.cell? a = some v) : a.block < w.heap.size := by
  rcases Nat.lt_or_ge a.block w.heap.size with g | g
  · exact g
  · simp [World.cell?, Array.getElem?_eq_none g] at h
/-- A block of one's own. -/
structure Box (w : World) (b : Nat) (cs : Array Value) : Prop where
  lt : b < w.heap.size
  cell : ∀ o, w.cell? ⟨b, o, none⟩ = cs[o]?
  free : ∀ o, w.frozen? ⟨b, o, none⟩ = false
theorem cell_new (w : World) (cs : Array Value) (t : TypeId) (j : Nat) : (w.alloc (.cells cs t)).cell? ⟨w.heap.size, j, none⟩ = cs[j]? := by
  have hb : (w.alloc (.cells cs t)).heap[w.heap.size]? = some (.cells cs t) := by show (w.heap.push _)[w.heap.size]? = _; simp
  unfold World.cell?
  rw [hb]
  rfl
theorem Box.new (w : World) (cs : Array Value) (t : TypeId) : Box (w.alloc (.cells cs t)) w.heap.size cs :=
  ⟨by simp, cell_new w cs t, fun o => by simp⟩
theorem Box.below {w w' : World} {b : Nat} {cs : Array Value} (h : Box w b cs) (hb : Below w.heap.size w w') : Box w' b cs :=
  ⟨Nat.lt_of_lt_of_le h.lt hb.size, fun o => by rw [hb.cell (p := ⟨b, o, none⟩) h.lt]; exact h.cell o, fun o => by rw [hb.frozen (p := ⟨b, o, none⟩) h.lt]; exact h.free o⟩
theorem Box.alloc {w : World} {b : Nat} {cs : Array Value} (h : Box w b cs) (x : Obj) : Box (w.alloc x) b cs := h.below ((Below.refl _ _).alloc (Nat.le_refl _) _)
theorem Box.pPut {w : World} {b : Nat} {cs : Array Value} (h : Box w b cs) {j : Nat} (hj : j < cs.size) (v : Value) : Box (w.setCell ⟨b, j, none⟩ v) b (cs.set! j v) := by
  refine ⟨by have := h.lt; simpa [World.setCell] using this, fun o => ?_, fun o => (World.frozen?_setCell _ _ _ _).trans (h.free o)⟩
  by_cases ho : j = o
  · subst ho
    rw [World.cell?_setCell_same' _ _ _ (by rw [h.cell j]; simp [hj])]
    simp [hj]
  · rw [World.cell?_setCell_other _ _ _ _ (by simp), h.cell o, Array.set!_eq_setIfInBounds, Array.getElem?_setIfInBounds_ne (by omega)]
/-- A number's three cells, written one behind the other. -/
theorem nb_put {w0 w : World} {b : Nat} {z0 z1 z2 : Value} (h : Box w b #[z0, z1, z2]) (hB : w0.heap.size ≤ b) (hb : Below w0.heap.size w0 w) (x0 x1 x2 : Value) : Box (((w.setCell ⟨b, 0, none⟩ x0).setCell ⟨b, 1, none⟩ x1).setCell ⟨b, 2, none⟩ x2) b #[x0, x1, x2] ∧ Below w0.heap.size w0 (((w.setCell ⟨b, 0, none⟩ x0).setCell ⟨b, 1, none⟩ x1).setCell ⟨b, 2, none⟩ x2) :=
  ⟨by simpa using ((h.pPut (j := 0) (by simp) x0).pPut (j := 1) (by simp) x1).pPut (j := 2) (by simp) x2, ((hb.setCell (p := ⟨b, 0, none⟩) hB _).setCell (p := ⟨b, 1, none⟩) hB _).setCell (p := ⟨b, 2, none⟩) hB _⟩
/-- The cells of a fault of layer "types". -/
def TFault (w : World) (b : Nat) (a code : Int) : Prop :=
  w.cell? ⟨b, 0, none⟩ = some (.string ⟨#[116, 121, 112, 101, 115]⟩) ∧ w.cell? ⟨b, 1, none⟩ = some (.int .i64 a) ∧ w.cell? ⟨b, 2, none⟩ = some (.int .i64 code) ∧ w.cell? ⟨b, 3, none⟩ = some .nilIface
theorem TFault.below {w w' : World} {b : Nat} {a c : Int} (h : TFault w b a c) (hb : Below w.heap.size w w') : TFault w' b a c := by
  have hl : b < w.heap.size := cell_lt h.1
  have hc : ∀ o, w'.cell? ⟨b, o, none⟩ = w.cell? ⟨b, o, none⟩ := fun o => hb.cell (p := ⟨b, o, none⟩) hl
  exact ⟨by rw [hc]; exact h.1, by rw [hc]; exact h.2.1, by rw [hc]; exact h.2.2.1, by rw [hc]; exact h.2.2.2⟩
/-- An error that is just that: none where the number is 0. -/
def TEv (w : World) (v : Value) (a code : Int) : Prop := (v = .nilIface ∧ code = 0) ∨ (code ≠ 0 ∧ ∃ b, v = .iface 77 (.pointer (some ⟨b, 0, none⟩)) ∧ TFault w b a code)
theorem TEv.below {w w' : World} {v : Value} {a c : Int} (h : TEv w v a c) (hb : Below w.heap.size w w') : TEv w' v a c := by
  rcases h with h | ⟨h0, b, h1, h2⟩
  · exact Or.inl h
  · exact Or.inr ⟨h0, b, h1, h2.below hb⟩
theorem TEv.ok {w : World} {v : Value} {a : Int} (h : TEv w v a 0) : v = .nilIface := by
  rcases h with h | h
  · exact h.1
  · exact absurd rfl h.1
theorem TEv.bad {w : World} {v : Value} {a c : Int} (h : TEv w v a c) (hc : c ≠ 0) : ∃ b, v = .iface 77 (.pointer (some ⟨b, 0, none⟩)) := by
  rcases h with h | ⟨_, b, h, _⟩
  · exact absurd h.2 hc
  · exact ⟨b, h⟩
set_option maxHeartbeats 400000 in
theorem tfault_any (a code : Int) (hc : code ≠ 0) (w : World) : Calls Tryz.prog 18 #[.int .i64 a, .int .i64 code] w fun e w' => ∃ v, e = .returned v ∧ TEv w' v a code ∧ Below w.heap.size w w' := by
  go_enter Tryz.func18, Tryz.ntmps18
  go_wp2
  go_ret
  exact ⟨_, rfl, Or.inr ⟨hc, _, rfl, by simp [TFault]⟩, (Below.refl _ _).alloc (Nat.le_refl _) _⟩
def nmE (s : ByteArray) : Int := if isNm (bl s) then 0 else 162
end Go.Proofs.YtjdpjielpbiedaaGreatDoor.Td
