/-
  The law's own 'is': nil where no error is asked for; a *api.Fault of layer "wheel" with that place and number, found by errors.As and errors.Is.
-/
import Derived.Test.YtdglnobapnohmaaDoorAs
import Derived.Test.YtdglnobapnohmaaDoorIs
import Derived.WideLaws
import Derived.Test.YtdglnobapnohmaaDoorLeaf
namespace Go.Proofs.YtdglnobapnohmaaDoor
open Go.RowKit

set_option maxHeartbeats 400000 in
theorem isOk (w : World) : Calls Tryd.prog 6 #[.nilIface, .int .i64 0] w fun e w' => e = .returned (.bool true) ∧ w' = w := by
  go_enter Tryd.func6, Tryd.ntmps6
  go_wp2
  go_ret
  exact ⟨rfl, rfl⟩

/-- The cells of a fault of layer "wheel". -/
def FaultAt (w : World) (b : Nat) (code : Int) : Prop :=
  w.cell? ⟨b, 0, none⟩ = some (.string ⟨#[119, 104, 101, 101, 108]⟩) ∧ w.cell? ⟨b, 1, none⟩ = some (.int .i64 0) ∧ w.cell? ⟨b, 2, none⟩ = some (.int .i64 code) ∧ w.cell? ⟨b, 3, none⟩ = some .nilIface
def ErrType (w : World) : Prop := w.cell? ⟨0, 0, none⟩ = some (.iface 105 (.agg #[.pointer (some ⟨1, 25, none⟩)]))

theorem bcell {W w1 : World} (hb : Below W.heap.size W w1) : (∀ b o, b < W.heap.size → w1.cell? ⟨b, o, none⟩ = W.cell? ⟨b, o, none⟩) ∧ (∀ b o, b < W.heap.size → w1.frozen? ⟨b, o, none⟩ = W.frozen? ⟨b, o, none⟩) :=
  ⟨fun b o h => hb.cell (p := ⟨b, o, none⟩) h, fun b o h => hb.frozen (p := ⟨b, o, none⟩) h⟩

theorem as_hit' (e : Addr) (B : Nat) (w : World) (hE : ErrType w) (hB : B < w.heap.size) (ht0 : w.cell? ⟨B, 0, none⟩ = some (.pointer none)) (hf0 : w.frozen? ⟨B, 0, none⟩ = false) :
    Calls Tryd.prog 11 #[.iface 56 (.pointer (some e)), .iface 58 (.pointer (some ⟨B, 0, none⟩))] w fun ev w' => ev = .returned (.bool true) ∧ w'.cell? ⟨B, 0, none⟩ = some (.pointer (some e)) ∧ Below B w w' := by
  refine (as_hit e ⟨B, 0, none⟩ (.pointer none) w hE ht0 hf0).mono ?_
  rintro ev w' ⟨rfl, rfl⟩
  refine ⟨rfl, ?_, ?_⟩
  · refine World.cell?_setCell_same _ _ _ (?_ : _ = some (.pointer none))
    rw [World.cell?_alloc_lt _ _ ⟨B, 0, none⟩ (by simp; omega), World.cell?_alloc_lt _ _ ⟨B, 0, none⟩ (by simp; omega), World.cell?_alloc_lt _ _ ⟨B, 0, none⟩ (by simp; omega), World.cell?_alloc_lt _ _ ⟨B, 0, none⟩ hB]; exact ht0
  · exact (((((Below.refl _ _).alloc (Nat.le_of_lt hB) _).alloc (by simp; omega) _).alloc (by simp; omega) _).alloc (by simp; omega) _).setCell (Nat.le_refl _) _

set_option maxHeartbeats 1000000 in
theorem isFault (b : Nat) (code : Int) (w : World) (hc : (code == 0) = false) (hE : ErrType w) (hF : FaultAt w b code) :
    Calls Tryd.prog 6 #[.iface 56 (.pointer (some ⟨b, 0, none⟩)), .int .i64 code] w fun e w' => e = .returned (.bool true) ∧ Below w.heap.size w w' := by
  obtain ⟨f0, f1, f2, f3⟩ := hF
  have hb : b < w.heap.size := cell_lt f0
  have hE1 : ErrType (w.alloc (.cells #[.pointer none] 56)) := by
    unfold ErrType; rw [World.cell?_alloc_lt _ _ ⟨0, 0, none⟩ (cell_lt hE)]; exact hE
  go_enter Tryd.func6, Tryd.ntmps6
  go_wp2_with fail
  refine (as_hit' _ _ _ hE1 (by simp) (by simp) (by simp)).mono ?_
  rintro e w1 ⟨rfl, ht, hw⟩
  have hcell : ∀ o, w1.cell? ⟨b, o, none⟩ = w.cell? ⟨b, o, none⟩ := fun o => by
    rw [hw.cell (p := ⟨b, o, none⟩) hb]; exact World.cell?_alloc_lt _ _ ⟨b, o, none⟩ hb
  have k0 : w1.cell? ⟨b, 0, none⟩ = some (.string ⟨#[119, 104, 101, 101, 108]⟩) := by rw [hcell]; exact f0
  have k1 : w1.cell? ⟨b, 0 + 1, none⟩ = some (.int .i64 0) := by rw [hcell]; exact f1
  have k1' : w1.cell? ⟨b, 1, none⟩ = some (.int .i64 0) := by rw [hcell]; exact f1
  have k2 : w1.cell? ⟨b, 0 + 2, none⟩ = some (.int .i64 code) := by rw [hcell]; exact f2
  have k2' : w1.cell? ⟨b, 2, none⟩ = some (.int .i64 code) := by rw [hcell]; exact f2
  have k3 : w1.cell? ⟨b, 3, none⟩ = some .nilIface := by rw [hcell]; exact f3
  have hB : Below w.heap.size w w1 := ((Below.refl _ _).alloc (Nat.le_refl _) _).trans hw
  have HB : Hid (Below w.heap.size w w1) := hB
  clear hB hw hcell f0 f1 f2 f3 hE hE1
  go_wp2_with fail
  refine (is_code _ _ _ k2' k3).mono ?_
  rintro e w' ⟨rfl, rfl⟩
  go_wp2
  go_ret
  exact ⟨rfl, HB.out⟩
theorem fault_new (w : World) (c : Int) : FaultAt (w.alloc (.cells #[.string ⟨#[119, 104, 101, 101, 108]⟩, .int .i64 0, .int .i64 c, .nilIface] 60)) w.heap.size c := by simp [FaultAt]
theorem errType_below {w w' : World} (h : ErrType w) (hb : Below w.heap.size w w') : ErrType w' := by
  unfold ErrType; rw [hb.cell (p := ⟨0, 0, none⟩) (cell_lt h)]; exact h
theorem faultAt_below {w w' : World} {b : Nat} {c : Int} (h : FaultAt w b c) (hb : Below w.heap.size w w') : FaultAt w' b c := by
  have hl : b < w.heap.size := cell_lt h.1
  have hc : ∀ q, w'.cell? ⟨b, q, none⟩ = w.cell? ⟨b, q, none⟩ := fun q => hb.cell (p := ⟨b, q, none⟩) hl
  unfold FaultAt; simp only [hc]; exact h

end Go.Proofs.YtdglnobapnohmaaDoor
