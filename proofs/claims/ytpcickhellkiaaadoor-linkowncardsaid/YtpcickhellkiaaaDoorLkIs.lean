/-
  The law's own 'is': nil where no error is asked for; a *api.Fault of layer "link" with that place and number, found by errors.As and errors.Is.
-/
import Derived.Test.YtpcickhellkiaaaDoorAs
import Derived.Test.YtpcickhellkiaaaDoorIs
import Derived.WideLaws
import Derived.Test.YtpcickhellkiaaaDoorLkBase
namespace Go.Proofs.YtpcickhellkiaaaDoor
open Go.RowKit

set_option maxHeartbeats 400000 in
theorem isOk (w : World) (at_ : Int) : Calls Tryd.prog 20 #[.nilIface, .int .i64 at_, .int .i64 0] w fun e w' => e = .returned (.bool true) ∧ w' = w := by
  go_enter Tryd.func20, Tryd.ntmps20
  go_wp2
  go_ret
  exact ⟨rfl, rfl⟩

/-- The cells of a fault of layer "link". -/
def FaultAt (w : World) (b : Nat) (at_ code : Int) : Prop :=
  w.cell? ⟨b, 0, none⟩ = some (.string ⟨#[108, 105, 110, 107]⟩) ∧ w.cell? ⟨b, 1, none⟩ = some (.int .i64 at_) ∧ w.cell? ⟨b, 2, none⟩ = some (.int .i64 code) ∧ w.cell? ⟨b, 3, none⟩ = some .nilIface
def ErrType (w : World) : Prop := w.cell? ⟨0, 0, none⟩ = some (.iface 132 (.agg #[.pointer (some ⟨1, 29, none⟩)]))

theorem as_hit' (e : Addr) (B : Nat) (w : World) (hE : ErrType w) (hB : B < w.heap.size) (ht0 : w.cell? ⟨B, 0, none⟩ = some (.pointer none)) (hf0 : w.frozen? ⟨B, 0, none⟩ = false) :
    Calls Tryd.prog 41 #[.iface 88 (.pointer (some e)), .iface 90 (.pointer (some ⟨B, 0, none⟩))] w fun ev w' => ev = .returned (.bool true) ∧ w'.cell? ⟨B, 0, none⟩ = some (.pointer (some e)) ∧ Below B w w' := by
  refine (as_hit e ⟨B, 0, none⟩ (.pointer none) w hE ht0 hf0).mono ?_
  rintro ev w' ⟨rfl, rfl⟩
  refine ⟨rfl, ?_, ?_⟩
  · refine World.cell?_setCell_same _ _ _ (?_ : _ = some (.pointer none))
    rw [World.cell?_alloc_lt _ _ ⟨B, 0, none⟩ (by simp; omega), World.cell?_alloc_lt _ _ ⟨B, 0, none⟩ (by simp; omega), World.cell?_alloc_lt _ _ ⟨B, 0, none⟩ (by simp; omega), World.cell?_alloc_lt _ _ ⟨B, 0, none⟩ hB]; exact ht0
  · exact (((((Below.refl _ _).alloc (Nat.le_of_lt hB) _).alloc (by simp; omega) _).alloc (by simp; omega) _).alloc (by simp; omega) _).setCell (Nat.le_refl _) _

set_option maxHeartbeats 1000000 in
theorem isFault (b : Nat) (at_ code : Int) (w : World) (hc : (code == 0) = false) (hE : ErrType w) (hF : FaultAt w b at_ code) :
    Calls Tryd.prog 20 #[.iface 88 (.pointer (some ⟨b, 0, none⟩)), .int .i64 at_, .int .i64 code] w fun e w' => e = .returned (.bool true) ∧ Below w.heap.size w w' := by
  obtain ⟨f0, f1, f2, f3⟩ := hF
  have hb : b < w.heap.size := cell_lt f0
  have hE1 : ErrType (w.alloc (.cells #[.pointer none] 88)) := by
    unfold ErrType; rw [World.cell?_alloc_lt _ _ ⟨0, 0, none⟩ (cell_lt hE)]; exact hE
  go_enter Tryd.func20, Tryd.ntmps20
  go_wp2_with fail
  refine (as_hit' _ _ _ hE1 (by simp) (by simp) (by simp)).mono ?_
  rintro e w1 ⟨rfl, ht, hw⟩
  have hcell : ∀ o, w1.cell? ⟨b, o, none⟩ = w.cell? ⟨b, o, none⟩ := fun o => by
    rw [hw.cell (p := ⟨b, o, none⟩) hb]; exact World.cell?_alloc_lt _ _ ⟨b, o, none⟩ hb
  have k0 : w1.cell? ⟨b, 0, none⟩ = some (.string ⟨#[108, 105, 110, 107]⟩) := by rw [hcell]; exact f0
  have k1 : w1.cell? ⟨b, 0 + 1, none⟩ = some (.int .i64 at_) := by rw [hcell]; exact f1
  have k1' : w1.cell? ⟨b, 1, none⟩ = some (.int .i64 at_) := by rw [hcell]; exact f1
  have k2 : w1.cell? ⟨b, 0 + 2, none⟩ = some (.int .i64 code) := by rw [hcell]; exact f2
  have k2' : w1.cell? ⟨b, 2, none⟩ = some (.int .i64 code) := by rw [hcell]; exact f2
  have k3 : w1.cell? ⟨b, 3, none⟩ = some .nilIface := by rw [hcell]; exact f3
  have hB : Below w.heap.size w w1 := ((Below.refl _ _).alloc (Nat.le_refl _) _).trans hw
  have HB : Hid (Below w.heap.size w w1) := hB
  clear hB hw hcell f0 f1 f2 f3 hE hE1
  go_wp2_with fail
  refine (is_code _ _ _ k2' k3).mono ?_
  rintro e w' ⟨rfl, rfl⟩
  go_wp2
  go_ret
  exact ⟨rfl, HB.out⟩
theorem fault_new (w : World) (t c : Int) : FaultAt (w.alloc (.cells #[.string ⟨#[108, 105, 110, 107]⟩, .int .i64 t, .int .i64 c, .nilIface] 92)) w.heap.size t c := by simp [FaultAt]
theorem errType_below {w w' : World} (h : ErrType w) (hb : Below w.heap.size w w') : ErrType w' := by
  unfold ErrType; rw [hb.cell (p := ⟨0, 0, none⟩) (cell_lt h)]; exact h
theorem faultAt_below {w w' : World} {b : Nat} {t c : Int} (h : FaultAt w b t c) (hb : Below w.heap.size w w') : FaultAt w' b t c := by
  have hl : b < w.heap.size := cell_lt h.1
  have hc : ∀ q, w'.cell? ⟨b, q, none⟩ = w.cell? ⟨b, q, none⟩ := fun q => hb.cell (p := ⟨b, q, none⟩) hl
  unfold FaultAt; simp only [hc]; exact h

end Go.Proofs.YtpcickhellkiaaaDoor
