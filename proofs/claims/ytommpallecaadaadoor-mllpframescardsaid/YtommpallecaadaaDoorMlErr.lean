/-
  mllp's faults, and the law's 'is'.
-/
import Derived.Test.YtommpallecaadaaDoorAs
import Derived.Test.YtommpallecaadaaDoorIs
import Derived.WideLaws
namespace Go.Proofs.YtommpallecaadaaDoor
open Go.RowKit

def ErrType (w : World) : Prop := w.cell? ⟨0, 0, none⟩ = some (.iface 112 (.agg #[.pointer (some ⟨1, 25, none⟩)]))
theorem errType_below {w w' : World} (h : ErrType w) (hb : Below w.heap.size w w') : ErrType w' := by
  unfold ErrType; rw [hb.cell (p := ⟨0, 0, none⟩) (cell_lt h)]; exact h
theorem errType_alloc {w : World} (h : ErrType w) (o : Obj) : ErrType (w.alloc o) := errType_below h ((Below.refl _ _).alloc (Nat.le_refl _) _)
theorem as_hit' (e : Addr) (B : Nat) (w : World) (hE : ErrType w) (hB : B < w.heap.size) (ht0 : w.cell? ⟨B, 0, none⟩ = some (.pointer none)) (hf0 : w.frozen? ⟨B, 0, none⟩ = false) :
    Calls Tryd.prog 27 #[.iface 63 (.pointer (some e)), .iface 65 (.pointer (some ⟨B, 0, none⟩))] w fun ev w' => ev = .returned (.bool true) ∧ w'.cell? ⟨B, 0, none⟩ = some (.pointer (some e)) ∧ Below B w w' := by
  refine (as_hit e ⟨B, 0, none⟩ (.pointer none) w hE ht0 hf0).mono ?_
  rintro ev w' ⟨rfl, rfl⟩
  refine ⟨rfl, ?_, ?_⟩
  · refine World.cell?_setCell_same _ _ _ (?_ : _ = some (.pointer none))
    rw [World.cell?_alloc_lt _ _ ⟨B, 0, none⟩ (by simp; omega), World.cell?_alloc_lt _ _ ⟨B, 0, none⟩ (by simp; omega), World.cell?_alloc_lt _ _ ⟨B, 0, none⟩ (by simp; omega), World.cell?_alloc_lt _ _ ⟨B, 0, none⟩ hB]; exact ht0
  · exact (((((Below.refl _ _).alloc (Nat.le_of_lt hB) _).alloc (by simp; omega) _).alloc (by simp; omega) _).alloc (by simp; omega) _).setCell (Nat.le_refl _) _
/-- The cells of a fault of layer "mllp". -/
def MFault (w : World) (b : Nat) (a code : Int) : Prop :=
  w.cell? ⟨b, 0, none⟩ = some (.string ⟨#[109, 108, 108, 112]⟩) ∧ w.cell? ⟨b, 1, none⟩ = some (.int .i64 a) ∧ w.cell? ⟨b, 2, none⟩ = some (.int .i64 code) ∧ w.cell? ⟨b, 3, none⟩ = some .nilIface
theorem MFault.below {w w' : World} {b : Nat} {a c : Int} (h : MFault w b a c) (hb : Below w.heap.size w w') : MFault w' b a c := by
  have hl : b < w.heap.size := cell_lt h.1
  have hc : ∀ o, w'.cell? ⟨b, o, none⟩ = w.cell? ⟨b, o, none⟩ := fun o => hb.cell (p := ⟨b, o, none⟩) hl
  exact ⟨by rw [hc]; exact h.1, by rw [hc]; exact h.2.1, by rw [hc]; exact h.2.2.1, by rw [hc]; exact h.2.2.2⟩
set_option maxHeartbeats 400000 in
theorem mfault_any (a code : Int) (w : World) : Calls Tryd.prog 23 #[.int .i64 a, .int .i64 code] w fun e w' => e = .returned (.iface 63 (.pointer (some ⟨w.heap.size, 0, none⟩))) ∧ MFault w' w.heap.size a code ∧ Below w.heap.size w w' := by
  go_enter Tryd.func23, Tryd.ntmps23
  go_wp2
  go_ret
  exact ⟨rfl, ⟨by simp, by simp, by simp, by simp⟩, (Below.refl _ _).alloc (Nat.le_refl _) _⟩
set_option maxHeartbeats 400000 in
theorem is_ok (a : Int) (w : World) : Calls Tryd.prog 9 #[.nilIface, .int .i64 a, .int .i64 0] w fun e w' => e = .returned (.bool true) ∧ w' = w := by
  go_enter Tryd.func9, Tryd.ntmps9
  go_wp2
  go_ret
  exact ⟨rfl, rfl⟩
set_option maxHeartbeats 1000000 in
theorem is_fault (b : Nat) (a code : Int) (w : World) (hc : (code == 0) = false) (hE : ErrType w) (hF : MFault w b a code) :
    Calls Tryd.prog 9 #[.iface 63 (.pointer (some ⟨b, 0, none⟩)), .int .i64 a, .int .i64 code] w fun e w' => e = .returned (.bool true) ∧ Below w.heap.size w w' := by
  obtain ⟨f0, f1, f2, f3⟩ := hF
  have hb : b < w.heap.size := cell_lt f0
  have hE1 : ErrType (w.alloc (.cells #[.pointer none] 63)) := errType_alloc hE _
  go_enter Tryd.func9, Tryd.ntmps9
  go_wp2_with fail
  refine (as_hit' _ _ _ hE1 (by simp) (by simp) (by simp)).mono ?_
  rintro e w1 ⟨rfl, ht, hw⟩
  have hcell : ∀ o, w1.cell? ⟨b, o, none⟩ = w.cell? ⟨b, o, none⟩ := fun o => by
    rw [hw.cell (p := ⟨b, o, none⟩) hb]; exact World.cell?_alloc_lt _ _ ⟨b, o, none⟩ hb
  have k0 : w1.cell? ⟨b, 0, none⟩ = some (.string ⟨#[109, 108, 108, 112]⟩) := by rw [hcell]; exact f0
  have k1 : w1.cell? ⟨b, 0 + 1, none⟩ = some (.int .i64 a) := by rw [hcell]; exact f1
  have k1' : w1.cell? ⟨b, 1, none⟩ = some (.int .i64 a) := by rw [hcell]; exact f1
  have k2 : w1.cell? ⟨b, 0 + 2, none⟩ = some (.int .i64 code) := by rw [hcell]; exact f2
  have k2' : w1.cell? ⟨b, 2, none⟩ = some (.int .i64 code) := by rw [hcell]; exact f2
  have k3 : w1.cell? ⟨b, 3, none⟩ = some .nilIface := by rw [hcell]; exact f3
  have HB : Hid (Below w.heap.size w w1) := ((Below.refl _ _).alloc (Nat.le_refl _) _).trans hw
  clear hw hcell f0 f1 f2 f3 hE hE1
  go_wp2_with fail
  refine (is_code _ _ _ k2' k3).mono ?_
  rintro e w' ⟨rfl, rfl⟩
  go_wp2
  go_ret
  exact ⟨rfl, HB.out⟩
end Go.Proofs.YtommpallecaadaaDoor
