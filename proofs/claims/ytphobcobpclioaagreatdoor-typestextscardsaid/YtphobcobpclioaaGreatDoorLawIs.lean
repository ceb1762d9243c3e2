/-
  The law's own 'is': nil where no error is asked for; a *api.Fault of layer "stamp" with that place and number, found by errors.As and errors.Is.
-/
import Derived.Test.YtphobcobpclioaaGreatDoorAs
import Derived.Test.YtphobcobpclioaaGreatDoorIs
import Derived.WideLaws
namespace Go.Proofs.YtphobcobpclioaaGreatDoor
open Go.RowKit

/-- The cells of a fault of layer "stamp". -/
def FaultAt (w : World) (b : Nat) (a code : Int) : Prop :=
  w.cell? ⟨b, 0, none⟩ = some (.string ⟨#[115, 116, 97, 109, 112]⟩) ∧ w.cell? ⟨b, 1, none⟩ = some (.int .i64 a) ∧ w.cell? ⟨b, 2, none⟩ = some (.int .i64 code) ∧ w.cell? ⟨b, 3, none⟩ = some .nilIface
def ErrType (w : World) : Prop := w.cell? ⟨1, 0, none⟩ = some (.iface 81 (.agg #[.pointer (some ⟨7, 24, none⟩)]))

theorem cell_lt {w : World} {a : Addr} {v : Value} (h : w.cell? a = some v) : a.block < w.heap.size := by
  rcases Nat.lt_or_ge a.block w.heap.size with g | g
  · exact g
  · simp [World.cell?, Array.getElem?_eq_none g] at h

theorem months_alloc {w : World} (h : Months w) (o : Obj) : Months (w.alloc o) := by
  obtain ⟨a, b, c, d, e, f, g, i, j, k, l, n⟩ := h
  have hl : 5 < w.heap.size := cell_lt a
  have hc : ∀ q, (w.alloc o).cell? ⟨5, q, none⟩ = w.cell? ⟨5, q, none⟩ := fun q => World.cell?_alloc_lt _ _ ⟨5, q, none⟩ hl
  unfold Months; simp only [hc]; exact ⟨a, b, c, d, e, f, g, i, j, k, l, n⟩
theorem months_below {w w' : World} (h : Months w) (hb : Below w.heap.size w w') : Months w' := by
  obtain ⟨a, b, c, d, e, f, g, i, j, k, l, n⟩ := h
  have hl : 5 < w.heap.size := cell_lt a
  have hc : ∀ q, w'.cell? ⟨5, q, none⟩ = w.cell? ⟨5, q, none⟩ := fun q => hb.cell (p := ⟨5, q, none⟩) hl
  unfold Months; simp only [hc]; exact ⟨a, b, c, d, e, f, g, i, j, k, l, n⟩

theorem bcell {W w1 : World} (hb : Below W.heap.size W w1) : (∀ b o, b < W.heap.size → w1.cell? ⟨b, o, none⟩ = W.cell? ⟨b, o, none⟩) ∧ (∀ b o, b < W.heap.size → w1.frozen? ⟨b, o, none⟩ = W.frozen? ⟨b, o, none⟩) :=
  ⟨fun b o h => hb.cell (p := ⟨b, o, none⟩) h, fun b o h => hb.frozen (p := ⟨b, o, none⟩) h⟩

theorem as_hit' (e : Addr) (B : Nat) (w : World) (hE : ErrType w) (hB : B < w.heap.size) (ht0 : w.cell? ⟨B, 0, none⟩ = some (.pointer none)) (hf0 : w.frozen? ⟨B, 0, none⟩ = false) :
    Calls Tryz.prog 15 #[.iface 45 (.pointer (some e)), .iface 47 (.pointer (some ⟨B, 0, none⟩))] w fun ev w' => ev = .returned (.bool true) ∧ w'.cell? ⟨B, 0, none⟩ = some (.pointer (some e)) ∧ Below B w w' := by
  refine (as_hit e ⟨B, 0, none⟩ (.pointer none) w hE ht0 hf0).mono ?_
  rintro ev w' ⟨rfl, rfl⟩
  refine ⟨rfl, ?_, ?_⟩
  · refine World.cell?_setCell_same _ _ _ (?_ : _ = some (.pointer none))
    rw [World.cell?_alloc_lt _ _ ⟨B, 0, none⟩ (by simp; omega), World.cell?_alloc_lt _ _ ⟨B, 0, none⟩ (by simp; omega), World.cell?_alloc_lt _ _ ⟨B, 0, none⟩ (by simp; omega), World.cell?_alloc_lt _ _ ⟨B, 0, none⟩ hB]; exact ht0
  · exact (((((Below.refl _ _).alloc (Nat.le_of_lt hB) _).alloc (by simp; omega) _).alloc (by simp; omega) _).alloc (by simp; omega) _).setCell (Nat.le_refl _) _

theorem fault_new (w : World) (a c : Int) : FaultAt (w.alloc (.cells #[.string ⟨#[115, 116, 97, 109, 112]⟩, .int .i64 a, .int .i64 c, .nilIface] 49)) w.heap.size a c := by simp [FaultAt]
theorem errType_below {w w' : World} (h : ErrType w) (hb : Below w.heap.size w w') : ErrType w' := by
  unfold ErrType; rw [hb.cell (p := ⟨1, 0, none⟩) (cell_lt h)]; exact h
theorem faultAt_below {w w' : World} {b : Nat} {a c : Int} (h : FaultAt w b a c) (hb : Below w.heap.size w w') : FaultAt w' b a c := by
  have hl : b < w.heap.size := cell_lt h.1
  have hc : ∀ q, w'.cell? ⟨b, q, none⟩ = w.cell? ⟨b, q, none⟩ := fun q => hb.cell (p := ⟨b, q, none⟩) hl
  unfold FaultAt; simp only [hc]; exact h

theorem below_step {w w1 w2 : World} {o : Obj} (h1 : Below w.heap.size w w1) (h2 : Below (w1.alloc o).heap.size (w1.alloc o) w2) : Below w.heap.size w w2 :=
  h1.trans ((((Below.refl w1.heap.size w1).alloc (Nat.le_refl _) o).trans (h2.mono (by simp))).mono h1.size)
theorem below_new {w w1 : World} (h1 : Below w.heap.size w w1) (o : Obj) : Below w.heap.size w (w1.alloc o) := h1.alloc h1.size o
theorem below_then {w w1 w2 : World} (h1 : Below w.heap.size w w1) (h2 : Below w1.heap.size w1 w2) : Below w.heap.size w w2 := h1.trans (h2.mono h1.size)

end Go.Proofs.YtphobcobpclioaaGreatDoor
