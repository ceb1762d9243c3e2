/-
  The law's own 'is': nil where no error is asked for; a *api.Fault of layer "stamp" with that place and number, found by errors.As and errors.Is.
-/
import Derived.Test.YtpcdkafjogpdkaaDoorAs
import Derived.Test.YtpcdkafjogpdkaaDoorIs
import Derived.WideLaws
namespace Go.Proofs.YtpcdkafjogpdkaaDoor
open Go.RowKit

set_option maxHeartbeats 400000 in
theorem isOk (a : Int) (w : World) : Calls Tryd.prog 11 #[.nilIface, .int .i64 a, .int .i64 0] w fun e w' => e = .returned (.bool true) ∧ w' = w := by
  go_enter Tryd.func11, Tryd.ntmps11
  go_wp2
  go_ret
  exact ⟨rfl, rfl⟩

/-- The cells of a fault of layer "stamp". -/
def FaultAt (w : World) (b : Nat) (a code : Int) : Prop :=
  w.cell? ⟨b, 0, none⟩ = some (.string ⟨#[115, 116, 97, 109, 112]⟩) ∧ w.cell? ⟨b, 1, none⟩ = some (.int .i64 a) ∧ w.cell? ⟨b, 2, none⟩ = some (.int .i64 code) ∧ w.cell? ⟨b, 3, none⟩ = some .nilIface
def ErrType (w : World) : Prop := w.cell? ⟨0, 0, none⟩ = some (.iface 103 (.agg #[.pointer (some ⟨6, 25, none⟩)]))

theorem cell_lt {w : World} {a : Addr} {v : Value} (h : w.cell? a = some v) : a.block < w.heap.size := by
  rcases Nat.lt_or_ge a.block w.heap.size with g | g
  · exact g
  · simp [World.cell?, Array.getElem?_eq_none g] at h

theorem months_alloc {w : World} (h : Months w) (o : Obj) : Months (w.alloc o) := by
  obtain ⟨a, b, c, d, e, f, g, i, j, k, l, n⟩ := h
  have hl : 1 < w.heap.size := cell_lt a
  have hc : ∀ q, (w.alloc o).cell? ⟨1, q, none⟩ = w.cell? ⟨1, q, none⟩ := fun q => World.cell?_alloc_lt _ _ ⟨1, q, none⟩ hl
  unfold Months; simp only [hc]; exact ⟨a, b, c, d, e, f, g, i, j, k, l, n⟩
theorem months_below {w w' : World} (h : Months w) (hb : Below w.heap.size w w') : Months w' := by
  obtain ⟨a, b, c, d, e, f, g, i, j, k, l, n⟩ := h
  have hl : 1 < w.heap.size := cell_lt a
  have hc : ∀ q, w'.cell? ⟨1, q, none⟩ = w.cell? ⟨1, q, none⟩ := fun q => hb.cell (p := ⟨1, q, none⟩) hl
  unfold Months; simp only [hc]; exact ⟨a, b, c, d, e, f, g, i, j, k, l, n⟩

theorem bcell {W w1 : World} (hb : Below W.heap.size W w1) : (∀ b o, b < W.heap.size → w1.cell? ⟨b, o, none⟩ = W.cell? ⟨b, o, none⟩) ∧ (∀ b o, b < W.heap.size → w1.frozen? ⟨b, o, none⟩ = W.frozen? ⟨b, o, none⟩) :=
  ⟨fun b o h => hb.cell (p := ⟨b, o, none⟩) h, fun b o h => hb.frozen (p := ⟨b, o, none⟩) h⟩

theorem as_hit' (e : Addr) (B : Nat) (w : World) (hE : ErrType w) (hB : B < w.heap.size) (ht0 : w.cell? ⟨B, 0, none⟩ = some (.pointer none)) (hf0 : w.frozen? ⟨B, 0, none⟩ = false) :
    Calls Tryd.prog 26 #[.iface 52 (.pointer (some e)), .iface 54 (.pointer (some ⟨B, 0, none⟩))] w fun ev w' => ev = .returned (.bool true) ∧ w'.cell? ⟨B, 0, none⟩ = some (.pointer (some e)) ∧ Below B w w' := by
  refine (as_hit e ⟨B, 0, none⟩ (.pointer none) w hE ht0 hf0).mono ?_
  rintro ev w' ⟨rfl, rfl⟩
  refine ⟨rfl, ?_, ?_⟩
  · refine World.cell?_setCell_same _ _ _ (?_ : _ = some (.pointer none))
    rw [World.cell?_alloc_lt _ _ ⟨B, 0, none⟩ (by simp; omega), World.cell?_alloc_lt _ _ ⟨B, 0, none⟩ (by simp; omega), World.cell?_alloc_lt _ _ ⟨B, 0, none⟩ (by simp; omega), World.cell?_alloc_lt _ _ ⟨B, 0, none⟩ hB]; exact ht0
  · exact (((((Below.refl _ _).alloc (Nat.le_of_lt hB) _).alloc (by simp; omega) _).alloc (by simp; omega) _).alloc (by simp; omega) _).setCell (Nat.le_refl _) _

set_option maxHeartbeats 1000000 in
theorem isFault (b : Nat) (a code : Int) (w : World) (hc : (code == 0) = false) (hE : ErrType w) (hF : FaultAt w b a code) :
    Calls Tryd.prog 11 #[.iface 52 (.pointer (some ⟨b, 0, none⟩)), .int .i64 a, .int .i64 code] w fun e w' => e = .returned (.bool true) ∧ Below w.heap.size w w' := by
  obtain ⟨f0, f1, f2, f3⟩ := hF
  have hb : b < w.heap.size := cell_lt f0
  have hE1 : ErrType (w.alloc (.cells #[.pointer none] 52)) := by
    unfold ErrType; rw [World.cell?_alloc_lt _ _ ⟨0, 0, none⟩ (cell_lt hE)]; exact hE
  go_enter Tryd.func11, Tryd.ntmps11
  go_wp2_with fail
  refine (as_hit' _ _ _ hE1 (by simp) (by simp) (by simp)).mono ?_
  rintro e w1 ⟨rfl, ht, hw⟩
  have hcell : ∀ o, w1.cell? ⟨b, o, none⟩ = w.cell? ⟨b, o, none⟩ := fun o => by
    rw [hw.cell (p := ⟨b, o, none⟩) hb]; exact World.cell?_alloc_lt _ _ ⟨b, o, none⟩ hb
  have k0 : w1.cell? ⟨b, 0, none⟩ = some (.string ⟨#[115, 116, 97, 109, 112]⟩) := by rw [hcell]; exact f0
  have k1 : w1.cell? ⟨b, 0 + 1, none⟩ = some (.int .i64 a) := by rw [hcell]; exact f1
  have k1' : w1.cell? ⟨b, 1, none⟩ = some (.int .i64 a) := by rw [hcell]; exact f1
  have k2 : w1.cell? ⟨b, 0 + 2, none⟩ = some (.int .i64 code) := by rw [hcell]; exact f2
  have k2' : w1.cell? ⟨b, 2, none⟩ = some (.int .i64 code) := by rw [hcell]; exact f2
  have k3 : w1.cell? ⟨b, 3, none⟩ = some .nilIface := by rw [hcell]; exact f3
  have hB : Below w.heap.size w w1 := ((Below.refl _ _).alloc (Nat.le_refl _) _).trans hw
  have HB : Hid (Below w.heap.size w w1) := hB
  clear hB hw hcell f0 f1 f2 f3 hE hE1
  go_wp2_with fail
  refine (is_code _ _ _ k2' k3).mono ?_
  rintro e w' ⟨rfl, rfl⟩
  go_wp2
  go_ret
  exact ⟨rfl, HB.out⟩
theorem fault_new (w : World) (a c : Int) : FaultAt (w.alloc (.cells #[.string ⟨#[115, 116, 97, 109, 112]⟩, .int .i64 a, .int .i64 c, .nilIface] 56)) w.heap.size a c := by simp [FaultAt]
theorem errType_below {w w' : World} (h : ErrType w) (hb : Below w.heap.size w w') : ErrType w' := by
  unfold ErrType; rw [hb.cell (p := ⟨0, 0, none⟩) (cell_lt h)]; exact h
theorem faultAt_below {w w' : World} {b : Nat} {a c : Int} (h : FaultAt w b a c) (hb : Below w.heap.size w w') : FaultAt w' b a c := by
  have hl : b < w.heap.size := cell_lt h.1
  have hc : ∀ q, w'.cell? ⟨b, q, none⟩ = w.cell? ⟨b, q, none⟩ := fun q => hb.cell (p := ⟨b, q, none⟩) hl
  unfold FaultAt; simp only [hc]; exact h

theorem below_step {w w1 w2 : World} {o : Obj} (h1 : Below w.heap.size w w1) (h2 : Below (w1.alloc o).heap.size (w1.alloc o) w2) : Below w.heap.size w w2 :=
  h1.trans ((((Below.refl w1.heap.size w1).alloc (Nat.le_refl _) o).trans (h2.mono (by simp))).mono h1.size)
theorem below_new {w w1 : World} (h1 : Below w.heap.size w w1) (o : Obj) : Below w.heap.size w (w1.alloc o) := h1.alloc h1.size o
theorem below_then {w w1 w2 : World} (h1 : Below w.heap.size w w1) (h2 : Below w1.heap.size w1 w2) : Below w.heap.size w w2 := h1.trans (h2.mono h1.size)

end Go.Proofs.YtpcdkafjogpdkaaDoor
