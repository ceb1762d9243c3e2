/-
  The law's 'fault' and 'code': an error's number and place, by errors.As.
-/
import Derived.Test.YtplhdgijjckjcaaGreatDoorAs
import Derived.Test.YtplhdgijjckjcaaGreatDoorIbLeaf
namespace Go.Proofs.YtplhdgijjckjcaaGreatDoor
open Go.RowKit

def ErrType (w : World) : Prop := w.cell? ⟨0, 0, none⟩ = some (.iface 124 (.agg #[.pointer (some ⟨1, 47, none⟩)]))
theorem errType_below {w w' : World} (h : ErrType w) (hb : Below w.heap.size w w') : ErrType w' := by
  unfold ErrType; rw [hb.cell (p := ⟨0, 0, none⟩) (cell_lt h)]; exact h
theorem errType_alloc {w : World} (h : ErrType w) (o : Obj) : ErrType (w.alloc o) := errType_below h ((Below.refl _ _).alloc (Nat.le_refl _) _)
theorem as_hit' (e : Addr) (B : Nat) (w : World) (hE : ErrType w) (hB : B < w.heap.size) (ht0 : w.cell? ⟨B, 0, none⟩ = some (.pointer none)) (hf0 : w.frozen? ⟨B, 0, none⟩ = false) :
    Calls Tryz.prog 50 #[.iface 98 (.pointer (some e)), .iface 100 (.pointer (some ⟨B, 0, none⟩))] w fun ev w' => ev = .returned (.bool true) ∧ w'.cell? ⟨B, 0, none⟩ = some (.pointer (some e)) ∧ Below B w w' := by
  refine (as_hit e ⟨B, 0, none⟩ (.pointer none) w hE ht0 hf0).mono ?_
  rintro ev w' ⟨rfl, rfl⟩
  refine ⟨rfl, ?_, ?_⟩
  · refine World.cell?_setCell_same _ _ _ (?_ : _ = some (.pointer none))
    rw [World.cell?_alloc_lt _ _ ⟨B, 0, none⟩ (by simp; omega), World.cell?_alloc_lt _ _ ⟨B, 0, none⟩ (by simp; omega), World.cell?_alloc_lt _ _ ⟨B, 0, none⟩ (by simp; omega), World.cell?_alloc_lt _ _ ⟨B, 0, none⟩ hB]; exact ht0
  · exact (((((Below.refl _ _).alloc (Nat.le_of_lt hB) _).alloc (by simp; omega) _).alloc (by simp; omega) _).alloc (by simp; omega) _).setCell (Nat.le_refl _) _
set_option maxHeartbeats 400000 in
theorem lfault_ok (w : World) : Calls Tryz.prog 18 #[.nilIface] w fun e w' => e = .returned (.tuple #[.int .i64 0, .int .i64 0]) ∧ w' = w := by
  go_enter Tryz.func18, Tryz.ntmps18
  go_wp2
  go_ret2
  exact ⟨rfl, rfl⟩
set_option maxHeartbeats 1000000 in
theorem lfault_some {b : Nat} {a code : Int} (w : World) (hE : ErrType w) (hF : IFault w b a code) (hc : (code == 0) = false) : Calls Tryz.prog 18 #[.iface 98 (.pointer (some ⟨b, 0, none⟩))] w fun e w' => e = .returned (.tuple #[.int .i64 code, .int .i64 a]) ∧ Below w.heap.size w w' := by
  obtain ⟨f0, f1, f2, f3⟩ := hF
  have hb : b < w.heap.size := cell_lt f0
  have HE : Hid (ErrType (w.alloc (.cells #[.pointer none] 98))) := errType_alloc hE _
  have HF : Hid (IFault w b a code) := ⟨f0, f1, f2, f3⟩
  clear f0 f1 f2 f3 hE
  go_enter Tryz.func18, Tryz.ntmps18
  go_wp2_with fail
  refine (as_hit' _ _ _ (by exact HE.out) (by simp) (by simp) (by simp)).mono ?_
  rintro e w1 ⟨rfl, ht, hw⟩
  have hcell : ∀ o, w1.cell? ⟨b, o, none⟩ = w.cell? ⟨b, o, none⟩ := fun o => (hw.cell (p := ⟨b, o, none⟩) hb).trans (World.cell?_alloc_lt w _ ⟨b, o, none⟩ hb)
  have k0 : w1.cell? ⟨b, 0, none⟩ = some (.string ⟨#[105, 110, 98, 111, 120]⟩) := (hcell 0).trans HF.out.1
  have k1 : w1.cell? ⟨b, 1, none⟩ = some (.int .i64 a) := (hcell 1).trans HF.out.2.1
  have k2 : w1.cell? ⟨b, 2, none⟩ = some (.int .i64 code) := (hcell 2).trans HF.out.2.2.1
  have k3 : w1.cell? ⟨b, 3, none⟩ = some .nilIface := (hcell 3).trans HF.out.2.2.2
  have HB : Hid (Below w.heap.size w w1) := ((Below.refl _ _).alloc (Nat.le_refl _) _).trans hw
  clear hw hcell
  go_wp2_with fail
  go_quiet (fail)
  go_wp2_with fail
  go_ret2
  exact ⟨rfl, below_drewN HB.out _⟩
theorem lfault_any {w : World} {B : Nat} {v : Value} {a c : Int} (h : OEv w B v a c) (h0 : c = 0 → a = 0) (hE : ErrType w) : Calls Tryz.prog 18 #[v] w fun e w' => e = .returned (.tuple #[.int .i64 c, .int .i64 a]) ∧ Below w.heap.size w w' := by
  rcases h with ⟨rfl, rfl⟩ | ⟨hc, b, rfl, _, h3⟩
  · obtain rfl := h0 rfl
    exact (lfault_ok w).mono fun e w' ⟨h, h'⟩ => ⟨h, h' ▸ Below.refl _ _⟩
  · exact lfault_some w hE h3 (by simpa using hc)
set_option maxHeartbeats 1000000 in
theorem code_any {w : World} {B : Nat} {v : Value} {c : Int} (h : OEv w B v 0 c) (hE : ErrType w) : Calls Tryz.prog 8 #[v] w fun e w' => e = .returned (.int .i64 c) ∧ Below w.heap.size w w' := by
  have hf := lfault_any h (fun _ => rfl) hE
  clear h hE
  go_enter Tryz.func8, Tryz.ntmps8
  go_wp2_with fail
  refine hf.mono ?_
  rintro _ w1 ⟨rfl, hb⟩
  clear hf
  go_wp2_with fail
  go_ret
  exact ⟨rfl, hb⟩
end Go.Proofs.YtplhdgijjckjcaaGreatDoor
