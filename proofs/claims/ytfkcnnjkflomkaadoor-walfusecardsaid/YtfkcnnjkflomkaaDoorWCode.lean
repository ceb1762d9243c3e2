/-
  The law's number of a refusal that stands on the disk's.
-/
import Derived.Test.YtfkcnnjkflomkaaDoorWIs
import Derived.Test.YtfkcnnjkflomkaaDoorWOpen
import Derived.Deep.DeepCutAuto
namespace Go.Proofs.YtfkcnnjkflomkaaDoor
open Go.RowKit Go.BigFrame

set_option maxRecDepth 100000 in
set_option maxHeartbeats 4000000 in
theorem code_disk {b b' : Nat} (w : World) (hE : ErrType w) (f0 : w.cell? ⟨b, 0, none⟩ = some (.string ⟨#[119, 97, 108]⟩)) (f1 : w.cell? ⟨b, 1, none⟩ = some (.int .i64 0)) (f2 : w.cell? ⟨b, 2, none⟩ = some (.int .i64 63)) (f3 : w.cell? ⟨b, 3, none⟩ = some (.iface 98 (.pointer (some ⟨b', 0, none⟩)))) (hD : FaultAt w b' 0 8) : Calls Tryd.prog 20 #[.iface 98 (.pointer (some ⟨b, 0, none⟩))] w fun e w' => e = .returned (.int .i64 63) ∧ Below w.heap.size w w' := by
  have hb : b < w.heap.size := cell_lt f0
  have hE0 : Hid (ErrType w) := hE
  have HE : Hid (ErrType (w.alloc (.cells #[.pointer none] 98))) := errType_alloc hE _
  have HF : Hid (w.cell? ⟨b, 0, none⟩ = some (.string ⟨#[119, 97, 108]⟩) ∧ w.cell? ⟨b, 1, none⟩ = some (.int .i64 0) ∧ w.cell? ⟨b, 2, none⟩ = some (.int .i64 63) ∧ w.cell? ⟨b, 3, none⟩ = some (.iface 98 (.pointer (some ⟨b', 0, none⟩)))) := ⟨f0, f1, f2, f3⟩
  have HD : Hid (FaultAt w b' 0 8) := hD
  clear f0 f1 f2 f3 hE hD
  go_enter Tryd.func20, Tryd.ntmps20
  go_upto_region 4 with fail
  go_cut [48] (fun c wx => c = .bool false ∧ Hid (Below w.heap.size w wx ∧ wx.cell? ⟨w.heap.size, 0, none⟩ = some (.pointer (some ⟨b, 0, none⟩))))
  case first =>
    go_region_with (go_at_call 40; refine (as_hit' _ _ _ (by exact HE.out) (by simp) (by simp) (by simp)).mono ?_; rintro e w1 ⟨rfl, ht, hw⟩; have hcell : ∀ o, w1.cell? ⟨b, o, none⟩ = w.cell? ⟨b, o, none⟩ := (fun o => (hw.cell (p := ⟨b, o, none⟩) hb).trans (World.cell?_alloc_lt w _ ⟨b, o, none⟩ hb)); have k0 : w1.cell? ⟨b, 0, none⟩ = some (.string ⟨#[119, 97, 108]⟩) := ((hcell 0).trans HF.out.1); have k1 : w1.cell? ⟨b, 1, none⟩ = some (.int .i64 0) := ((hcell 1).trans HF.out.2.1); have k2 : w1.cell? ⟨b, 2, none⟩ = some (.int .i64 63) := ((hcell 2).trans HF.out.2.2.1); have k3 : w1.cell? ⟨b, 3, none⟩ = some (.iface 98 (.pointer (some ⟨b', 0, none⟩))) := ((hcell 3).trans HF.out.2.2.2); have HB : Hid (Below w.heap.size w w1) := (by first | exact ((Below.refl _ _).alloc (Nat.le_refl _) _).trans hw | exact (((Below.refl _ _).alloc (Nat.le_refl _) _).drew).trans hw); clear hw hcell)
    all_goals
      go_wp2_with fail
      go_meet
      exact ⟨rfl, HB.out, by simpa using ht⟩
  case rest =>
    obtain ⟨rfl, HX⟩ := hcut
    have hbc : Below w.heap.size w wc := HX.out.1
    have ht := HX.out.2
    have hcell : ∀ q o v, w.cell? ⟨q, o, none⟩ = some v → wc.cell? ⟨q, o, none⟩ = some v := fun q o v h => (hbc.cell (p := ⟨q, o, none⟩) (cell_lt h)).trans h
    have k2 := hcell b 2 _ HF.out.2.2.1
    have k3 := hcell b 3 _ HF.out.2.2.2
    have al : ∀ (q o : Nat) v, wc.cell? ⟨q, o, none⟩ = some v → ∀ x, (wc.alloc x).cell? ⟨q, o, none⟩ = some v := fun q o v h x => (World.cell?_alloc_lt _ _ ⟨q, o, none⟩ (cell_lt h)).trans h
    have a0 := al _ 0 _ ht
    have a3 := al b 3 _ k3
    have HE2 : Hid (ErrType (wc.alloc (.cells #[.pointer none] 98))) := errType_alloc (errType_below hE0.out hbc) _
    have HX2 : Hid (∀ (q o : Nat) v, wc.cell? ⟨q, o, none⟩ = some v → (wc.alloc (.cells #[.pointer none] 98)).cell? ⟨q, o, none⟩ = some v) := fun q o v h => al q o v h _
    have HC2 : Hid (∀ q o v, w.cell? ⟨q, o, none⟩ = some v → wc.cell? ⟨q, o, none⟩ = some v) := hcell
    have HL : Hid (w.heap.size ≤ wc.heap.size) := hbc.size
    clear hcell al hbc
    go_wp2_with fail
    refine (as_hit' _ _ _ HE2.out (by simp) (by simp) (by simp)).mono ?_
    rintro e w2 ⟨rfl, hu, hw2⟩
    have to2 : ∀ q o v, wc.cell? ⟨q, o, none⟩ = some v → w2.cell? ⟨q, o, none⟩ = some v := fun q o v h => (hw2.cell (p := ⟨q, o, none⟩) (cell_lt h)).trans (HX2.out q o v h)
    have m0 := to2 b' 0 _ (HC2.out b' 0 _ HD.out.1)
    have m2 := to2 b' 2 _ (HC2.out b' 2 _ HD.out.2.2.1)
    have m3 := to2 b' 3 _ (HC2.out b' 3 _ HD.out.2.2.2)
    have n2 := to2 b 2 _ k2
    have n3 := to2 b 3 _ k3
    have n0 := to2 _ 0 _ ht
    have HI : Hid (Calls Tryd.prog 41 #[.iface 98 (.pointer (some ⟨b, 0, none⟩)), .iface 69 (.int .i64 8)] w2 fun e w' => e = .returned (.bool true) ∧ w' = w2) := is_two b b' 8 w2 n3 m2 m3
    have HB2 : Hid (Below w.heap.size w w2) := below_then HX.out.1 (((Below.refl _ _).alloc (Nat.le_refl _) _).trans hw2)
    clear to2 hw2 a0 a3 ht k2 k3
    go_wp2_with fail
    refine HI.out.mono ?_
    rintro e w3 ⟨rfl, rfl⟩
    go_wp2_with fail
    go_ret
    exact ⟨rfl, HB2.out⟩
end Go.Proofs.YtfkcnnjkflomkaaDoor
