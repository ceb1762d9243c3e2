/-
  What 'DkMem' stands on, where no disk is.
-/
import Derived.Test.YtommpallecaadaaDoorDkOff
namespace Go.Proofs.YtommpallecaadaaDoor
open Go.RowKit
theorem Byts.off {P : Nat → Prop} {w w' : World} {po : Option Addr} {n : Nat} {bs : List Int} (h : Byts w po n bs) (ho : Off P w w') (hP : ∀ b o, po = some ⟨b, o, none⟩ → ¬ P b) : Byts w' po n bs :=
  ⟨h.len, fun j hj => by
    obtain ⟨b, o, hp, hb, hc⟩ := h.cell j hj
    exact ⟨b, o, hp, Nat.lt_of_lt_of_le hb ho.size, by rw [ho.cell (p := ⟨b, o + j, none⟩) hb (hP b o hp)]; exact hc⟩⟩
theorem Byts.drew {w : World} {po : Option Addr} {n : Nat} {bs : List Int} (h : Byts w po n bs) (k : Nat) : Byts (w.drewN k) po n bs := h.off (P := fun _ => False) ((Off.refl _ _).drewN _) (fun _ _ _ => id)
end Go.Proofs.YtommpallecaadaaDoor
