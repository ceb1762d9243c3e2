/-
  A number read into its place: it is there.
-/
import Derived.Test.YtdjjologpodnkaaGreatDoorLdRd
namespace Go.Proofs.YtdjjologpodnkaaGreatDoor
open Go.RowKit

set_option maxRecDepth 100000 in
set_option maxHeartbeats 4000000 in
theorem num_read_ok {w : World} {fb rb o : Nat} {po : Option Addr} {c : Nat} {bs : List Int} {p : Nat} (h : Rdr w fb po c bs p) (sz : Nat) (hs : sz ≤ 8) (lo hi : Int) (hlo : 0 ≤ lo) (hhi : 0 ≤ hi) (hlo2 : lo ≤ 9223372036854775807) (hhi2 : hi ≤ 9223372036854775807) (hu : Cel1 w rb o) (hrf : rb ≠ fb) {v : Int} (hrn : rNum bs p sz lo hi = .ok v) :
    Calls Tryz.prog 115 #[.agg #[.pointer (some ⟨rb, o, none⟩), .int .i64 sz, .int .i64 lo, .int .i64 hi], .pointer (some ⟨fb, 0, none⟩)] w fun r w' => ∃ W1, r = .returned (.tuple #[]) ∧ Hid (Rdr W1 fb po c bs (p + sz) ∧ Off (fun q => q = fb) w W1) ∧ w' = W1.setCell ⟨rb, o, none⟩ (.int .i64 v) := by
  have bv := (Below.refl w.heap.size w).alloc (Nat.le_refl _) (.cells #[.pointer (some ⟨rb, o, none⟩), .int .i64 sz, .int .i64 lo, .int .i64 hi] 128)
  have bx := Box.new w #[.pointer (some ⟨rb, o, none⟩), .int .i64 sz, .int .i64 lo, .int .i64 hi] 128
  have HT : Hid (∀ z, Below (w.alloc (.cells #[.pointer (some ⟨rb, o, none⟩), .int .i64 sz, .int .i64 lo, .int .i64 hi] 128)).heap.size (w.alloc (.cells #[.pointer (some ⟨rb, o, none⟩), .int .i64 sz, .int .i64 lo, .int .i64 hi] 128)) z → Calls Tryz.prog 117 #[.pointer (some ⟨fb, 0, none⟩), .int .i64 sz, .int .i64 lo, .int .i64 hi] z (NumQ z fb po c bs p sz lo hi)) := fun z hz => takeNumber_any ((h.below bv).below hz) sz hs lo hi hlo hhi hlo2 hhi2
  obtain ⟨⟨u, hu1⟩, hu2⟩ := hu
  have hul : rb < w.heap.size := cell_lt hu1
  have hfb : fb < w.heap.size := h.box.lt
  go_enter Tryz.func115, Tryz.ntmps115
  go_wp2_with fail
  generalize (w.alloc (.cells #[.pointer (some ⟨rb, o, none⟩), .int .i64 sz, .int .i64 lo, .int .i64 hi] 128)) = V at bv bx HT ⊢
  obtain ⟨xb, hxb⟩ : ∃ xb, w.heap.size = xb := ⟨_, rfl⟩
  have hbl := bx.lt
  have HT2 : Hid (∀ z, Below V.heap.size V z → Calls Tryz.prog 117 #[.pointer (some ⟨fb, 0, none⟩), .int .i64 sz, .int .i64 lo, .int .i64 hi] z fun r w' => r = .returned (.int .i64 v) ∧ (∀ q, w'.cell? ⟨xb, q, none⟩ = V.cell? ⟨xb, q, none⟩) ∧ w'.cell? ⟨rb, o, none⟩ = some u ∧ w'.frozen? ⟨rb, o, none⟩ = false ∧ Hid (Rdr w' fb po c bs (p + sz) ∧ Off (fun q => q = fb) w w')) := fun z hz => (HT.out z hz).mono fun r w' hq => by
    rcases hq with ⟨e', h1, _⟩ | ⟨v', h1, h2, h3⟩
    · rw [hrn] at h1; cases h1
    · rw [hrn] at h1
      cases h1
      have o1 : Off (fun q => q = fb) V w' := (Off.of_below hz).join h3.out.2 fun _ _ g => g
      have o2 : Off (fun q => q = fb) w w' := (Off.of_below bv).join o1 fun _ _ g => g
      exact ⟨h2, fun q => o1.cell (p := ⟨xb, q, none⟩) (by rw [← hxb]; exact hbl) (by simp only; omega), (o2.cell (p := ⟨rb, o, none⟩) hul hrf).trans hu1, (o2.frozen (p := ⟨rb, o, none⟩) hul hrf).trans hu2, h3.out.1, o2⟩
  have k0 : V.cell? ⟨xb, 0, none⟩ = some (.pointer (some ⟨rb, o, none⟩)) := by rw [← hxb]; exact bx.cell 0
  have k1 : V.cell? ⟨xb, 1, none⟩ = some (.int .i64 sz) := by rw [← hxb]; exact bx.cell 1
  have k2 : V.cell? ⟨xb, 2, none⟩ = some (.int .i64 lo) := by rw [← hxb]; exact bx.cell 2
  have k3 : V.cell? ⟨xb, 3, none⟩ = some (.int .i64 hi) := by rw [← hxb]; exact bx.cell 3
  have hnx : rb ≠ xb := by omega
  have so : ∀ (X : World) (u : Value) (q : Nat), (X.setCell ⟨rb, o, none⟩ u).cell? ⟨xb, q, none⟩ = X.cell? ⟨xb, q, none⟩ := fun X u q => World.cell?_setCell_other _ _ _ _ (fun e => hnx (Addr.mk.inj e).1)
  rw [hxb]
  clear bv bx HT hrn hxb h hbl hu1 hu2 hul hfb
  go_region_held3 (fun y => y.cell? ⟨xb, 0, none⟩ = some (.pointer (some ⟨rb, o, none⟩)) ∧ y.cell? ⟨xb, 1, none⟩ = some (.int .i64 sz) ∧ y.cell? ⟨xb, 2, none⟩ = some (.int .i64 lo) ∧ y.cell? ⟨xb, 3, none⟩ = some (.int .i64 hi)) (simp [*]) (first | (go_at_call 117; refine (HT2.out _ ?_).mono ?_; (first | exact Below.refl _ _ | exact Below.drew (Below.refl _ _)); rintro _ z1 ⟨rfl, d0, d1, d2, H1⟩; have e0 := (d0 0).trans k0; have e1 := (d0 1).trans k1; have e2 := (d0 2).trans k2; have e3 := (d0 3).trans k3; skip))
  clear HT2 d0 e0 e1 e2 e3
  go_wp2_with fail
  go_end0
  exact ⟨z1, rfl, H1, rfl⟩
end Go.Proofs.YtdjjologpodnkaaGreatDoor
