/-
  Conditions read into their place.
-/
import Derived.Test.YtdjjologpodnkaaGreatDoorLdStr
namespace Go.Proofs.YtdjjologpodnkaaGreatDoor
open Go.RowKit

def rCnd (bs : List Int) (p : Nat) : Except Nat (Bool × Int × Int) :=
  if p + 3 ≤ bs.length then (if bs.getD p 0 ≤ 1 ∧ okB (bs.getD p 0 == 1) (bs.getD (p + 1) 0) (bs.getD (p + 2) 0) = true then .ok (bs.getD p 0 == 1, bs.getD (p + 1) 0, bs.getD (p + 2) 0) else .error p) else .error bs.length
def CndRQ (w : World) (fb rb : Nat) (po : Option Addr) (c : Nat) (bs : List Int) (p : Nat) (r : Ending) (w' : World) : Prop :=
  (∃ e, rCnd bs p = .error e ∧ r = gaveUp e ∧ Off (fun q => q = fb ∨ q = rb) w w' ∧ (Off (fun q => q = fb) w w' ∨ ∃ x y z W1 W2, Off (fun q => q = fb) w W1 ∧ W2 = ((W1.setCell ⟨rb, 3, none⟩ (.bool x)).setCell ⟨rb, 4, none⟩ (.int .i64 y)).setCell ⟨rb, 5, none⟩ (.int .i64 z) ∧ Below W2.heap.size W2 w')) ∨
  (∃ x y z W1 W2, rCnd bs p = .ok (x, y, z) ∧ r = .returned (.tuple #[]) ∧ Rdr W1 fb po c bs (p + 3) ∧ Off (fun q => q = fb) w W1 ∧ W2 = ((W1.setCell ⟨rb, 3, none⟩ (.bool x)).setCell ⟨rb, 4, none⟩ (.int .i64 y)).setCell ⟨rb, 5, none⟩ (.int .i64 z) ∧ Below W2.heap.size W2 w')
set_option maxRecDepth 100000 in
set_option maxHeartbeats 2000000 in
theorem cond_read {w : World} {fb rb : Nat} {po : Option Addr} {c : Nat} {bs : List Int} {p : Nat} (hV : PVx w) (h : Rdr w fb po c bs p) (hu3 : Cel1 w rb 3) (hu4 : Cel1 w rb 4) (hu5 : Cel1 w rb 5) (hrf : rb ≠ fb) (hrp : ∀ x, po = some x → x.block ≠ rb) (hrg : rb ≠ 1) (hfg : fb ≠ 1) :
    Calls Tryz.prog 124 #[.agg #[.pointer (some ⟨rb, 3, none⟩)], .pointer (some ⟨fb, 0, none⟩)] w (CndRQ w fb rb po c bs p) := by
  have bv := (Below.refl w.heap.size w).alloc (Nat.le_refl _) (.cells #[.pointer (some ⟨rb, 3, none⟩)] 136)
  have bx := Box.new w #[.pointer (some ⟨rb, 3, none⟩)] 136
  obtain ⟨⟨u3, hu31⟩, hu32⟩ := hu3
  obtain ⟨⟨u4, hu41⟩, hu42⟩ := hu4
  obtain ⟨⟨u5, hu51⟩, hu52⟩ := hu5
  have hul : rb < w.heap.size := cell_lt hu31
  have hfb : fb < w.heap.size := h.box.lt
  have ht := take_any (h.below bv) 3
  have cx := bx.cell
  have hbx := (h.below bv).box.cell
  have HX : Hid (∀ z, Off (fun q => q = fb) (w.alloc (.cells #[.pointer (some ⟨rb, 3, none⟩)] 136)) z → (∀ q, z.cell? ⟨w.heap.size, q, none⟩ = (#[.pointer (some ⟨rb, 3, none⟩)] : Array Value)[q]?) ∧ (z.cell? ⟨rb, 3, none⟩ = some u3 ∧ z.frozen? ⟨rb, 3, none⟩ = false) ∧ (z.cell? ⟨rb, 4, none⟩ = some u4 ∧ z.frozen? ⟨rb, 4, none⟩ = false) ∧ (z.cell? ⟨rb, 5, none⟩ = some u5 ∧ z.frozen? ⟨rb, 5, none⟩ = false) ∧ Off (fun q => q = fb) w z) := fun z hz => by
    have o2 : Off (fun q => q = fb) w z := (Off.of_below bv).join hz fun _ _ g => g
    exact ⟨(bx.off hz (by omega)).cell, ⟨(o2.cell (p := ⟨rb, 3, none⟩) hul hrf).trans hu31, (o2.frozen (p := ⟨rb, 3, none⟩) hul hrf).trans hu32⟩, ⟨(o2.cell (p := ⟨rb, 4, none⟩) hul hrf).trans hu41, (o2.frozen (p := ⟨rb, 4, none⟩) hul hrf).trans hu42⟩, ⟨(o2.cell (p := ⟨rb, 5, none⟩) hul hrf).trans hu51, (o2.frozen (p := ⟨rb, 5, none⟩) hul hrf).trans hu52⟩, o2⟩
  have hnx : rb ≠ w.heap.size := by omega
  have HG : Hid (PVx w ∧ rb ≠ 1 ∧ fb ≠ 1 ∧ (∀ x, po = some x → x.block ≠ rb) ∧ Rng bs) := ⟨hV, hrg, hfg, hrp, h.rng⟩
  clear bv bx h hu31 hu32 hu41 hu42 hu51 hu52 hul hfb hV hrg hfg hrp
  go_enter Tryz.func124, Tryz.ntmps124
  go_wp2_with fail
  generalize (w.alloc (.cells #[.pointer (some ⟨rb, 3, none⟩)] 136)) = V at ht cx hbx HX ⊢
  refine ht.mono ?_
  intro r w1 hq
  clear ht cx hbx
  rcases hq with ⟨hlt, rfl, H1⟩ | ⟨hle, a2, k2, rfl, H1, H1b⟩
  · refine ⟨rfl, Or.inl ⟨bs.length, ?_, rfl, ((HX.out _ H1.out).2.2.2.2).mono (fun _ g => Or.inl g), Or.inl (HX.out _ H1.out).2.2.2.2⟩⟩
    unfold rCnd
    rw [if_neg (by omega)]
  obtain ⟨c1, ⟨d3, f3⟩, ⟨d4, f4⟩, ⟨d5, f5⟩, o1⟩ := HX.out _ H1.out.2.2
  obtain ⟨xb, hxb⟩ : ∃ xb, w.heap.size = xb := ⟨_, rfl⟩
  rw [hxb] at c1 hnx ⊢
  obtain ⟨pb, oo, rfl, hpl, e0⟩ := H1.out.1.cell 0 (by omega)
  obtain ⟨pb', oo', ee, _, e1⟩ := H1.out.1.cell 1 (by omega)
  obtain ⟨rfl, rfl⟩ : pb = pb' ∧ oo = oo' := by simpa using ee
  obtain ⟨pb', oo', ee2, _, e2⟩ := H1.out.1.cell 2 (by omega)
  obtain ⟨rfl, rfl⟩ : pb = pb' ∧ oo = oo' := by simpa using ee2
  rw [piece_getD (by omega)] at e0 e1 e2
  have hpr : pb ≠ rb := H1b.out rb HG.out.2.2.2.1 _ rfl
  have HLE : Hid (p + 3 ≤ bs.length) := hle
  have HO1 : Hid (Rdr w1 fb po c bs (p + 3) ∧ Off (fun q => q = fb) w w1) := ⟨H1.out.2.1, o1⟩
  have hr0 := getD_rng HG.out.2.2.2.2 (show p + 0 < bs.length by omega)
  have hr1 := getD_rng HG.out.2.2.2.2 (show p + 1 < bs.length by omega)
  have hr2 := getD_rng HG.out.2.2.2.2 (show p + 2 < bs.length by omega)
  have HD : Hid (rCnd bs p = if bs.getD (p + 0) 0 ≤ 1 ∧ okB (bs.getD (p + 0) 0 == 1) (bs.getD (p + 1) 0) (bs.getD (p + 2) 0) = true then .ok (bs.getD (p + 0) 0 == 1, bs.getD (p + 1) 0, bs.getD (p + 2) 0) else .error p) := by unfold Hid rCnd; rw [if_pos HLE.out]; rfl
  rw [Nat.add_zero oo] at e0
  generalize bs.getD (p + 0) 0 = b0 at e0 hr0 HD
  generalize bs.getD (p + 1) 0 = b1 at e1 hr1 HD
  generalize bs.getD (p + 2) 0 = b2 at e2 hr2 HD
  have w1' : IntKind.i64.wrap b1 = b1 := by rw [IntKind.wrap_i64]; omega
  have w2' : IntKind.i64.wrap b2 = b2 := by rw [IntKind.wrap_i64]; omega
  have k0 : w1.cell? ⟨xb, 0, none⟩ = some (.pointer (some ⟨rb, 3, none⟩)) := c1 0
  have so : ∀ (X : World) (u : Value) (q j : Nat), (X.setCell ⟨rb, j, none⟩ u).cell? ⟨xb, q, none⟩ = X.cell? ⟨xb, q, none⟩ := fun X u q j => World.cell?_setCell_other _ _ _ _ (fun e => hnx (Addr.mk.inj e).1)
  have sp : ∀ (X : World) (u : Value) (q j : Nat), (X.setCell ⟨rb, j, none⟩ u).cell? ⟨pb, q, none⟩ = X.cell? ⟨pb, q, none⟩ := fun X u q j => World.cell?_setCell_other _ _ _ _ (fun e => hpr (Addr.mk.inj e).1.symm)
  have HRR : Hid (0 ≤ b0 ∧ b0 < 256) := hr0
  clear H1 H1b c1 o1 hpl ee ee2 hle hxb hr0 hr1 hr2
  go_wp2_with fail
  go_region_held3 (fun z => z.cell? ⟨xb, 0, none⟩ = some (.pointer (some ⟨rb, 3, none⟩)) ∧ z.cell? ⟨pb, oo, none⟩ = some (.int .u8 b0) ∧ z.cell? ⟨pb, oo + 1, none⟩ = some (.int .u8 b1) ∧ z.cell? ⟨pb, oo + 2, none⟩ = some (.int .u8 b2)) (simp [*]) (first | fail)
  obtain ⟨W2, hW2⟩ : ∃ W2, ((w1.setCell ⟨rb, 3, none⟩ (.bool (b0 == 1))).setCell ⟨rb, 4, none⟩ (.int .i64 b1)).setCell ⟨rb, 5, none⟩ (.int .i64 b2) = W2 := ⟨_, rfl⟩
  rw [hW2]
  have g0 : W2.drew.cell? ⟨xb, 0, none⟩ = some (.pointer (some ⟨rb, 3, none⟩)) := by show W2.cell? _ = _; rw [← hW2, so, so, so]; exact k0
  have g1 : W2.drew.cell? ⟨pb, oo, none⟩ = some (.int .u8 b0) := by show W2.cell? _ = _; rw [← hW2, sp, sp, sp]; exact e0
  have oX : Off (fun q => q = fb ∨ q = rb) w W2 := by
    rw [← hW2]
    have o3 : Off (fun q => q = fb ∨ q = rb) w w1 := HO1.out.2.mono fun _ g => Or.inl g
    exact Off.setCell (P := fun q => q = fb ∨ q = rb) (p := ⟨rb, 5, none⟩) (Off.setCell (P := fun q => q = fb ∨ q = rb) (p := ⟨rb, 4, none⟩) (Off.setCell (P := fun q => q = fb ∨ q = rb) (p := ⟨rb, 3, none⟩) o3 (Or.inr rfl) _) (Or.inr rfl) _) (Or.inr rfl) _
  have oXd : Off (fun q => q = fb ∨ q = rb) w W2.drew := oX.drew
  have r5 : W2.drew.cell? ⟨rb, 5, none⟩ = some (.int .i64 b2) := by
    show W2.cell? _ = _
    rw [← hW2]
    exact World.cell?_setCell_same _ _ _ (by rw [World.cell?_setCell_other _ _ _ _ (fun e => by cases (Addr.mk.inj e).2.1), World.cell?_setCell_other _ _ _ _ (fun e => by cases (Addr.mk.inj e).2.1)]; exact d5)
  have r4 : W2.drew.cell? ⟨rb, 4, none⟩ = some (.int .i64 b1) := by
    show W2.cell? _ = _
    rw [← hW2, World.cell?_setCell_other _ _ _ _ (fun e => by cases (Addr.mk.inj e).2.1)]
    exact World.cell?_setCell_same _ _ _ (by rw [World.cell?_setCell_other _ _ _ _ (fun e => by cases (Addr.mk.inj e).2.1)]; exact d4)
  have r3 : W2.drew.cell? ⟨rb, 3, none⟩ = some (.bool (b0 == 1)) := by
    show W2.cell? _ = _
    rw [← hW2, World.cell?_setCell_other _ _ _ _ (fun e => by cases (Addr.mk.inj e).2.1), World.cell?_setCell_other _ _ _ _ (fun e => by cases (Addr.mk.inj e).2.1)]
    exact World.cell?_setCell_same _ _ _ d3
  have hVX : PVx W2.drew := fun j hj => by
    obtain ⟨s, hs⟩ := HG.out.1 j hj
    exact ⟨s, (oXd.cell (p := ⟨1, j, none⟩) (cell_lt hs) (fun g => by rcases g with g | g; exact HG.out.2.2.1 g.symm; exact HG.out.2.1 g.symm)).trans hs⟩
  have cw := cond_well rb (b0 == 1) b1 b2 W2.drew hVX r3 r4 r5
  have HF : Hid (W2 = ((w1.setCell ⟨rb, 3, none⟩ (.bool (b0 == 1))).setCell ⟨rb, 4, none⟩ (.int .i64 b1)).setCell ⟨rb, 5, none⟩ (.int .i64 b2) ∧ Off (fun q => q = fb ∨ q = rb) w W2.drew) := ⟨hW2.symm, oXd⟩
  have HBD : Hid (Below W2.heap.size W2 W2.drew) := Below.drew (Below.refl _ _)
  generalize W2.drew = X at g0 g1 cw HF HBD ⊢
  clear hVX r3 r4 r5 oX oXd hW2 so sp k0 e0 e1 e2 d3 d4 d5 f3 f4 f5 w1' w2'
  by_cases hb0 : b0 > 1
  · have HE : Hid (rCnd bs p = .error p) := by unfold Hid; rw [HD.out, if_neg (fun g => by omega)]
    go_wp2_with fail
    refine (giveUp_any _ _).mono ?_
    rintro _ w9 ⟨rfl, h9⟩
    subst w9
    exact ⟨rfl, Or.inl ⟨p, HE.out, rfl, HF.out.2, Or.inr ⟨b0 == 1, b1, b2, w1, W2, HO1.out.2, HF.out.1, HBD.out⟩⟩⟩
  · cases hok : okB (b0 == 1) b1 b2 with
    | true =>
      have HE : Hid (rCnd bs p = .ok (b0 == 1, b1, b2)) := by unfold Hid; rw [HD.out, if_pos ⟨by omega, hok⟩]
      rw [hok] at cw
      clear hok
      go_wp2_with fail
      refine cw.mono ?_
      rintro _ w9 ⟨rfl, h9⟩
      have HB9 : Hid (Below W2.heap.size W2 w9) := below_then HBD.out h9
      clear cw h9
      go_wp2_with fail
      go_end0
      exact Or.inr ⟨b0 == 1, b1, b2, w1, W2, HE.out, rfl, HO1.out.1, HO1.out.2, HF.out.1, HB9.out⟩
    | false =>
      have HE : Hid (rCnd bs p = .error p) := by unfold Hid; rw [HD.out, if_neg (fun g => by rw [hok] at g; cases g.2)]
      rw [hok] at cw
      clear hok
      go_wp2_with fail
      refine cw.mono ?_
      rintro _ w9 ⟨rfl, h9⟩
      have HB9 : Hid (Off (fun q => q = fb ∨ q = rb) w w9) := HF.out.2.join (Off.of_below h9) fun _ _ g => g
      have HBB : Hid (Below W2.heap.size W2 w9) := below_then HBD.out h9
      clear cw h9
      go_wp2_with fail
      refine (giveUp_any _ _).mono ?_
      rintro _ w8 ⟨rfl, h8⟩
      subst w8
      exact ⟨rfl, Or.inl ⟨p, HE.out, rfl, HB9.out, Or.inr ⟨b0 == 1, b1, b2, w1, W2, HO1.out.2, HF.out.1, HBB.out⟩⟩⟩
end Go.Proofs.YtdjjologpodnkaaGreatDoor
