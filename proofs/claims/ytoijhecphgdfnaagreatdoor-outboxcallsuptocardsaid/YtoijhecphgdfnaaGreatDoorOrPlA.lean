import Derived.Test.YtoijhecphgdfnaaGreatDoorOrPl2
/-
  The law's plays: Get.
-/
namespace Go.Proofs.YtoijhecphgdfnaaGreatDoor
open Go.RowKit

section
variable {w w1 w2 w3 w4 w' z : World} {K b kb r B hb n m : Nat} {v L : Value} {f : Nat → Value} {sq : Bool} {tr : Int} {ms rs : List Msg}
set_option maxRecDepth 100000 in
set_option maxHeartbeats 8000000 in
theorem plays_get (h : Pr w K b kb r v L sq tr ms rs) (hw : HW w B hb n f) (hn : n + 2 ≤ 1000000000) (x : Opv) :
    Calls Tryz.prog 7 #[.agg #[.pointer (some ⟨b, 0, none⟩), .pointer (some ⟨r, 0, none⟩)], .agg #[.int .i64 7, .string x.ct, .slice x.tp x.tn x.tc, .bool x.e, .int .i64 x.a, .int .i64 x.p, .string x.cd, .int .i64 x.n], .pointer (some ⟨hb, 0, none⟩)] w fun e w' => e = .returned (.bool true) ∧ Hid (PlH w K b kb r B hb (n + 2) v L f sq tr ms rs w') := by
  have bv : Below w.heap.size w ((w.alloc (.cells #[.pointer (some ⟨b, 0, none⟩), .pointer (some ⟨r, 0, none⟩)] 29)).alloc (.cells #[.int .i64 7, .string x.ct, .slice x.tp x.tn x.tc, .bool x.e, .int .i64 x.a, .int .i64 x.p, .string x.cd, .int .i64 x.n] 47)) := ((Below.refl _ _).alloc (Nat.le_refl _) _).alloc (by simp) _
  have bx := (Box.new w #[.pointer (some ⟨b, 0, none⟩), .pointer (some ⟨r, 0, none⟩)] 29).alloc (.cells #[.int .i64 7, .string x.ct, .slice x.tp x.tn x.tc, .bool x.e, .int .i64 x.a, .int .i64 x.p, .string x.cd, .int .i64 x.n] 47)
  have by_ := Box.new (w.alloc (.cells #[.pointer (some ⟨b, 0, none⟩), .pointer (some ⟨r, 0, none⟩)] 29)) #[.int .i64 7, .string x.ct, .slice x.tp x.tn x.tc, .bool x.e, .int .i64 x.a, .int .i64 x.p, .string x.cd, .int .i64 x.n] 47
  rw [World.size_alloc] at by_
  obtain ⟨V, hVV⟩ : ∃ V, ((w.alloc (.cells #[.pointer (some ⟨b, 0, none⟩), .pointer (some ⟨r, 0, none⟩)] 29)).alloc (.cells #[.int .i64 7, .string x.ct, .slice x.tp x.tn x.tc, .bool x.e, .int .i64 x.a, .int .i64 x.p, .string x.cd, .int .i64 x.n] 47)) = V := ⟨_, rfl⟩
  rw [hVV] at bv bx by_
  have HH : Hid (Pr w K b kb r v L sq tr ms rs ∧ HW w B hb n f ∧ n + 2 ≤ 1000000000 ∧ Below w.heap.size w V) := ⟨h, hw, hn, bv⟩
  obtain ⟨y, cd, hy, hp, hr⟩ := get_both (b := b) (kb := kb) (K := K) (r := r) (v := v) (L := L) (sq := sq) (tr := tr) h.wis (fun m hm => (h.pb.bx.2.2 m hm).2) x.ct
  have HY : Hid (y.tn ≤ 8192 ∧ ∀ z, RB z K r L sq tr rs → Calls Tryz.prog 32 #[.pointer (some ⟨r, 0, none⟩), .string x.ct] z (StQ2 z y cd)) := ⟨hy, hr⟩
  have hpn := hp V (h.below bv).pb.bx
  obtain ⟨xb, hxb⟩ : ∃ xb, w.heap.size = xb := ⟨_, rfl⟩
  rw [hxb] at bx by_
  have y0 : V.cell? ⟨xb + 1, 0, none⟩ = some (.int .i64 7) := by_.cell 0
  have y1 : V.cell? ⟨xb + 1, 1, none⟩ = some (.string x.ct) := by_.cell 1
  have z0 : V.cell? ⟨xb, 0, none⟩ = some (.pointer (some ⟨b, 0, none⟩)) := bx.cell 0
  have HX : Hid (V.cell? ⟨xb, 1, none⟩ = some (.pointer (some ⟨r, 0, none⟩)) ∧ xb < V.heap.size ∧ V.cell? ⟨xb + 1, 1, none⟩ = some (.string x.ct) ∧ xb + 1 < V.heap.size) := ⟨bx.cell 1, bx.lt, by_.cell 1, by_.lt⟩
  clear h hw hn bv bx by_ hp hr hy
  go_enter Tryz.func7, Tryz.ntmps7
  go_upto_region 36 with (go_at_call 31; refine hpn.mono ?_; rintro _ w2 ⟨a2, c2, ev, rfl, H2⟩)
  clear hpn hVV y0 y1 z0
  have b2 := H2.out.2.2
  have bA : Below w2.heap.size w2 (w2.alloc (.cells #[.string y.ct, .slice a2 y.tn c2, .bool y.e, .int .i64 y.a, .int .i64 y.p, .int .i64 y.nu, .bool y.nt, .int .i64 y.st, .int .i64 y.lf, .bool y.un] 91)) := (Below.refl _ _).alloc (Nat.le_refl _) _
  have xA := Box.new w2 #[.string y.ct, .slice a2 y.tn c2, .bool y.e, .int .i64 y.a, .int .i64 y.p, .int .i64 y.nu, .bool y.nt, .int .i64 y.st, .int .i64 y.lf, .bool y.un] 91
  obtain ⟨V2, hV2⟩ : ∃ V2, w2.alloc (.cells #[.string y.ct, .slice a2 y.tn c2, .bool y.e, .int .i64 y.a, .int .i64 y.p, .int .i64 y.nu, .bool y.nt, .int .i64 y.st, .int .i64 y.lf, .bool y.un] 91) = V2 := ⟨_, rfl⟩
  rw [hV2] at bA xA
  have b2A := below_then b2 bA
  have z1 : V2.cell? ⟨xb, 1, none⟩ = some (.pointer (some ⟨r, 0, none⟩)) := (b2A.cell (p := ⟨xb, 1, none⟩) HX.out.2.1).trans HX.out.1
  have y1 : V2.cell? ⟨xb + 1, 1, none⟩ = some (.string x.ct) := (b2A.cell (p := ⟨xb + 1, 1, none⟩) HX.out.2.2.2).trans HX.out.2.2.1
  have hrn := HY.out.2 V2 (HH.out.1.below (below_then HH.out.2.2.2 b2A)).pb.rb
  have HA : Hid (Box V2 w2.heap.size #[.string y.ct, .slice a2 y.tn c2, .bool y.e, .int .i64 y.a, .int .i64 y.p, .int .i64 y.nu, .bool y.nt, .int .i64 y.st, .int .i64 y.lf, .bool y.un] ∧ Below w2.heap.size w2 V2) := ⟨xA, bA⟩
  clear b2 bA xA b2A
  go_upto_region 37 with (go_at_call 32; refine hrn.mono ?_; rintro _ w3 ⟨a3, c3, rfl, H3⟩)
  clear hrn z1 hV2 y1
  have b3 := H3.out.2
  have bA : Below w3.heap.size w3 (w3.alloc (.cells #[.string y.ct, .slice a3 y.tn c3, .bool y.e, .int .i64 y.a, .int .i64 y.p, .int .i64 y.nu, .bool y.nt, .int .i64 y.st, .int .i64 y.lf, .bool y.un] 91)) := (Below.refl _ _).alloc (Nat.le_refl _) _
  have xA := Box.new w3 #[.string y.ct, .slice a3 y.tn c3, .bool y.e, .int .i64 y.a, .int .i64 y.p, .int .i64 y.nu, .bool y.nt, .int .i64 y.st, .int .i64 y.lf, .bool y.un] 91
  obtain ⟨V3, hV3⟩ : ∃ V3, w3.alloc (.cells #[.string y.ct, .slice a3 y.tn c3, .bool y.e, .int .i64 y.a, .int .i64 y.p, .int .i64 y.nu, .bool y.nt, .int .i64 y.st, .int .i64 y.lf, .bool y.un] 91) = V3 := ⟨_, rfl⟩
  rw [hV3] at bA xA
  have b3A := below_then b3 bA
  have b23 := below_then HA.out.2 b3A
  have b13 : Below w.heap.size w V3 := below_then (below_then HH.out.2.2.2 H2.out.2.2) b23
  have r2 : BRow V3 V.heap.size (.slice a2 y.tn c2) y.tx := ERow.below H2.out.1 b23
  have r3 : BRow V3 V2.heap.size (.slice a3 y.tn c3) y.tx := ERow.below H3.out.1 bA
  have x2 := HA.out.1.below b3A
  have HB : Hid (BRow V3 V.heap.size (.slice a2 y.tn c2) y.tx ∧ BRow V3 V2.heap.size (.slice a3 y.tn c3) y.tx ∧ Below w.heap.size w V3 ∧ Box V3 w2.heap.size #[.string y.ct, .slice a2 y.tn c2, .bool y.e, .int .i64 y.a, .int .i64 y.p, .int .i64 y.nu, .bool y.nt, .int .i64 y.st, .int .i64 y.lf, .bool y.un] ∧ Box V3 w3.heap.size #[.string y.ct, .slice a3 y.tn c3, .bool y.e, .int .i64 y.a, .int .i64 y.p, .int .i64 y.nu, .bool y.nt, .int .i64 y.st, .int .i64 y.lf, .bool y.un] ∧ OEv V3 V.heap.size ev 0 cd ∧ V.heap.size ≤ w2.heap.size ∧ V.heap.size ≤ w3.heap.size) := ⟨r2, r3, b13, x2, xA, H2.out.2.1.below b23, H2.out.2.2.size, Nat.le_trans H2.out.2.2.size (Nat.le_trans HA.out.2.size b3.size)⟩
  have k2 : V3.cell? ⟨w2.heap.size, 0 + 1, none⟩ = some (.slice a2 y.tn c2) := x2.cell 1
  have HT : Hid (∀ z, Below V3.heap.size V3 z → Calls Tryz.prog 20 #[.pointer (some ⟨hb, 4, none⟩), .slice a2 y.tn c2] z fun e w4 => e = .returned (.tuple #[]) ∧ Hid (Below V3.heap.size V3 z ∧ HWQ z B hb (n + 2) f w4)) := fun z hz => (htake_any (c := c2) (HH.out.2.1.below (below_then b13 hz)) (r2.byts.below hz) HH.out.2.2.1 (by have := HY.out.1; omega)).mono fun e w4 ⟨e1, h1⟩ => ⟨e1, hz, h1.out⟩
  clear b3 bA b3A b23 b13 r2 r3 x2 xA H2 H3 HA
  rw [Nat.zero_add] at k2
  go_region_law (go_simp; go_at_call 20; refine (HT.out _ (Below.drew (Below.refl _ _))).mono ?_; rintro _ w4 ⟨rfl, H4⟩; go_wp2_with fail)
  all_goals
    obtain ⟨hz4, hq4⟩ := H4.out
    obtain ⟨f4, g4, k4, o4⟩ := hq4
    have oo : Off (HFt hb f) V3 w4 := (Off.of_below hz4).trans o4
    have hv3 := HH.out.2.1.below HB.out.2.2.1
    have hlo : ∀ q, V.heap.size ≤ q → ¬ HFt hb f q := fun q hq e => by have := hft_lt HH.out.2.1 e; have := HH.out.2.2.2.size; omega
    have x2 := HB.out.2.2.2.1.off oo (hlo _ HB.out.2.2.2.2.2.2.1)
    have x3 := HB.out.2.2.2.2.1.off oo (hlo _ HB.out.2.2.2.2.2.2.2)
    have t2 := brow_held hv3 oo HB.out.1
    have t3 := brow_held hv3 oo HB.out.2.1
    have e5 : OEv w4 V.heap.size ev 0 cd := HB.out.2.2.2.2.2.1.off oo fun q h1 _ h3 => hlo q h1 h3
    have HL : Hid (∀ z, Below w4.heap.size w4 z → PlH w K b kb r B hb (n + 2) v L f sq tr ms rs z) := fun z hz => PlH.looked HH.out.1 HH.out.2.1 (below_then HB.out.2.2.1 hz4) ⟨f4, g4, k4, o4⟩ hz
    have HS : Hid (∀ z, Below w4.heap.size w4 z → Calls Tryz.prog 33 #[.agg #[.string y.ct, .slice a2 y.tn c2, .bool y.e, .int .i64 y.a, .int .i64 y.p, .int .i64 y.nu, .bool y.nt, .int .i64 y.st, .int .i64 y.lf, .bool y.un], .agg #[.string y.ct, .slice a3 y.tn c3, .bool y.e, .int .i64 y.a, .int .i64 y.p, .int .i64 y.nu, .bool y.nt, .int .i64 y.st, .int .i64 y.lf, .bool y.un]] z fun e w' => e = .returned (.bool true) ∧ Hid (Below w4.heap.size w4 w')) := fun z hz => (sameSent_true y (t2.byts.below hz) (t3.byts.below hz) (by have := HY.out.1; omega)).mono fun e w' ⟨e1, h1⟩ => ⟨e1, below_then hz h1⟩
    have HR : Hid (∀ z, Below w4.heap.size w4 z → Calls Tryz.prog 13 #[ev, .int .i64 0, .int .i64 cd] z fun e w' => e = .returned (.bool true) ∧ w' = z) := fun z hz => refused_any (e5.below hz).err
    have p0 : w4.cell? ⟨w2.heap.size, 0, none⟩ = some (.string y.ct) := x2.cell 0
    have q0 : w4.cell? ⟨w3.heap.size, 0, none⟩ = some (.string y.ct) := x3.cell 0
    have p1 : w4.cell? ⟨w2.heap.size, 1, none⟩ = some (.slice a2 y.tn c2) := x2.cell 1
    have q1 : w4.cell? ⟨w3.heap.size, 1, none⟩ = some (.slice a3 y.tn c3) := x3.cell 1
    have p2 : w4.cell? ⟨w2.heap.size, 2, none⟩ = some (.bool y.e) := x2.cell 2
    have q2 : w4.cell? ⟨w3.heap.size, 2, none⟩ = some (.bool y.e) := x3.cell 2
    have p3 : w4.cell? ⟨w2.heap.size, 3, none⟩ = some (.int .i64 y.a) := x2.cell 3
    have q3 : w4.cell? ⟨w3.heap.size, 3, none⟩ = some (.int .i64 y.a) := x3.cell 3
    have p4 : w4.cell? ⟨w2.heap.size, 4, none⟩ = some (.int .i64 y.p) := x2.cell 4
    have q4 : w4.cell? ⟨w3.heap.size, 4, none⟩ = some (.int .i64 y.p) := x3.cell 4
    have p5 : w4.cell? ⟨w2.heap.size, 5, none⟩ = some (.int .i64 y.nu) := x2.cell 5
    have q5 : w4.cell? ⟨w3.heap.size, 5, none⟩ = some (.int .i64 y.nu) := x3.cell 5
    have p6 : w4.cell? ⟨w2.heap.size, 6, none⟩ = some (.bool y.nt) := x2.cell 6
    have q6 : w4.cell? ⟨w3.heap.size, 6, none⟩ = some (.bool y.nt) := x3.cell 6
    have p7 : w4.cell? ⟨w2.heap.size, 7, none⟩ = some (.int .i64 y.st) := x2.cell 7
    have q7 : w4.cell? ⟨w3.heap.size, 7, none⟩ = some (.int .i64 y.st) := x3.cell 7
    have p8 : w4.cell? ⟨w2.heap.size, 8, none⟩ = some (.int .i64 y.lf) := x2.cell 8
    have q8 : w4.cell? ⟨w3.heap.size, 8, none⟩ = some (.int .i64 y.lf) := x3.cell 8
    have p9 : w4.cell? ⟨w2.heap.size, 9, none⟩ = some (.bool y.un) := x2.cell 9
    have q9 : w4.cell? ⟨w3.heap.size, 9, none⟩ = some (.bool y.un) := x3.cell 9
    clear e5 hz4 g4 k4 o4 oo hv3 hlo x2 x3 t2 t3 H4 k2
    go_wp2_with (first | (go_at_call 33; refine (HS.out _ (by first | exact Below.refl _ _ | exact below_drewN (Below.refl _ _) _)).mono ?_; rintro _ w6 ⟨rfl, H6⟩) | (go_at_call 13; refine (HR.out _ (by first | exact H6.out | exact below_drewN H6.out _)).mono ?_; rintro _ w9 ⟨rfl, h9⟩; subst w9))
    go_ret
    exact ⟨rfl, HL.out _ (by first | exact H6.out | exact below_drewN H6.out _)⟩
end
end Go.Proofs.YtoijhecphgdfnaaGreatDoor

/-
  The law's plays: all.
-/
namespace Go.Proofs.YtoijhecphgdfnaaGreatDoor
open Go.RowKit

section
variable {w w1 w2 w3 w4 w' z : World} {K b kb r B hb n m : Nat} {v L : Value} {f : Nat → Value} {sq : Bool} {tr : Int} {ms rs : List Msg}
theorem PlH.back (h1 : Below w.heap.size w w1) (h : PlH w1 K b kb r B hb m v L f sq tr ms rs w') : PlH w K b kb r B hb m v L f sq tr ms rs w' := by
  obtain ⟨v', L', ms', rs', f', p1, p2, p3, p4, p5⟩ := h
  exact ⟨v', L', ms', rs', f', p1, p2, fun q hq => (p3 q hq).imp id fun g => Nat.le_trans h1.size g, fun q hq => (p4 q hq).imp id fun g => Nat.le_trans h1.size g, (Off.of_below h1).trans p5⟩
set_option maxRecDepth 100000 in
set_option maxHeartbeats 8000000 in
theorem plays_all (h : Pr w K b kb r v L sq tr ms rs) (hw : HW w B hb n f) (hn : n + 200 ≤ 1000000000) (x : Opv) :
    Calls Tryz.prog 7 #[.agg #[.pointer (some ⟨b, 0, none⟩), .pointer (some ⟨r, 0, none⟩)], .agg #[.int .i64 8, .string x.ct, .slice x.tp x.tn x.tc, .bool x.e, .int .i64 x.a, .int .i64 x.p, .string x.cd, .int .i64 x.n], .pointer (some ⟨hb, 0, none⟩)] w fun e w' => e = .returned (.bool true) ∧ Hid (PlH w K b kb r B hb (n + 200) v L f sq tr ms rs w') := by
  have bv : Below w.heap.size w ((w.alloc (.cells #[.pointer (some ⟨b, 0, none⟩), .pointer (some ⟨r, 0, none⟩)] 29)).alloc (.cells #[.int .i64 8, .string x.ct, .slice x.tp x.tn x.tc, .bool x.e, .int .i64 x.a, .int .i64 x.p, .string x.cd, .int .i64 x.n] 47)) := ((Below.refl _ _).alloc (Nat.le_refl _) _).alloc (by simp) _
  have bx := (Box.new w #[.pointer (some ⟨b, 0, none⟩), .pointer (some ⟨r, 0, none⟩)] 29).alloc (.cells #[.int .i64 8, .string x.ct, .slice x.tp x.tn x.tc, .bool x.e, .int .i64 x.a, .int .i64 x.p, .string x.cd, .int .i64 x.n] 47)
  have by_ := Box.new (w.alloc (.cells #[.pointer (some ⟨b, 0, none⟩), .pointer (some ⟨r, 0, none⟩)] 29)) #[.int .i64 8, .string x.ct, .slice x.tp x.tn x.tc, .bool x.e, .int .i64 x.a, .int .i64 x.p, .string x.cd, .int .i64 x.n] 47
  rw [World.size_alloc] at by_
  obtain ⟨V, hVV⟩ : ∃ V, ((w.alloc (.cells #[.pointer (some ⟨b, 0, none⟩), .pointer (some ⟨r, 0, none⟩)] 29)).alloc (.cells #[.int .i64 8, .string x.ct, .slice x.tp x.tn x.tc, .bool x.e, .int .i64 x.a, .int .i64 x.p, .string x.cd, .int .i64 x.n] 47)) = V := ⟨_, rfl⟩
  rw [hVV] at bv bx by_
  have HA : Hid (∀ z, Below V.heap.size V z → Calls Tryz.prog 8 #[.agg #[.pointer (some ⟨b, 0, none⟩), .pointer (some ⟨r, 0, none⟩)], .pointer (some ⟨hb, 0, none⟩)] z fun e w' => e = .returned (.bool true) ∧ Hid (PlH w K b kb r B hb (n + 200) v L f sq tr ms rs w')) := fun z hz => (all_any (h.below (below_then bv hz)) (hw.below (below_then bv hz)) hn).mono fun e w' ⟨e1, h1⟩ => ⟨e1, PlH.back (below_then bv hz) h1.out⟩
  obtain ⟨xb, hxb⟩ : ∃ xb, w.heap.size = xb := ⟨_, rfl⟩
  rw [hxb] at bx by_
  have y0 : V.cell? ⟨xb + 1, 0, none⟩ = some (.int .i64 8) := by_.cell 0
  have z0 : V.cell? ⟨xb, 0, none⟩ = some (.pointer (some ⟨b, 0, none⟩)) := bx.cell 0
  have z1 : V.cell? ⟨xb, 1, none⟩ = some (.pointer (some ⟨r, 0, none⟩)) := bx.cell 1
  clear h hw hn bv bx by_
  go_enter Tryz.func7, Tryz.ntmps7
  go_wp2_with (go_at_call 8; refine (HA.out _ (by first | exact Below.refl _ _ | exact below_drewN (Below.refl _ _) _)).mono ?_; rintro _ w2 ⟨rfl, H2⟩)
  go_ret
  exact ⟨rfl, H2⟩
end
end Go.Proofs.YtoijhecphgdfnaaGreatDoor

/-
  The law's plays, whatever the call.
-/
namespace Go.Proofs.YtoijhecphgdfnaaGreatDoor
open Go.RowKit

section
variable {w w1 w2 w3 w4 w' z : World} {K b kb r B hb n m : Nat} {v L : Value} {f : Nat → Value} {sq : Bool} {tr : Int} {ms rs : List Msg}
theorem PlH.more {k : Nat} (h : PlH w K b kb r B hb m v L f sq tr ms rs w') (hk : m ≤ k) : PlH w K b kb r B hb k v L f sq tr ms rs w' := by
  obtain ⟨v', L', ms', rs', f', p1, p2, p3⟩ := h
  exact ⟨v', L', ms', rs', f', p1, p2.more hk, p3⟩
theorem PlR.toH (h : Pr w K b kb r v L sq tr ms rs) (hw : HW w B hb n f) (hp : PlR w K b kb r v L sq tr ms rs (fun _ => False) w') : PlH w K b kb r B hb n v L f sq tr ms rs w' :=
  PlH.of h hw hp fun f1 h1 e => by
    subst e
    exact ⟨f1, h1, fun k hk => Or.inl hk, Off.refl _ _⟩
theorem plays_any (h : Pr w K b kb r v L sq tr ms rs) (hV : PVc w) (hw : HW w B hb n f) (hn : n + 200 ≤ 1000000000) (x : Opv) (hp : Byts w x.tp x.tn x.tx) (hpo : x.tp = none → x.tc = 0) (hl : x.tn + 90 ≤ 140737488355328) (hK : 0 < x.tn → ∀ b o, x.tp = some ⟨b, o, none⟩ → b < K) :
    Calls Tryz.prog 7 #[.agg #[.pointer (some ⟨b, 0, none⟩), .pointer (some ⟨r, 0, none⟩)], .agg #[.int .i64 x.kd, .string x.ct, .slice x.tp x.tn x.tc, .bool x.e, .int .i64 x.a, .int .i64 x.p, .string x.cd, .int .i64 x.n], .pointer (some ⟨hb, 0, none⟩)] w fun e w' => e = .returned (.bool true) ∧ Hid (PlH w K b kb r B hb (n + 200) v L f sq tr ms rs w') := by
  by_cases h1 : x.kd = 1
  · rw [h1]; exact (plays_add h hV x hp hpo hl hK _).mono fun e w' ⟨e1, g⟩ => ⟨e1, (PlR.toH h hw g.out).more (by omega)⟩
  by_cases h2 : x.kd = 2
  · rw [h2]; exact (plays_next h hw (by omega) x).mono fun e w' ⟨e1, g⟩ => ⟨e1, g.out.more (by omega)⟩
  by_cases h3 : x.kd = 3
  · rw [h3]; exact (plays_give h x _).mono fun e w' ⟨e1, g⟩ => ⟨e1, (PlR.toH h hw g.out).more (by omega)⟩
  by_cases h4 : x.kd = 4
  · rw [h4]; exact (plays_go h hV hw (by omega) x (goA_len _ _ _)).mono fun e w' ⟨e1, g⟩ => ⟨e1, g.out.more (by omega)⟩
  by_cases h5 : x.kd = 5
  · rw [h5]; exact (plays_heard h hV hw (by omega) x (heardA_len _ _ _ _ _)).mono fun e w' ⟨e1, g⟩ => ⟨e1, g.out.more (by omega)⟩
  by_cases h6 : x.kd = 6
  · rw [h6]; exact (plays_due h hV hw (by omega) x (dueA_len _ _)).mono fun e w' ⟨e1, g⟩ => ⟨e1, g.out.more (by omega)⟩
  by_cases h7 : x.kd = 7
  · rw [h7]; exact (plays_get h hw (by omega) x).mono fun e w' ⟨e1, g⟩ => ⟨e1, g.out.more (by omega)⟩
  by_cases h8 : x.kd = 8
  · rw [h8]; exact (plays_all h hw (by omega) x).mono fun e w' ⟨e1, g⟩ => ⟨e1, g.out.more (by omega)⟩
  · exact (plays_other h x h1 h2 h3 h4 h5 h6 h7 h8 _).mono fun e w' ⟨e1, g⟩ => ⟨e1, (PlR.toH h hw g.out).more (by omega)⟩
/-- What a call writes lies behind the world in which the law began. -/
theorem Off.behind {P : Nat → Prop} {W : World} (hW : Below W.heap.size W w) (o : Off P w w') (hP : ∀ q, P q → W.heap.size ≤ q) : Below W.heap.size W w' := hW.trans (o.below hW.size fun q hq => hP q hq)
theorem ft_behind (h : Pb w K b kb r v L sq tr ms rs) (hw : HW w B hb n f) {N : Nat} (hK : N ≤ K) (hB : N ≤ B) {q : Nat} (hq : Ft b kb r v L ms rs q ∨ HFt hb f q) : N ≤ q := by
  rcases hq with g | g | ⟨j, hj, e⟩
  · exact Nat.le_trans hK (h.lt g).1
  · subst g; exact Nat.le_trans hB hw.lB
  · obtain ⟨xs, _, hr⟩ := hw.row j hj
    exact Nat.le_trans hB (ERow.lt hr e).1
/-- The law's own box of both is none of theirs. -/
theorem ft_two (h : Pb w K b kb r v L sq tr ms rs) (hw : HW w B hb n f) {q : Nat} {cs : Array Value} (hc : w.heap[q]? = some (.cells cs 29 (0, 0))) : ¬ (Ft b kb r v L ms rs q ∨ HFt hb f q) := fun e => by
  rcases e with h1 | h1
  · have key : ∃ cs t, w.heap[q]? = some (.cells cs t (0, 0)) ∧ t ≠ 29 := by
      rcases h1 with e | e | e | e | e | ⟨m, hm, e⟩ | ⟨m, hm, e⟩
      · subst e; exact ⟨_, _, h.bx.1, by decide⟩
      · subst e; exact ⟨_, _, h.bx.2.1.1, by decide⟩
      · subst e; exact ⟨_, _, h.rb.blk, by decide⟩
      · obtain ⟨cs, hc⟩ := msrow_type h.bx.2.1.2.1 e
        exact ⟨_, _, hc, by decide⟩
      · obtain ⟨cs, hc⟩ := msrow_type h.rb.row e
        exact ⟨_, _, hc, by decide⟩
      · obtain ⟨cs, hc⟩ := brow_type (h.bx.2.2 m hm).1 e
        exact ⟨_, _, hc, by decide⟩
      · obtain ⟨cs, hc⟩ := brow_type (h.rb.own m hm).1 e
        exact ⟨_, _, hc, by decide⟩
    obtain ⟨cs', t, hc', ht⟩ := key
    rw [hc] at hc'
    simp only [Option.some.injEq, Obj.cells.injEq] at hc'
    exact ht hc'.2.1.symm
  · exact held_ne hw hc (by decide) (by decide) (by decide) (by decide) h1
/-- Between two calls. -/
structure CaI (W : World) (K b kb r hb xb : Nat) (sq : Bool) (tr : Int) (i : Nat) (w : World) : Prop where
  st : ∃ v L ms rs f, Pr w K b kb r v L sq tr ms rs ∧ HW w W.heap.size hb (200 * i) f
  bx : w.heap[xb]? = some (.cells #[.pointer (some ⟨b, 0, none⟩), .pointer (some ⟨r, 0, none⟩)] 29 (0, 0))
  bel : Below W.heap.size W w
theorem CaI.below {W : World} {i xb : Nat} (h : CaI W K b kb r hb xb sq tr i w) (h9 : Below w.heap.size w w') : CaI W K b kb r hb xb sq tr i w' := by
  obtain ⟨v, L, ms, rs, f, h1, h2⟩ := h.st
  exact ⟨⟨v, L, ms, rs, f, h1.below h9, h2.below h9⟩, (h9.block _ (blk_lt h.bx)).trans h.bx, below_then h.bel h9⟩
theorem PlH.ca {W : World} {i xb : Nat} (h8 : CaI W K b kb r hb xb sq tr i w) (hK : W.heap.size ≤ K) (h0 : Pr w K b kb r v L sq tr ms rs) (hw : HW w W.heap.size hb (200 * i) f) (h : PlH w K b kb r W.heap.size hb (200 * i + 200) v L f sq tr ms rs w') : CaI W K b kb r hb xb sq tr (i + 1) w' := by
  obtain ⟨v', L', ms', rs', f', p1, p2, _, _, p5⟩ := h
  exact ⟨⟨v', L', ms', rs', f', p1, p2.more (by omega)⟩, (p5.block _ (blk_lt h8.bx) (ft_two h0.pb hw h8.bx)).trans h8.bx, Off.behind h8.bel p5 fun q hq => ft_behind h0.pb hw hK (Nat.le_refl _) hq⟩
end
end Go.Proofs.YtoijhecphgdfnaaGreatDoor
