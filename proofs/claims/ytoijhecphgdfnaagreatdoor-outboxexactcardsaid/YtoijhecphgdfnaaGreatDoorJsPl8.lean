import Derived.Test.YtoijhecphgdfnaaGreatDoorJsPl6
/-
  The law's plays: Get.
-/
namespace Go.Proofs.YtoijhecphgdfnaaGreatDoor
open Go.RowKit

section
variable {w w1 w2 w3 w4 w' z : World} {K b kb r B hb n m : Nat} {v L : Value} {σ : Hs} {sq : Bool} {tr : Int} {ms rs : List Msg}
set_option maxRecDepth 100000 in
set_option maxHeartbeats 8000000 in
theorem plays_getJ (hJ0 : JS w K b kb r B hb n v L σ sq tr ms rs) (hn : n + 40 ≤ 1000000000) (x : Opv) :
    Calls Tryz.prog 7 #[.agg #[.pointer (some ⟨b, 0, none⟩), .pointer (some ⟨r, 0, none⟩)], .agg #[.int .i64 7, .string x.ct, .slice x.tp x.tn x.tc, .bool x.e, .int .i64 x.a, .int .i64 x.p, .string x.cd, .int .i64 x.n], .pointer (some ⟨hb, 0, none⟩)] w fun e w' => e = .returned (.bool true) ∧ Hid (PlJ w K b kb r B hb (n + 1) v L σ sq tr ms rs w') := by
  have h := hJ0.pr
  have hw := hJ0.hs
  have HJ : Hid (JS w K b kb r B hb n v L σ sq tr ms rs) := hJ0
  have bv : Below w.heap.size w ((w.alloc (.cells #[.pointer (some ⟨b, 0, none⟩), .pointer (some ⟨r, 0, none⟩)] 29)).alloc (.cells #[.int .i64 7, .string x.ct, .slice x.tp x.tn x.tc, .bool x.e, .int .i64 x.a, .int .i64 x.p, .string x.cd, .int .i64 x.n] 47)) := ((Below.refl _ _).alloc (Nat.le_refl _) _).alloc (by simp) _
  have bx := (Box.new w #[.pointer (some ⟨b, 0, none⟩), .pointer (some ⟨r, 0, none⟩)] 29).alloc (.cells #[.int .i64 7, .string x.ct, .slice x.tp x.tn x.tc, .bool x.e, .int .i64 x.a, .int .i64 x.p, .string x.cd, .int .i64 x.n] 47)
  have by_ := Box.new (w.alloc (.cells #[.pointer (some ⟨b, 0, none⟩), .pointer (some ⟨r, 0, none⟩)] 29)) #[.int .i64 7, .string x.ct, .slice x.tp x.tn x.tc, .bool x.e, .int .i64 x.a, .int .i64 x.p, .string x.cd, .int .i64 x.n] 47
  rw [World.size_alloc] at by_
  obtain ⟨V, hVV⟩ : ∃ V, ((w.alloc (.cells #[.pointer (some ⟨b, 0, none⟩), .pointer (some ⟨r, 0, none⟩)] 29)).alloc (.cells #[.int .i64 7, .string x.ct, .slice x.tp x.tn x.tc, .bool x.e, .int .i64 x.a, .int .i64 x.p, .string x.cd, .int .i64 x.n] 47)) = V := ⟨_, rfl⟩
  rw [hVV] at bv bx by_
  have HH : Hid (Pr w K b kb r v L sq tr ms rs ∧ HS w B hb n σ ∧ n + 40 ≤ 1000000000 ∧ Below w.heap.size w V) := ⟨h, hw, hn, bv⟩
  obtain ⟨y, cd, hy, hp, hr⟩ := get_both (b := b) (kb := kb) (K := K) (r := r) (v := v) (L := L) (sq := sq) (tr := tr) h.wis (fun m hm => (h.pb.bx.2.2 m hm).2) x.ct
  have HY : Hid (y.tn ≤ 8192 ∧ ∀ z, RB z K r L sq tr rs → Calls Tryz.prog 32 #[.pointer (some ⟨r, 0, none⟩), .string x.ct] z (StQ2 z y cd)) := ⟨hy, hr⟩
  have hpn := hp V (h.below bv).pb.bx
  obtain ⟨xb, hxb⟩ : ∃ xb, w.heap.size = xb := ⟨_, rfl⟩
  rw [hxb] at bx by_
  have y0 : V.cell? ⟨xb + 1, 0, none⟩ = some (.int .i64 7) := by_.cell 0
  have y1 : V.cell? ⟨xb + 1, 1, none⟩ = some (.string x.ct) := by_.cell 1
  have z0 : V.cell? ⟨xb, 0, none⟩ = some (.pointer (some ⟨b, 0, none⟩)) := bx.cell 0
  have HX : Hid (V.cell? ⟨xb, 1, none⟩ = some (.pointer (some ⟨r, 0, none⟩)) ∧ xb < V.heap.size ∧ V.cell? ⟨xb + 1, 1, none⟩ = some (.string x.ct) ∧ xb + 1 < V.heap.size) := ⟨bx.cell 1, bx.lt, by_.cell 1, by_.lt⟩
  clear hJ0 h hw hn bv bx by_ hp hr hy
  go_enter Tryz.func7, Tryz.ntmps7
  go_upto_region 36 with (go_at_call 31; refine hpn.mono ?_; rintro _ w2 ⟨a2, c2, ev, rfl, H2⟩)
  clear hpn hVV y0 y1 z0
  have b2 := H2.out.2.2
  have bA : Below w2.heap.size w2 (w2.alloc (.cells #[.string y.ct, .slice a2 y.tn c2, .bool y.e, .int .i64 y.a, .int .i64 y.p, .int .i64 y.nu, .bool y.nt, .int .i64 y.st, .int .i64 y.lf, .bool y.un] 91)) := (Below.refl _ _).alloc (Nat.le_refl _) _
  have xA := Box.new w2 #[.string y.ct, .slice a2 y.tn c2, .bool y.e, .int .i64 y.a, .int .i64 y.p, .int .i64 y.nu, .bool y.nt, .int .i64 y.st, .int .i64 y.lf, .bool y.un] 91
  obtain ⟨V2, hV2⟩ : ∃ V2, w2.alloc (.cells #[.string y.ct, .slice a2 y.tn c2, .bool y.e, .int .i64 y.a, .int .i64 y.p, .int .i64 y.nu, .bool y.nt, .int .i64 y.st, .int .i64 y.lf, .bool y.un] 91) = V2 := ⟨_, rfl⟩
  rw [hV2] at bA xA
  have b2A := below_then b2 bA
  have z1 : V2.cell? ⟨xb, 1, none⟩ = some (.pointer (some ⟨r, 0, none⟩)) := (b2A.cell (p := ⟨xb, 1, none⟩) HX.out.2.1).trans HX.out.1
  have y1 : V2.cell? ⟨xb + 1, 1, none⟩ = some (.string x.ct) := (b2A.cell (p := ⟨xb + 1, 1, none⟩) HX.out.2.2.2).trans HX.out.2.2.1
  have hrn := HY.out.2 V2 (HH.out.1.below (below_then HH.out.2.2.2 b2A)).pb.rb
  have HA : Hid (Box V2 w2.heap.size #[.string y.ct, .slice a2 y.tn c2, .bool y.e, .int .i64 y.a, .int .i64 y.p, .int .i64 y.nu, .bool y.nt, .int .i64 y.st, .int .i64 y.lf, .bool y.un] ∧ Below w2.heap.size w2 V2) := ⟨xA, bA⟩
  clear b2 bA xA b2A
  go_upto_region 37 with (go_at_call 32; refine hrn.mono ?_; rintro _ w3 ⟨a3, c3, rfl, H3⟩)
  clear hrn z1 hV2 y1
  have b3 := H3.out.2
  have bA : Below w3.heap.size w3 (w3.alloc (.cells #[.string y.ct, .slice a3 y.tn c3, .bool y.e, .int .i64 y.a, .int .i64 y.p, .int .i64 y.nu, .bool y.nt, .int .i64 y.st, .int .i64 y.lf, .bool y.un] 91)) := (Below.refl _ _).alloc (Nat.le_refl _) _
  have xA := Box.new w3 #[.string y.ct, .slice a3 y.tn c3, .bool y.e, .int .i64 y.a, .int .i64 y.p, .int .i64 y.nu, .bool y.nt, .int .i64 y.st, .int .i64 y.lf, .bool y.un] 91
  obtain ⟨V3, hV3⟩ : ∃ V3, w3.alloc (.cells #[.string y.ct, .slice a3 y.tn c3, .bool y.e, .int .i64 y.a, .int .i64 y.p, .int .i64 y.nu, .bool y.nt, .int .i64 y.st, .int .i64 y.lf, .bool y.un] 91) = V3 := ⟨_, rfl⟩
  rw [hV3] at bA xA
  have b3A := below_then b3 bA
  have b23 := below_then HA.out.2 b3A
  have b13 : Below w.heap.size w V3 := below_then (below_then HH.out.2.2.2 H2.out.2.2) b23
  have r2 : BRow V3 V.heap.size (.slice a2 y.tn c2) y.tx := ERow.below H2.out.1 b23
  have r3 : BRow V3 V2.heap.size (.slice a3 y.tn c3) y.tx := ERow.below H3.out.1 bA
  have x2 := HA.out.1.below b3A
  have HB : Hid (BRow V3 V.heap.size (.slice a2 y.tn c2) y.tx ∧ BRow V3 V2.heap.size (.slice a3 y.tn c3) y.tx ∧ Below w.heap.size w V3 ∧ Box V3 w2.heap.size #[.string y.ct, .slice a2 y.tn c2, .bool y.e, .int .i64 y.a, .int .i64 y.p, .int .i64 y.nu, .bool y.nt, .int .i64 y.st, .int .i64 y.lf, .bool y.un] ∧ Box V3 w3.heap.size #[.string y.ct, .slice a3 y.tn c3, .bool y.e, .int .i64 y.a, .int .i64 y.p, .int .i64 y.nu, .bool y.nt, .int .i64 y.st, .int .i64 y.lf, .bool y.un] ∧ OEv V3 V.heap.size ev 0 cd ∧ V.heap.size ≤ w2.heap.size ∧ V.heap.size ≤ w3.heap.size) := ⟨r2, r3, b13, x2, xA, H2.out.2.1.below b23, H2.out.2.2.size, Nat.le_trans H2.out.2.2.size (Nat.le_trans HA.out.2.size b3.size)⟩
  have HV2 : Hid (V.heap.size ≤ V2.heap.size) := Nat.le_trans H2.out.2.2.size HA.out.2.size
  have k2 : V3.cell? ⟨w2.heap.size, 0 + 1, none⟩ = some (.slice a2 y.tn c2) := x2.cell 1
  have HT : Hid (∀ z, Below V3.heap.size V3 z → Calls Tryz.prog 20 #[.pointer (some ⟨hb, 4, none⟩), .slice a2 y.tn c2] z fun e w4 => e = .returned (.tuple #[]) ∧ Hid (Below V3.heap.size V3 z ∧ HSQ z B hb (n + 1) σ (fun g => (Value.slice a2 y.tn c2).ownBlock = some g) w4)) := fun z hz => (take_s (c := c2) (HH.out.2.1.below (below_then b13 hz)) (ERow.base (ERow.below r2 hz) (Nat.le_trans HH.out.2.1.h0.hr.hB HH.out.2.2.2.size)) (fun q hq e => by have := (ERow.lt r2 hq).1; have := (HH.out.2.1.lt e).2; have := HH.out.2.2.2.size; omega) HY.out.1 (by have := HH.out.2.2.1; omega)).mono fun e w4 ⟨e1, h1⟩ => ⟨e1, hz, h1.out⟩
  clear b3 bA b3A b23 b13 r2 r3 x2 xA H2 H3 HA
  rw [Nat.zero_add] at k2
  go_region_law (go_simp; go_at_call 20; refine (HT.out _ (Below.drew (Below.refl _ _))).mono ?_; rintro _ w4 ⟨rfl, H4⟩; go_wp2_with fail)
  all_goals
    obtain ⟨hz4, hq4⟩ := H4.out
    obtain ⟨f4, g4, k4, o4, m4⟩ := hq4
    have oo : Off (HsFt σ) V3 w4 := (Off.of_below hz4).trans (o4.mono fun _ e => e.ft)
    have hv3 := HH.out.2.1.below HB.out.2.2.1
    have hlo : ∀ q, V.heap.size ≤ q → ¬ HsFt σ q := fun q hq e => by have := (HH.out.2.1.lt e).2; have := HH.out.2.2.2.size; omega
    have x2 := HB.out.2.2.2.1.off oo (hlo _ HB.out.2.2.2.2.2.2.1)
    have x3 := HB.out.2.2.2.2.1.off oo (hlo _ HB.out.2.2.2.2.2.2.2)
    have t2 : BRow w4 V.heap.size (.slice a2 y.tn c2) y.tx := ERow.off HB.out.1 oo fun q hq e => hlo q (ERow.lt HB.out.1 hq).1 e
    have t3 : BRow w4 V2.heap.size (.slice a3 y.tn c3) y.tx := ERow.off HB.out.2.1 oo fun q hq e => hlo q (Nat.le_trans HV2.out (ERow.lt HB.out.2.1 hq).1) e
    have e5 : OEv w4 V.heap.size ev 0 cd := HB.out.2.2.2.2.2.1.off oo fun q h1 _ h3 => hlo q h1 h3
    have HL : Hid (∀ z, Below w4.heap.size w4 z → PlJ w K b kb r B hb (n + 1) v L σ sq tr ms rs z) := fun z hz => PlJ.looked HJ.out (below_then HB.out.2.2.1 hz4) ⟨f4, g4, k4, o4, m4⟩ (fun q hq => by have := (ERow.lt HB.out.1 hq).1; have := HH.out.2.2.2.size; omega) hz
    have HS : Hid (∀ z, Below w4.heap.size w4 z → Calls Tryz.prog 33 #[.agg #[.string y.ct, .slice a2 y.tn c2, .bool y.e, .int .i64 y.a, .int .i64 y.p, .int .i64 y.nu, .bool y.nt, .int .i64 y.st, .int .i64 y.lf, .bool y.un], .agg #[.string y.ct, .slice a3 y.tn c3, .bool y.e, .int .i64 y.a, .int .i64 y.p, .int .i64 y.nu, .bool y.nt, .int .i64 y.st, .int .i64 y.lf, .bool y.un]] z fun e w' => e = .returned (.bool true) ∧ Hid (Below w4.heap.size w4 w')) := fun z hz => (sameSent_true y (t2.byts.below hz) (t3.byts.below hz) (by have := HY.out.1; omega)).mono fun e w' ⟨e1, h1⟩ => ⟨e1, below_then hz h1⟩
    have HR : Hid (∀ z, Below w4.heap.size w4 z → Calls Tryz.prog 13 #[ev, .int .i64 0, .int .i64 cd] z fun e w' => e = .returned (.bool true) ∧ w' = z) := fun z hz => refused_any (e5.below hz).err
    have p0 : w4.cell? ⟨w2.heap.size, 0, none⟩ = some (.string y.ct) := x2.cell 0
    have q0 : w4.cell? ⟨w3.heap.size, 0, none⟩ = some (.string y.ct) := x3.cell 0
    have p1 : w4.cell? ⟨w2.heap.size, 1, none⟩ = some (.slice a2 y.tn c2) := x2.cell 1
    have q1 : w4.cell? ⟨w3.heap.size, 1, none⟩ = some (.slice a3 y.tn c3) := x3.cell 1
    have p2 : w4.cell? ⟨w2.heap.size, 2, none⟩ = some (.bool y.e) := x2.cell 2
    have q2 : w4.cell? ⟨w3.heap.size, 2, none⟩ = some (.bool y.e) := x3.cell 2
    have p3 : w4.cell? ⟨w2.heap.size, 3, none⟩ = some (.int .i64 y.a) := x2.cell 3
    have q3 : w4.cell? ⟨w3.heap.size, 3, none⟩ = some (.int .i64 y.a) := x3.cell 3
    have p4 : w4.cell? ⟨w2.heap.size, 4, none⟩ = some (.int .i64 y.p) := x2.cell 4
    have q4 : w4.cell? ⟨w3.heap.size, 4, none⟩ = some (.int .i64 y.p) := x3.cell 4
    have p5 : w4.cell? ⟨w2.heap.size, 5, none⟩ = some (.int .i64 y.nu) := x2.cell 5
    have q5 : w4.cell? ⟨w3.heap.size, 5, none⟩ = some (.int .i64 y.nu) := x3.cell 5
    have p6 : w4.cell? ⟨w2.heap.size, 6, none⟩ = some (.bool y.nt) := x2.cell 6
    have q6 : w4.cell? ⟨w3.heap.size, 6, none⟩ = some (.bool y.nt) := x3.cell 6
    have p7 : w4.cell? ⟨w2.heap.size, 7, none⟩ = some (.int .i64 y.st) := x2.cell 7
    have q7 : w4.cell? ⟨w3.heap.size, 7, none⟩ = some (.int .i64 y.st) := x3.cell 7
    have p8 : w4.cell? ⟨w2.heap.size, 8, none⟩ = some (.int .i64 y.lf) := x2.cell 8
    have q8 : w4.cell? ⟨w3.heap.size, 8, none⟩ = some (.int .i64 y.lf) := x3.cell 8
    have p9 : w4.cell? ⟨w2.heap.size, 9, none⟩ = some (.bool y.un) := x2.cell 9
    have q9 : w4.cell? ⟨w3.heap.size, 9, none⟩ = some (.bool y.un) := x3.cell 9
    clear e5 hz4 g4 k4 o4 m4 oo hv3 hlo x2 x3 t2 t3 H4 k2
    go_wp2_with (first | (go_at_call 33; refine (HS.out _ (by first | exact Below.refl _ _ | exact below_drewN (Below.refl _ _) _)).mono ?_; rintro _ w6 ⟨rfl, H6⟩) | (go_at_call 13; refine (HR.out _ (by first | exact H6.out | exact below_drewN H6.out _)).mono ?_; rintro _ w9 ⟨rfl, h9⟩; subst w9))
    go_ret
    exact ⟨rfl, HL.out _ (by first | exact H6.out | exact below_drewN H6.out _)⟩
end
end Go.Proofs.YtoijhecphgdfnaaGreatDoor

/-
  The law's all: walked.
-/
namespace Go.Proofs.YtoijhecphgdfnaaGreatDoor
open Go.RowKit

section
variable {w w' : World} {K b kb r B hb n : Nat} {v L : Value} {σ : Hs} {sq : Bool} {tr : Int} {ms rs ls : List Msg}
set_option maxRecDepth 100000 in
set_option maxHeartbeats 8000000 in
theorem all_anyJ (hJ0 : JS w K b kb r B hb n v L σ sq tr ms rs) (hn : n + 200 ≤ 1000000000) :
    Calls Tryz.prog 8 #[.agg #[.pointer (some ⟨b, 0, none⟩), .pointer (some ⟨r, 0, none⟩)], .pointer (some ⟨hb, 0, none⟩)] w fun e w' => e = .returned (.bool true) ∧ Hid (PlJ w K b kb r B hb (n + 66) v L σ sq tr ms rs w') := by
  have h := hJ0.pr
  have hw := hJ0.hs
  have HJ : Hid (JS w K b kb r B hb n v L σ sq tr ms rs) := hJ0
  have bv : Below w.heap.size w (w.alloc (.cells #[.pointer (some ⟨b, 0, none⟩), .pointer (some ⟨r, 0, none⟩)] 29)) := (Below.refl _ _).alloc (Nat.le_refl _) _
  have bx := Box.new w #[.pointer (some ⟨b, 0, none⟩), .pointer (some ⟨r, 0, none⟩)] 29
  obtain ⟨V, hVV⟩ : ∃ V, (w.alloc (.cells #[.pointer (some ⟨b, 0, none⟩), .pointer (some ⟨r, 0, none⟩)] 29)) = V := ⟨_, rfl⟩
  rw [hVV] at bv bx
  have HH : Hid (Pr w K b kb r v L sq tr ms rs ∧ HS w B hb n σ ∧ n + 200 ≤ 1000000000 ∧ Below w.heap.size w V ∧ Box V w.heap.size #[.pointer (some ⟨b, 0, none⟩), .pointer (some ⟨r, 0, none⟩)]) := ⟨h, hw, hn, bv, bx⟩
  have hl := list_s (h.below bv).pb.bx
  have c0 : V.cell? ⟨w.heap.size, 0, none⟩ = some (.pointer (some ⟨b, 0, none⟩)) := bx.cell 0
  clear hJ0 h hw hn bv bx
  go_enter Tryz.func8, Tryz.ntmps8
  go_upto_region 2 with (go_at_call 34; refine hl.mono ?_; rintro _ w1 ⟨l1, a1, c1_, rfl, g1, g2, g3⟩)
  have hl2 := list_s ((HH.out.1.below (below_then HH.out.2.2.2.1 g3))).pb.bx
  have c0 : w1.cell? ⟨w.heap.size, 0, none⟩ = some (.pointer (some ⟨b, 0, none⟩)) := (HH.out.2.2.2.2.below g3).cell 0
  have H1 : Hid (ERow w1 V.heap.size 91 10 encM (.slice a1 ms.length c1_) l1 ∧ CpF w1 V.heap.size l1 ms ∧ Below V.heap.size V w1) := ⟨g1, g2, g3⟩
  clear hl g1 g2 g3 hVV
  go_upto_region 3 with (go_at_call 34; refine hl2.mono ?_; rintro _ w2 ⟨l2, a2, c2, rfl, g1, g2, g3⟩)
  have H2 : Hid (ERow w2 w1.heap.size 91 10 encM (.slice a2 ms.length c2) l2 ∧ CpF w2 w1.heap.size l2 ms ∧ Below w1.heap.size w1 w2) := ⟨g1, g2, g3⟩
  have hBV2 := below_then H1.out.2.2 g3
  have hP2 := HH.out.1.below (below_then HH.out.2.2.2.1 hBV2)
  have hra := rAll_any hP2.pb.rb
  have z1 : w2.cell? ⟨w.heap.size, 1, none⟩ = some (.pointer (some ⟨r, 0, none⟩)) := (HH.out.2.2.2.2.below hBV2).cell 1
  clear hl2 g1 g2 g3 c0 hBV2 hP2
  go_upto_region 4 with (go_at_call 35; refine hra.mono ?_; rintro _ w3 ⟨l3, a3, c3, rfl, g1, g2, g3⟩)
  have H3 : Hid (ERow w3 w2.heap.size 91 10 encM (.slice a3 rs.length c3) l3 ∧ CpF w3 w2.heap.size l3 rs ∧ Below w2.heap.size w2 w3) := ⟨g1, g2, g3⟩
  have h32 : ms.length ≤ 32 := HH.out.1.pb.bx.2.1.2.2
  have htn : ∀ m ∈ ms, m.tn ≤ 8192 := fun m hm => (HH.out.1.pb.bx.2.2 m hm).2
  have hB3 := below_then H2.out.2.2 g3
  have hBW3 := below_then HH.out.2.2.2.1 (below_then H1.out.2.2 hB3)
  have hl1 : l1.length = ms.length := H1.out.2.1.wis.1
  have hl2 : l2.length = ms.length := H2.out.2.1.wis.1
  have hw3 := HH.out.2.1.below hBW3
  have hVw : w.heap.size ≤ V.heap.size := HH.out.2.2.2.1.size
  have hlt : ∀ q, HsFt σ q → q < w.heap.size := fun q hq => (HH.out.2.1.lt hq).2
  have e1 := ERow.below H1.out.1 hB3
  have c1 := H1.out.2.1.below hB3
  have e2 := ERow.below H2.out.1 H3.out.2.2
  have c2' := H2.out.2.1.below H3.out.2.2
  have u1 : ∀ q, ((Value.slice a1 ms.length c1_).ownBlock = some q ∨ ∃ x ∈ l1, x.blk = some q) → V.heap.size ≤ q ∧ q < w1.heap.size := fun q hq => by
    rcases hq with e | ⟨x, hx, e⟩
    · exact ERow.lt H1.out.1 e
    · exact ERow.lt (H1.out.2.1.own x hx) e
  have u2 : ∀ q, ((Value.slice a2 ms.length c2).ownBlock = some q ∨ ∃ x ∈ l2, x.blk = some q) → w1.heap.size ≤ q ∧ q < w2.heap.size := fun q hq => by
    rcases hq with e | ⟨x, hx, e⟩
    · exact ERow.lt H2.out.1 e
    · exact ERow.lt (H2.out.2.1.own x hx) e
  have s1 := H1.out.2.2.size
  have s2 := H2.out.2.2.size
  have s3 := H3.out.2.2.size
  have hs1 := sents_s hw3 e1 (Nat.le_trans HH.out.2.1.h0.hr.hB hVw) (by have := HH.out.2.2.1; omega) (by omega) (fun q hq e => by have := (u1 q (Or.inl hq)).1; have := hlt q e; omega) (by omega) c1 (fun x hx => (cpf_tx c1 htn x hx).2) (fun x hx q hq e => by have := (u1 q (Or.inr ⟨x, hx, hq⟩)).1; have := hlt q e; omega)
  clear hra z1 g1 g2 g3
  go_upto_region 5 with (go_at_call 36; refine hs1.mono ?_; rintro _ w4 ⟨rfl, H4⟩)
  obtain ⟨σ4, hw4, hft4, o4, hwf4⟩ := H4.out
  have k4 : ∀ q, w1.heap.size ≤ q → q < w2.heap.size → ¬ HsFt σ4 q := fun q h1 h2 e => by
    rcases hft4 q e with g | g | g
    · have := hlt q g; omega
    · have := (u1 q g).2; omega
    · omega
  have o4' : Off (HsFt σ) w3 w4 := o4.mono fun _ e => e.ft
  have e2b := ERow.off e2 o4' fun q hq e => by have := (u2 q (Or.inl hq)).1; have := hlt q e; omega
  have c2b := c2'.off o4' fun x hx q hq e => by have := (u2 q (Or.inr ⟨x, hx, hq⟩)).1; have := hlt q e; omega
  have hs2 := sents_s hw4 e2b (Nat.le_trans HH.out.2.1.h0.hr.hB (Nat.le_trans hVw s1)) (by have := HH.out.2.2.1; omega) (by omega) (fun q hq => k4 q (u2 q (Or.inl hq)).1 (u2 q (Or.inl hq)).2) (by omega) c2b (fun x hx => (cpf_tx c2b htn x hx).2) (fun x hx q hq => k4 q (u2 q (Or.inr ⟨x, hx, hq⟩)).1 (u2 q (Or.inr ⟨x, hx, hq⟩)).2)
  clear hs1
  go_upto_region 6 with (go_at_call 36; refine hs2.mono ?_; rintro _ w5 ⟨rfl, H5⟩)
  obtain ⟨σ5, hw5, hft5, o5, hwf5⟩ := H5.out
  have w4s := o4.size
  have k5 : ∀ q, q < w3.heap.size → HsW σ4 q → HsFt σ q := fun q hq e => by
    rcases hwf4 q e with g | g
    · exact g.ft
    · omega
  have hP5 : Pb w5 K b kb r v L sq tr ms rs := ((HH.out.1.pb.below hBW3).off o4 fun q hq hk => HJ.out.ap q hq hk.ft).off o5 fun q hq hk => HJ.out.ap q hq (k5 q (by have := (HH.out.1.pb.lt hq).2; omega) hk)
  have rl : rs.length = ms.length := HH.out.1.wis.1.symm
  have n4 : ∀ q, V.heap.size ≤ q → ¬ HsW σ q := fun q hq e => by have := hlt q e.ft; omega
  have n5 : ∀ q, V.heap.size ≤ q → q < w3.heap.size → ¬ HsW σ4 q := fun q hq h3 e => by have := hlt q (k5 q h3 e); omega
  have r1 := ERow.off (ERow.off e1 o4 fun q hq => n4 q (u1 q (Or.inl hq)).1) o5 fun q hq => n5 q (u1 q (Or.inl hq)).1 (by have := (u1 q (Or.inl hq)).2; omega)
  have p1 := (c1.off o4 fun x hx q hq => n4 q (u1 q (Or.inr ⟨x, hx, hq⟩)).1).off o5 fun x hx q hq => n5 q (u1 q (Or.inr ⟨x, hx, hq⟩)).1 (by have := (u1 q (Or.inr ⟨x, hx, hq⟩)).2; omega)
  have r2 := ERow.off e2b o5 fun q hq => n5 q (by have := (u2 q (Or.inl hq)).1; omega) (by have := (u2 q (Or.inl hq)).2; omega)
  have p2 := c2b.off o5 fun x hx q hq => n5 q (by have := (u2 q (Or.inr ⟨x, hx, hq⟩)).1; omega) (by have := (u2 q (Or.inr ⟨x, hx, hq⟩)).2; omega)
  have r3 := ERow.off (ERow.off H3.out.1 o4 fun q hq => n4 q (by have := (ERow.lt H3.out.1 hq).1; omega)) o5 fun q hq => n5 q (by have := (ERow.lt H3.out.1 hq).1; omega) (ERow.lt H3.out.1 hq).2
  have p3 := (H3.out.2.1.off o4 fun x hx q hq => n4 q (by have := (ERow.lt (H3.out.2.1.own x hx) hq).1; omega)).off o5 fun x hx q hq => n5 q (by have := (ERow.lt (H3.out.2.1.own x hx) hq).1; omega) (ERow.lt (H3.out.2.1.own x hx) hq).2
  have p3' : CpF w5 w2.heap.size l3 ms := ⟨p3.wis.trans HH.out.1.wis.swap, p3.own, p3.sep⟩
  rw [rl] at r3 ⊢
  have HS1 : Hid (∀ z, Below w5.heap.size w5 z → Calls Tryz.prog 37 #[.slice a1 ms.length c1_, .slice a3 ms.length c3] z fun e w' => e = .returned (.bool true) ∧ Hid (Below w5.heap.size w5 w')) := fun z hz => (sameList_true (ERow.below r1 hz) (ERow.below r3 hz) (p1.below hz).cps (p3'.below hz).cps htn).mono fun e w' ⟨e1, h1⟩ => ⟨e1, below_then hz h1⟩
  have HS2 : Hid (∀ z, Below w5.heap.size w5 z → Calls Tryz.prog 37 #[.slice a2 ms.length c2, .slice a3 ms.length c3] z fun e w' => e = .returned (.bool true) ∧ Hid (Below w5.heap.size w5 w')) := fun z hz => (sameList_true (ERow.below r2 hz) (ERow.below r3 hz) (p2.below hz).cps (p3'.below hz).cps htn).mono fun e w' ⟨e1, h1⟩ => ⟨e1, below_then hz h1⟩
  have HL1 : Hid (∀ z, Below w5.heap.size w5 z → Calls Tryz.prog 38 #[.pointer (some ⟨b, 0, none⟩)] z fun e w' => e = .returned (.int .i64 (ms.length : Int)) ∧ Hid (Below w5.heap.size w5 w')) := fun z hz => (len_any (hP5.below hz).bx).mono fun e w' ⟨e1, h1⟩ => ⟨e1, by rw [h1]; exact hz⟩
  have HL2 : Hid (∀ z, Below w5.heap.size w5 z → Calls Tryz.prog 39 #[.pointer (some ⟨r, 0, none⟩)] z fun e w' => e = .returned (.int .i64 (ms.length : Int)) ∧ Hid (Below w5.heap.size w5 w')) := fun z hz => (rlen_any (hP5.below hz).rb).mono fun e w' ⟨e1, h1⟩ => ⟨by rw [← rl]; exact e1, by rw [h1]; exact hz⟩
  have hx3 := HH.out.2.2.2.2.below (below_then H1.out.2.2 hB3)
  have hq : ∀ q, w5.cell? ⟨w.heap.size, q, none⟩ = w3.cell? ⟨w.heap.size, q, none⟩ := fun q => (o5.cell (p := ⟨w.heap.size, q, none⟩) (Nat.lt_of_lt_of_le hx3.lt w4s) fun h1 => by have := hlt _ (k5 w.heap.size hx3.lt h1); omega).trans (o4.cell (p := ⟨w.heap.size, q, none⟩) hx3.lt fun h1 => by have := hlt w.heap.size h1.ft; omega)
  have d0 : w5.cell? ⟨w.heap.size, 0, none⟩ = some (.pointer (some ⟨b, 0, none⟩)) := (hq 0).trans (hx3.cell 0)
  have d1 : w5.cell? ⟨w.heap.size, 1, none⟩ = some (.pointer (some ⟨r, 0, none⟩)) := (hq 1).trans (hx3.cell 1)
  have hxl : w.heap.size < w5.heap.size := Nat.lt_of_lt_of_le (Nat.lt_of_lt_of_le hx3.lt o4.size) o5.size
  have gc : ∀ {z : World}, Below w5.heap.size w5 z → z.cell? ⟨w.heap.size, 0, none⟩ = some (.pointer (some ⟨b, 0, none⟩)) ∧ z.cell? ⟨w.heap.size, 1, none⟩ = some (.pointer (some ⟨r, 0, none⟩)) := fun {z} hz => ⟨(hz.cell (p := ⟨w.heap.size, 0, none⟩) hxl).trans d0, (hz.cell (p := ⟨w.heap.size, 1, none⟩) hxl).trans d1⟩
  have HE : Hid (∀ z, Below w5.heap.size w5 z → PlJ w K b kb r B hb (n + 66) v L σ sq tr ms rs z) := fun z hz => by
    have hfs : ∀ q, HsFt σ5 q → HsFt σ q ∨ (V.heap.size ≤ q ∧ q < w3.heap.size) ∨ w3.heap.size ≤ q := fun q h1 => by
      rcases hft5 q h1 with g | g | g
      · rcases hft4 q g with g2 | g2 | g2
        · exact Or.inl g2
        · have := u1 q g2; exact Or.inr (Or.inl ⟨by omega, by omega⟩)
        · exact Or.inr (Or.inr g2)
      · have := u2 q g; exact Or.inr (Or.inl ⟨by omega, by omega⟩)
      · exact Or.inr (Or.inr (by omega))
    have o45 : Off (HsFt σ) w3 w5 := o4'.join o5 fun k hl hk => k5 k hl hk
    refine ⟨v, L, ms, rs, σ5, ⟨⟨hP5.below hz, HH.out.1.wis, HH.out.1.ok⟩, (hw5.more (by omega)).below hz, fun q hf hk => ?_⟩, fun q h1 => Or.inl h1, fun q h1 => ?_, ((Off.of_below hBW3).trans (o45.trans (Off.of_below hz))).mono fun q h1 => Or.inr h1⟩
    · have hl := (HH.out.1.pb.lt hf).2
      rcases hfs q hk with g | g | g
      · exact HJ.out.ap q hf g
      · omega
      · omega
    · rcases hfs q h1 with g | g | g
      · exact Or.inl g
      · exact Or.inr (by omega)
      · exact Or.inr (by omega)
  clear hq hlt hx3 H4 H5 H1 H2 H3 HH HJ hw3 hw4 hw5 hft4 hft5 o4 o4' o5 hP5 rl r1 r2 r3 p1 p2 p3 p3' h32 htn hB3 hBW3 hl1 hl2 hs2 e1 c1 e2 c2' e2b c2b u1 u2 s1 s2 s3 k4 k5 w4s n4 n5 hwf4 hwf5 hVw
  go_region_held3 (fun z => z.cell? ⟨w.heap.size, 0, none⟩ = some (.pointer (some ⟨b, 0, none⟩)) ∧ z.cell? ⟨w.heap.size, 1, none⟩ = some (.pointer (some ⟨r, 0, none⟩))) ((refine gc ?_; (repeat' (first | (with_reducible exact Below.refl _ _) | (with_reducible exact Hid.out (by assumption)) | (with_reducible refine Below.drew ?_))))) (first | (go_at_call 37; refine (HS1.out _ (Below.drew (Below.refl _ _))).mono ?_; clear HS1; rintro _ w6 ⟨rfl, HB6⟩) | (go_at_call 37; refine (HS2.out _ HB6.out).mono ?_; clear HS2; rintro _ w7 ⟨rfl, HB7⟩) | (go_at_call 38; refine (HL1.out _ HB7.out).mono ?_; rintro _ w8 ⟨rfl, HB8⟩) | (go_at_call 39; refine (HL2.out _ HB8.out).mono ?_; rintro _ w9 ⟨rfl, HB9⟩))
  all_goals
    go_wp2_with fail
    go_ret
    exact ⟨rfl, HE.out _ HB9.out⟩
end
end Go.Proofs.YtoijhecphgdfnaaGreatDoor

/-
  The law's plays: all.
-/
namespace Go.Proofs.YtoijhecphgdfnaaGreatDoor
open Go.RowKit

section
variable {w w1 w2 w3 w4 w' z : World} {K b kb r B hb n m : Nat} {v L : Value} {σ : Hs} {sq : Bool} {tr : Int} {ms rs : List Msg}
set_option maxRecDepth 100000 in
set_option maxHeartbeats 8000000 in
theorem plays_allJ (h : JS w K b kb r B hb n v L σ sq tr ms rs) (hn : n + 200 ≤ 1000000000) (x : Opv) :
    Calls Tryz.prog 7 #[.agg #[.pointer (some ⟨b, 0, none⟩), .pointer (some ⟨r, 0, none⟩)], .agg #[.int .i64 8, .string x.ct, .slice x.tp x.tn x.tc, .bool x.e, .int .i64 x.a, .int .i64 x.p, .string x.cd, .int .i64 x.n], .pointer (some ⟨hb, 0, none⟩)] w fun e w' => e = .returned (.bool true) ∧ Hid (PlJ w K b kb r B hb (n + 66) v L σ sq tr ms rs w') := by
  have bv : Below w.heap.size w ((w.alloc (.cells #[.pointer (some ⟨b, 0, none⟩), .pointer (some ⟨r, 0, none⟩)] 29)).alloc (.cells #[.int .i64 8, .string x.ct, .slice x.tp x.tn x.tc, .bool x.e, .int .i64 x.a, .int .i64 x.p, .string x.cd, .int .i64 x.n] 47)) := ((Below.refl _ _).alloc (Nat.le_refl _) _).alloc (by simp) _
  have bx := (Box.new w #[.pointer (some ⟨b, 0, none⟩), .pointer (some ⟨r, 0, none⟩)] 29).alloc (.cells #[.int .i64 8, .string x.ct, .slice x.tp x.tn x.tc, .bool x.e, .int .i64 x.a, .int .i64 x.p, .string x.cd, .int .i64 x.n] 47)
  have by_ := Box.new (w.alloc (.cells #[.pointer (some ⟨b, 0, none⟩), .pointer (some ⟨r, 0, none⟩)] 29)) #[.int .i64 8, .string x.ct, .slice x.tp x.tn x.tc, .bool x.e, .int .i64 x.a, .int .i64 x.p, .string x.cd, .int .i64 x.n] 47
  rw [World.size_alloc] at by_
  obtain ⟨V, hVV⟩ : ∃ V, ((w.alloc (.cells #[.pointer (some ⟨b, 0, none⟩), .pointer (some ⟨r, 0, none⟩)] 29)).alloc (.cells #[.int .i64 8, .string x.ct, .slice x.tp x.tn x.tc, .bool x.e, .int .i64 x.a, .int .i64 x.p, .string x.cd, .int .i64 x.n] 47)) = V := ⟨_, rfl⟩
  rw [hVV] at bv bx by_
  have HA : Hid (∀ z, Below V.heap.size V z → Calls Tryz.prog 8 #[.agg #[.pointer (some ⟨b, 0, none⟩), .pointer (some ⟨r, 0, none⟩)], .pointer (some ⟨hb, 0, none⟩)] z fun e w' => e = .returned (.bool true) ∧ Hid (PlJ w K b kb r B hb (n + 66) v L σ sq tr ms rs w')) := fun z hz => (all_anyJ (h.below (below_then bv hz)) hn).mono fun e w' ⟨e1, h1⟩ => ⟨e1, PlJ.back (below_then bv hz) h1.out⟩
  obtain ⟨xb, hxb⟩ : ∃ xb, w.heap.size = xb := ⟨_, rfl⟩
  rw [hxb] at bx by_
  have y0 : V.cell? ⟨xb + 1, 0, none⟩ = some (.int .i64 8) := by_.cell 0
  have z0 : V.cell? ⟨xb, 0, none⟩ = some (.pointer (some ⟨b, 0, none⟩)) := bx.cell 0
  have z1 : V.cell? ⟨xb, 1, none⟩ = some (.pointer (some ⟨r, 0, none⟩)) := bx.cell 1
  clear h hn bv bx by_
  go_enter Tryz.func7, Tryz.ntmps7
  go_wp2_with (go_at_call 8; refine (HA.out _ (by first | exact Below.refl _ _ | exact below_drewN (Below.refl _ _) _)).mono ?_; rintro _ w2 ⟨rfl, H2⟩)
  go_ret
  exact ⟨rfl, H2⟩
end
end Go.Proofs.YtoijhecphgdfnaaGreatDoor
