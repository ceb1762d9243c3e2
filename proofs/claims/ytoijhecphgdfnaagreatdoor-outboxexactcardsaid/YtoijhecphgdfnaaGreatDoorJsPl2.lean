import Derived.Test.YtoijhecphgdfnaaGreatDoorJsPl6
/-
  The law's plays: Heard, walked.
-/
namespace Go.Proofs.YtoijhecphgdfnaaGreatDoor
open Go.RowKit

section
variable {w w1 w' : World} {K b kb r B hb n : Nat} {v L : Value} {σ : Hs} {sq : Bool} {tr : Int} {ms rs : List Msg}
set_option maxRecDepth 100000 in
set_option maxHeartbeats 8000000 in
theorem plays_heardJ (hJ0 : JS w K b kb r B hb n v L σ sq tr ms rs) (hV : PVc w) (hn : n + 40 ≤ 1000000000) (x : Opv) (hds : (heardA sq ms x.ct x.cd x.n).ds.length ≤ 100000) :
    Calls Tryz.prog 7 #[.agg #[.pointer (some ⟨b, 0, none⟩), .pointer (some ⟨r, 0, none⟩)], .agg #[.int .i64 5, .string x.ct, .slice x.tp x.tn x.tc, .bool x.e, .int .i64 x.a, .int .i64 x.p, .string x.cd, .int .i64 x.n], .pointer (some ⟨hb, 0, none⟩)] w fun e w' => e = .returned (.bool true) ∧ Hid (PlJ w K b kb r B hb (n + 1) v L σ sq tr ms rs w') := by
  have h := hJ0.pr
  have hw := hJ0.hs
  have HJ : Hid (JS w K b kb r B hb n v L σ sq tr ms rs) := hJ0
  have bv : Below w.heap.size w ((w.alloc (.cells #[.pointer (some ⟨b, 0, none⟩), .pointer (some ⟨r, 0, none⟩)] 29)).alloc (.cells #[.int .i64 5, .string x.ct, .slice x.tp x.tn x.tc, .bool x.e, .int .i64 x.a, .int .i64 x.p, .string x.cd, .int .i64 x.n] 47)) := ((Below.refl _ _).alloc (Nat.le_refl _) _).alloc (by simp) _
  have bx := (Box.new w #[.pointer (some ⟨b, 0, none⟩), .pointer (some ⟨r, 0, none⟩)] 29).alloc (.cells #[.int .i64 5, .string x.ct, .slice x.tp x.tn x.tc, .bool x.e, .int .i64 x.a, .int .i64 x.p, .string x.cd, .int .i64 x.n] 47)
  have by_ := Box.new (w.alloc (.cells #[.pointer (some ⟨b, 0, none⟩), .pointer (some ⟨r, 0, none⟩)] 29)) #[.int .i64 5, .string x.ct, .slice x.tp x.tn x.tc, .bool x.e, .int .i64 x.a, .int .i64 x.p, .string x.cd, .int .i64 x.n] 47
  rw [World.size_alloc] at by_
  obtain ⟨V, hVV⟩ : ∃ V, ((w.alloc (.cells #[.pointer (some ⟨b, 0, none⟩), .pointer (some ⟨r, 0, none⟩)] 29)).alloc (.cells #[.int .i64 5, .string x.ct, .slice x.tp x.tn x.tc, .bool x.e, .int .i64 x.a, .int .i64 x.p, .string x.cd, .int .i64 x.n] 47)) = V := ⟨_, rfl⟩
  rw [hVV] at bv bx by_
  have HH : Hid (Pr w K b kb r v L sq tr ms rs ∧ HS w B hb n σ ∧ n + 40 ≤ 1000000000 ∧ Below w.heap.size w V) := ⟨h, hw, hn, bv⟩
  have hPV := h.below bv
  have hpg := pHeard hPV.pb.bx (hV.below bv) h.ok x.ct x.cd x.n
  obtain ⟨y, hy⟩ : ∃ y, heardA sq ms x.ct x.cd x.n = y := ⟨_, rfl⟩
  obtain ⟨z, hz⟩ : ∃ z, heardA sq rs x.ct x.cd x.n = z := ⟨_, rfl⟩
  have hsm : y.Same z := by rw [← hy, ← hz]; exact heard_same h.wis x.ct x.cd x.n
  have HY : Hid (y.Same z ∧ TxIn y.ms ms ∧ TxIn z.ms rs ∧ Okk sq tr y.ms ∧ y.ds.length ≤ 100000) := ⟨hsm, by rw [← hy]; exact txin_heard x.ct x.cd x.n, by rw [← hz]; exact txin_heard x.ct x.cd x.n, by rw [← hy]; exact okk_heard h.ok x.ct x.cd x.n, by rw [← hy]; exact hds⟩
  rw [hy] at hpg
  obtain ⟨xb, hxb⟩ : ∃ xb, w.heap.size = xb := ⟨_, rfl⟩
  rw [hxb] at bx by_
  have y0 : V.cell? ⟨xb + 1, 0, none⟩ = some (.int .i64 5) := by_.cell 0
  have z0 : V.cell? ⟨xb, 0, none⟩ = some (.pointer (some ⟨b, 0, none⟩)) := bx.cell 0
  have y1 : V.cell? ⟨xb + 1, 1, none⟩ = some (.string x.ct) := by_.cell 1
  have y6 : V.cell? ⟨xb + 1, 6, none⟩ = some (.string x.cd) := by_.cell 6
  have y7 : V.cell? ⟨xb + 1, 7, none⟩ = some (.int .i64 x.n) := by_.cell 7
  have HX2 : Hid (xb + 1 < V.heap.size ∧ V.cell? ⟨xb + 1, 1, none⟩ = some (.string x.ct) ∧ V.cell? ⟨xb + 1, 6, none⟩ = some (.string x.cd) ∧ V.cell? ⟨xb + 1, 7, none⟩ = some (.int .i64 x.n)) := ⟨by_.lt, by_.cell 1, by_.cell 6, by_.cell 7⟩
  have HX : Hid (V.cell? ⟨xb, 1, none⟩ = some (.pointer (some ⟨r, 0, none⟩)) ∧ xb < V.heap.size ∧ w.heap.size = xb) := ⟨bx.cell 1, bx.lt, hxb⟩
  clear hJ0 h hV hw hn hds bv bx by_ hPV hsm hy
  go_enter Tryz.func7, Tryz.ntmps7
  go_upto_region 26 with (go_at_call 27; refine hpg.mono ?_; rintro _ w2 ⟨a2, c2, ev, rfl, H2⟩)
  clear hpg hVV y0 z0 y1 y6 y7
  have nk : ∀ q, (q = kb ∨ v.ownBlock = some q) → q < w.heap.size := fun q hq => by
    rcases hq with e | e
    · exact (HH.out.1.pb.lt (Or.inr (Or.inl e))).2
    · exact (HH.out.1.pb.lt (Or.inr (Or.inr (Or.inr (Or.inl e))))).2
  have nr : ∀ q, (q = r ∨ L.ownBlock = some q) → q < w.heap.size := fun q hq => by
    rcases hq with e | e
    · exact (HH.out.1.pb.lt (Or.inr (Or.inr (Or.inl e)))).2
    · exact (HH.out.1.pb.lt (Or.inr (Or.inr (Or.inr (Or.inr (Or.inl e)))))).2
  obtain ⟨v1, k1, _, o2⟩ := (HH.out.1.below HH.out.2.2.2).pb.left H2.out.2.2 (txin_ht HY.out.2.1 _)
  have z1 : w2.cell? ⟨xb, 1, none⟩ = some (.pointer (some ⟨r, 0, none⟩)) := (o2.cell (p := ⟨xb, 1, none⟩) HX.out.2.1 fun hq => by have := nk xb hq; have := HX.out.2.2; omega).trans HX.out.1
  have t1 : w2.cell? ⟨xb + 1, 1, none⟩ = some (.string x.ct) := (o2.cell (p := ⟨xb + 1, 1, none⟩) HX2.out.1 fun hq => by have := nk (xb + 1) hq; have := HX.out.2.2; omega).trans HX2.out.2.1
  have t6 : w2.cell? ⟨xb + 1, 6, none⟩ = some (.string x.cd) := (o2.cell (p := ⟨xb + 1, 6, none⟩) HX2.out.1 fun hq => by have := nk (xb + 1) hq; have := HX.out.2.2; omega).trans HX2.out.2.2.1
  have t7 : w2.cell? ⟨xb + 1, 7, none⟩ = some (.int .i64 x.n) := (o2.cell (p := ⟨xb + 1, 7, none⟩) HX2.out.1 fun hq => by have := nk (xb + 1) hq; have := HX.out.2.2; omega).trans HX2.out.2.2.2
  have hrg := rHeard k1.rb x.ct x.cd x.n
  rw [hz] at hrg
  have HN : Hid (∀ q, (q = r ∨ L.ownBlock = some q) → q < w.heap.size) := nr
  have HV2 : Hid (V.heap.size ≤ w2.heap.size) := o2.size
  clear hz nk nr k1 o2
  go_upto_region 27 with (go_at_call 28; refine hrg.mono ?_; rintro _ w3 ⟨a3, c3, rfl, H3⟩)
  clear hrg z1
  have hp := Pr.call (P := fun _ => False) HH.out.1 HH.out.2.2.2 H2.out.2.2 (Below.refl _ _) H3.out.2 HY.out.1 HY.out.2.1 HY.out.2.2.1 HY.out.2.2.2.1
  have hw3 : HS w3 B hb n σ := by
    obtain ⟨_, _, _, _, _, _, o⟩ := hp
    exact HH.out.2.1.off o fun k hk hf => by
      rcases hf with g | g
      · exact HJ.out.ap k g hk
      · exact g
  obtain ⟨L3, _, o3, _⟩ := H3.out.2
  have hVs := HH.out.2.2.2.size
  have hd3 : DRow w3 V.heap.size (.slice a2 y.ds.length c2) y.ds := ERow.off H2.out.1 o3 fun q hq hr => by have := HN.out q hr; have := (ERow.lt H2.out.1 hq).1; omega
  have he3 : OEv w3 V.heap.size ev 0 y.cd := H2.out.2.1.off o3 fun q h1 _ h3 => by have := HN.out q h3; omega
  have hde := deeds_s hw3 hd3 (Nat.le_trans HH.out.2.1.h0.hr.hB hVs) HH.out.2.2.1 HY.out.2.2.2.2 fun q hq e => by have := (ERow.lt hd3 hq).1; have := (HH.out.2.1.lt e).2; omega
  have H4 : Hid (HS w3 B hb n σ ∧ DRow w3 V.heap.size (.slice a2 y.ds.length c2) y.ds ∧ OEv w3 V.heap.size ev 0 y.cd ∧ DRow w3 w2.heap.size (.slice a3 z.ds.length c3) z.ds ∧ PlR w K b kb r v L sq tr ms rs (fun _ => False) w3) := ⟨hw3, hd3, he3, H3.out.1, hp⟩
  clear hp hw3 o3 hd3 he3 hVs H2 H3
  go_upto_region 28 with (go_at_call 25; refine hde.mono ?_; rintro _ w4 ⟨rfl, H5⟩)
  have hlt : ∀ q, HsFt σ q → q < w.heap.size := fun q hq => (HH.out.2.1.lt hq).2
  obtain ⟨f5, _, _, o5w, _⟩ := H5.out
  have o5 : Off (HsFt σ) w3 w4 := o5w.mono fun _ e => e.ft
  have hVs := HH.out.2.2.2.size
  have d4 : DRow w4 V.heap.size (.slice a2 y.ds.length c2) y.ds := ERow.off H4.out.2.1 o5 fun q hq e => by have := (ERow.lt H4.out.2.1 hq).1; have := hlt q e; omega
  have d5 : DRow w4 w2.heap.size (.slice a3 z.ds.length c3) y.ds := by
    rw [HY.out.1.ds]
    exact ERow.off H4.out.2.2.2.1 o5 fun q hq e => by have := (ERow.lt H4.out.2.2.2.1 hq).1; have := hlt q e; have := HV2.out; omega
  have e5 : OEv w4 V.heap.size ev 0 z.cd := by
    rw [← HY.out.1.cd]
    exact H4.out.2.2.1.off o5 fun q h1 _ h3 => by have := hlt q h3; omega
  have hsd := sameDeeds_any d4 d5
  have hrf := fun m => refused_any ((e5.below (below_drewN (Below.refl _ _) m)).err)
  have HE : Hid (∀ m, PlJ w K b kb r B hb (n + 1) v L σ sq tr ms rs (w4.drewN m)) := fun m => PlJ.of (T := fun g => (Value.slice a2 y.ds.length c2).ownBlock = some g) HJ.out H4.out.2.2.2.2 (by
    obtain ⟨f6, g1, g2, g3, g4⟩ := H5.out
    exact ⟨f6, g1.below (below_drewN (Below.refl _ _) m), g2, g3.trans (Off.of_below (below_drewN (Below.refl _ _) m)), g4⟩) fun q hq => ⟨by have := (ERow.lt H4.out.2.1 hq).1; omega, fun v' L' ms' rs' hpb => drow_nft hpb H4.out.2.1 hq⟩
  clear hlt o5 o5w hVs d4 d5 e5 hde H4 H5
  go_wp2_with (first | (go_at_call 26; refine hsd.mono ?_; rintro _ w6 ⟨rfl, m6, rfl⟩) | (go_at_call 13; refine (hrf _).mono ?_; rintro _ w9 ⟨rfl, h9⟩; subst w9))
  go_ret
  exact ⟨rfl, HE.out _⟩
end
end Go.Proofs.YtoijhecphgdfnaaGreatDoor

/-
  The law's plays: Next.
-/
namespace Go.Proofs.YtoijhecphgdfnaaGreatDoor
open Go.RowKit

section
variable {w w1 w2 w3 w4 w' z : World} {K b kb r B hb n m : Nat} {v L : Value} {σ : Hs} {sq : Bool} {tr : Int} {ms rs : List Msg}
set_option maxRecDepth 100000 in
set_option maxHeartbeats 8000000 in
theorem plays_nextJ (hJ0 : JS w K b kb r B hb n v L σ sq tr ms rs) (hn : n + 40 ≤ 1000000000) (x : Opv) :
    Calls Tryz.prog 7 #[.agg #[.pointer (some ⟨b, 0, none⟩), .pointer (some ⟨r, 0, none⟩)], .agg #[.int .i64 2, .string x.ct, .slice x.tp x.tn x.tc, .bool x.e, .int .i64 x.a, .int .i64 x.p, .string x.cd, .int .i64 x.n], .pointer (some ⟨hb, 0, none⟩)] w fun e w' => e = .returned (.bool true) ∧ Hid (PlJ w K b kb r B hb (n + 1) v L σ sq tr ms rs w') := by
  have h := hJ0.pr
  have hw := hJ0.hs
  have HJ : Hid (JS w K b kb r B hb n v L σ sq tr ms rs) := hJ0
  have bv : Below w.heap.size w ((w.alloc (.cells #[.pointer (some ⟨b, 0, none⟩), .pointer (some ⟨r, 0, none⟩)] 29)).alloc (.cells #[.int .i64 2, .string x.ct, .slice x.tp x.tn x.tc, .bool x.e, .int .i64 x.a, .int .i64 x.p, .string x.cd, .int .i64 x.n] 47)) := ((Below.refl _ _).alloc (Nat.le_refl _) _).alloc (by simp) _
  have bx := (Box.new w #[.pointer (some ⟨b, 0, none⟩), .pointer (some ⟨r, 0, none⟩)] 29).alloc (.cells #[.int .i64 2, .string x.ct, .slice x.tp x.tn x.tc, .bool x.e, .int .i64 x.a, .int .i64 x.p, .string x.cd, .int .i64 x.n] 47)
  have by_ := Box.new (w.alloc (.cells #[.pointer (some ⟨b, 0, none⟩), .pointer (some ⟨r, 0, none⟩)] 29)) #[.int .i64 2, .string x.ct, .slice x.tp x.tn x.tc, .bool x.e, .int .i64 x.a, .int .i64 x.p, .string x.cd, .int .i64 x.n] 47
  rw [World.size_alloc] at by_
  obtain ⟨V, hVV⟩ : ∃ V, ((w.alloc (.cells #[.pointer (some ⟨b, 0, none⟩), .pointer (some ⟨r, 0, none⟩)] 29)).alloc (.cells #[.int .i64 2, .string x.ct, .slice x.tp x.tn x.tc, .bool x.e, .int .i64 x.a, .int .i64 x.p, .string x.cd, .int .i64 x.n] 47)) = V := ⟨_, rfl⟩
  rw [hVV] at bv bx by_
  have HH : Hid (Pr w K b kb r v L sq tr ms rs ∧ HS w B hb n σ ∧ n + 40 ≤ 1000000000 ∧ Below w.heap.size w V) := ⟨h, hw, hn, bv⟩
  obtain ⟨y, is, hy, hp, hr⟩ := next_both (b := b) (kb := kb) (K := K) (r := r) (v := v) (L := L) (sq := sq) (tr := tr) h.wis (fun m hm => (h.pb.bx.2.2 m hm).2)
  have HY : Hid (y.tn ≤ 8192 ∧ ∀ z, RB z K r L sq tr rs → Calls Tryz.prog 19 #[.pointer (some ⟨r, 0, none⟩)] z (OtQ z y is)) := ⟨hy, hr⟩
  have hpn := hp V (h.below bv).pb.bx
  obtain ⟨xb, hxb⟩ : ∃ xb, w.heap.size = xb := ⟨_, rfl⟩
  rw [hxb] at bx by_
  have y0 : V.cell? ⟨xb + 1, 0, none⟩ = some (.int .i64 2) := by_.cell 0
  have z0 : V.cell? ⟨xb, 0, none⟩ = some (.pointer (some ⟨b, 0, none⟩)) := bx.cell 0
  have HX : Hid (V.cell? ⟨xb, 1, none⟩ = some (.pointer (some ⟨r, 0, none⟩)) ∧ xb < V.heap.size ∧ V.cell? ⟨xb + 1, 1, none⟩ = some (.string x.ct) ∧ xb + 1 < V.heap.size) := ⟨bx.cell 1, bx.lt, by_.cell 1, by_.lt⟩
  clear hJ0 h hw hn bv bx by_ hp hr hy
  go_enter Tryz.func7, Tryz.ntmps7
  go_upto_region 14 with (go_at_call 18; refine hpn.mono ?_; rintro _ w2 ⟨a2, c2, rfl, H2⟩)
  clear hpn hVV y0 z0
  have b2 := H2.out.2
  have bA : Below w2.heap.size w2 (w2.alloc (.cells #[.string y.ct, .slice a2 y.tn c2, .bool y.e, .int .i64 y.a, .int .i64 y.p, .int .i64 y.nu, .bool y.nt] 58)) := (Below.refl _ _).alloc (Nat.le_refl _) _
  have xA := Box.new w2 #[.string y.ct, .slice a2 y.tn c2, .bool y.e, .int .i64 y.a, .int .i64 y.p, .int .i64 y.nu, .bool y.nt] 58
  obtain ⟨V2, hV2⟩ : ∃ V2, w2.alloc (.cells #[.string y.ct, .slice a2 y.tn c2, .bool y.e, .int .i64 y.a, .int .i64 y.p, .int .i64 y.nu, .bool y.nt] 58) = V2 := ⟨_, rfl⟩
  rw [hV2] at bA xA
  have b2A := below_then b2 bA
  have z1 : V2.cell? ⟨xb, 1, none⟩ = some (.pointer (some ⟨r, 0, none⟩)) := (b2A.cell (p := ⟨xb, 1, none⟩) HX.out.2.1).trans HX.out.1
  have hrn := HY.out.2 V2 (HH.out.1.below (below_then HH.out.2.2.2 b2A)).pb.rb
  have HA : Hid (Box V2 w2.heap.size #[.string y.ct, .slice a2 y.tn c2, .bool y.e, .int .i64 y.a, .int .i64 y.p, .int .i64 y.nu, .bool y.nt] ∧ Below w2.heap.size w2 V2) := ⟨xA, bA⟩
  clear b2 bA xA b2A
  go_upto_region 15 with (go_at_call 19; refine hrn.mono ?_; rintro _ w3 ⟨a3, c3, rfl, H3⟩)
  clear hrn z1 hV2
  have b3 := H3.out.2
  have bA : Below w3.heap.size w3 (w3.alloc (.cells #[.string y.ct, .slice a3 y.tn c3, .bool y.e, .int .i64 y.a, .int .i64 y.p, .int .i64 y.nu, .bool y.nt] 58)) := (Below.refl _ _).alloc (Nat.le_refl _) _
  have xA := Box.new w3 #[.string y.ct, .slice a3 y.tn c3, .bool y.e, .int .i64 y.a, .int .i64 y.p, .int .i64 y.nu, .bool y.nt] 58
  obtain ⟨V3, hV3⟩ : ∃ V3, w3.alloc (.cells #[.string y.ct, .slice a3 y.tn c3, .bool y.e, .int .i64 y.a, .int .i64 y.p, .int .i64 y.nu, .bool y.nt] 58) = V3 := ⟨_, rfl⟩
  rw [hV3] at bA xA
  have b3A := below_then b3 bA
  have b23 := below_then HA.out.2 b3A
  have b13 : Below w.heap.size w V3 := below_then (below_then HH.out.2.2.2 H2.out.2) b23
  have r2 : BRow V3 V.heap.size (.slice a2 y.tn c2) y.tx := ERow.below H2.out.1 b23
  have r3 : BRow V3 V2.heap.size (.slice a3 y.tn c3) y.tx := ERow.below H3.out.1 bA
  have x2 := HA.out.1.below b3A
  have HB : Hid (BRow V3 V.heap.size (.slice a2 y.tn c2) y.tx ∧ BRow V3 V2.heap.size (.slice a3 y.tn c3) y.tx ∧ Below w.heap.size w V3 ∧ Box V3 w2.heap.size #[.string y.ct, .slice a2 y.tn c2, .bool y.e, .int .i64 y.a, .int .i64 y.p, .int .i64 y.nu, .bool y.nt] ∧ Box V3 w3.heap.size #[.string y.ct, .slice a3 y.tn c3, .bool y.e, .int .i64 y.a, .int .i64 y.p, .int .i64 y.nu, .bool y.nt] ∧ V.heap.size ≤ w2.heap.size ∧ V.heap.size ≤ w3.heap.size) := ⟨r2, r3, b13, x2, xA, H2.out.2.size, Nat.le_trans H2.out.2.size (Nat.le_trans HA.out.2.size b3.size)⟩
  have HV2 : Hid (V.heap.size ≤ V2.heap.size) := Nat.le_trans H2.out.2.size HA.out.2.size
  have k2 : V3.cell? ⟨w2.heap.size, 0 + 1, none⟩ = some (.slice a2 y.tn c2) := x2.cell 1
  have HT : Hid (∀ z, Below V3.heap.size V3 z → Calls Tryz.prog 20 #[.pointer (some ⟨hb, 4, none⟩), .slice a2 y.tn c2] z fun e w4 => e = .returned (.tuple #[]) ∧ Hid (Below V3.heap.size V3 z ∧ HSQ z B hb (n + 1) σ (fun g => (Value.slice a2 y.tn c2).ownBlock = some g) w4)) := fun z hz => (take_s (c := c2) (HH.out.2.1.below (below_then b13 hz)) (ERow.base (ERow.below r2 hz) (Nat.le_trans HH.out.2.1.h0.hr.hB HH.out.2.2.2.size)) (fun q hq e => by have := (ERow.lt r2 hq).1; have := (HH.out.2.1.lt e).2; have := HH.out.2.2.2.size; omega) HY.out.1 (by have := HH.out.2.2.1; omega)).mono fun e w4 ⟨e1, h1⟩ => ⟨e1, hz, h1.out⟩
  clear b3 bA b3A b23 b13 r2 r3 x2 xA H2 H3 HA
  rw [Nat.zero_add] at k2
  go_region_law (go_simp; go_at_call 20; refine (HT.out _ (Below.drew (Below.refl _ _))).mono ?_; rintro _ w4 ⟨rfl, H4⟩; go_wp2_with fail)
  all_goals
    obtain ⟨hz4, hq4⟩ := H4.out
    obtain ⟨f4, g4, k4, o4, m4⟩ := hq4
    have oo : Off (HsFt σ) V3 w4 := (Off.of_below hz4).trans (o4.mono fun _ e => e.ft)
    have hv3 := HH.out.2.1.below HB.out.2.2.1
    have hlo : ∀ q, V.heap.size ≤ q → ¬ HsFt σ q := fun q hq e => by have := (HH.out.2.1.lt e).2; have := HH.out.2.2.2.size; omega
    have x2 := HB.out.2.2.2.1.off oo (hlo _ HB.out.2.2.2.2.2.1)
    have x3 := HB.out.2.2.2.2.1.off oo (hlo _ HB.out.2.2.2.2.2.2)
    have t2 : BRow w4 V.heap.size (.slice a2 y.tn c2) y.tx := ERow.off HB.out.1 oo fun q hq e => hlo q (ERow.lt HB.out.1 hq).1 e
    have t3 : BRow w4 V2.heap.size (.slice a3 y.tn c3) y.tx := ERow.off HB.out.2.1 oo fun q hq e => hlo q (Nat.le_trans HV2.out (ERow.lt HB.out.2.1 hq).1) e
    have HL : Hid (∀ z, Below w4.heap.size w4 z → PlJ w K b kb r B hb (n + 1) v L σ sq tr ms rs z) := fun z hz => PlJ.looked HJ.out (below_then HB.out.2.2.1 hz4) ⟨f4, g4, k4, o4, m4⟩ (fun q hq => by have := (ERow.lt HB.out.1 hq).1; have := HH.out.2.2.2.size; omega) hz
    have HS : Hid (∀ z, Below w4.heap.size w4 z → Calls Tryz.prog 15 #[.agg #[.string y.ct, .slice a2 y.tn c2, .bool y.e, .int .i64 y.a, .int .i64 y.p, .int .i64 y.nu, .bool y.nt], .agg #[.string y.ct, .slice a3 y.tn c3, .bool y.e, .int .i64 y.a, .int .i64 y.p, .int .i64 y.nu, .bool y.nt]] z fun e w' => e = .returned (.bool true) ∧ Hid (Below w4.heap.size w4 w')) := fun z hz => (sameOut_true y (t2.byts.below hz) (t3.byts.below hz) (by have := HY.out.1; omega)).mono fun e w' ⟨e1, h1⟩ => ⟨e1, below_then hz h1⟩
    have hii : (is == is) = true := by simp
    have p0 : w4.cell? ⟨w2.heap.size, 0, none⟩ = some (.string y.ct) := x2.cell 0
    have q0 : w4.cell? ⟨w3.heap.size, 0, none⟩ = some (.string y.ct) := x3.cell 0
    have p1 : w4.cell? ⟨w2.heap.size, 1, none⟩ = some (.slice a2 y.tn c2) := x2.cell 1
    have q1 : w4.cell? ⟨w3.heap.size, 1, none⟩ = some (.slice a3 y.tn c3) := x3.cell 1
    have p2 : w4.cell? ⟨w2.heap.size, 2, none⟩ = some (.bool y.e) := x2.cell 2
    have q2 : w4.cell? ⟨w3.heap.size, 2, none⟩ = some (.bool y.e) := x3.cell 2
    have p3 : w4.cell? ⟨w2.heap.size, 3, none⟩ = some (.int .i64 y.a) := x2.cell 3
    have q3 : w4.cell? ⟨w3.heap.size, 3, none⟩ = some (.int .i64 y.a) := x3.cell 3
    have p4 : w4.cell? ⟨w2.heap.size, 4, none⟩ = some (.int .i64 y.p) := x2.cell 4
    have q4 : w4.cell? ⟨w3.heap.size, 4, none⟩ = some (.int .i64 y.p) := x3.cell 4
    have p5 : w4.cell? ⟨w2.heap.size, 5, none⟩ = some (.int .i64 y.nu) := x2.cell 5
    have q5 : w4.cell? ⟨w3.heap.size, 5, none⟩ = some (.int .i64 y.nu) := x3.cell 5
    have p6 : w4.cell? ⟨w2.heap.size, 6, none⟩ = some (.bool y.nt) := x2.cell 6
    have q6 : w4.cell? ⟨w3.heap.size, 6, none⟩ = some (.bool y.nt) := x3.cell 6
    clear hz4 g4 k4 o4 m4 oo hv3 hlo x2 x3 t2 t3 H4 k2
    go_wp2_with (first | (go_at_call 15; refine (HS.out _ (by first | exact Below.refl _ _ | exact below_drewN (Below.refl _ _) _)).mono ?_; rintro _ w6 ⟨rfl, H6⟩))
    go_ret
    exact ⟨rfl, HL.out _ (by first | exact H6.out | exact below_drewN H6.out _)⟩
end
end Go.Proofs.YtoijhecphgdfnaaGreatDoor
