import Derived.Test.YtoijhecphgdfnaaGreatDoorOrAx
import Derived.Test.YtoijhecphgdfnaaGreatDoorOxDo3
/-
  Next and Get of both boxes: what they answer, whatever the box.
-/
namespace Go.Proofs.YtoijhecphgdfnaaGreatDoor
open Go.RowKit

theorem start_len (e : Bool) (a p t : Int) (nt : Bool) : (startS e a p t nt).l.length ≤ 3 := by
  unfold startS
  repeat' split
  all_goals simp
theorem due_len (e : Bool) (a p st lf : Int) : (dueS e a p st lf).l.length ≤ 3 := by
  unfold dueS
  repeat' split
  all_goals simp
theorem heard_len (e : Bool) (a p st lf : Int) (s : ByteArray) (b : Bool) : (heardS e a p st lf s b).l.length ≤ 3 := by
  unfold heardS
  repeat' split
  all_goals simp
theorem deeds_len (c : ByteArray) (l : ActL) : (deedsS c l).length = l.length := by simp [deedsS]
theorem goA_len (sq : Bool) (tr : Int) (ms : List Msg) : (goA sq tr ms).ds.length ≤ 1000000000 := by
  unfold goA
  split
  · simp
  split
  · simp
  · split
    · simp
    · show (deedsS _ _).length ≤ _
      rw [deeds_len]
      exact Nat.le_trans (start_len _ _ _ _ _) (by decide)
theorem dueA_len (ms : List Msg) (s : ByteArray) : (dueA ms s).ds.length ≤ 1000000000 := by
  unfold dueA
  split
  · simp
  split
  · simp
  · split
    · simp
    · show (deedsS _ _).length ≤ _
      rw [deeds_len]
      exact Nat.le_trans (due_len _ _ _ _ _) (by decide)
theorem heardA_len (sq : Bool) (ms : List Msg) (s cd : ByteArray) (x : Int) : (heardA sq ms s cd x).ds.length ≤ 1000000000 := by
  unfold heardA
  split
  · simp
  split
  · simp
  · split
    · simp
    split
    · simp
    split
    · show (deedsS _ _).length ≤ _
      rw [deeds_len]
      simp
    · show (deedsS _ _).length ≤ _
      rw [deeds_len]
      exact Nat.le_trans (heard_len _ _ _ _ _ _ _) (by decide)
section
variable {w w' : World} {K b kb r : Nat} {v L : Value} {sq : Bool} {tr : Int} {ms rs : List Msg}
/-- Next, both. -/
theorem next_both (h : Wis ms rs) (hl : ∀ m ∈ ms, m.tn ≤ 8192) : ∃ y is, y.tn ≤ 8192 ∧ (∀ z, Bx z b kb v sq tr ms → Calls Tryz.prog 18 #[.pointer (some ⟨b, 0, none⟩)] z (OtQ z y is)) ∧ (∀ z, RB z K r L sq tr rs → Calls Tryz.prog 19 #[.pointer (some ⟨r, 0, none⟩)] z (OtQ z y is)) := by
  cases hn : nxI sq rs with
  | none =>
    have hm : nxI sq ms = none := h.nx.trans hn
    refine ⟨zM, false, by decide, fun z hz => ?_, fun z hz => rNext_none hz hn⟩
    exact (nextC_no hz (nxI_none.1 hm)).mono fun e w' ⟨a, c, h1, h2, h3⟩ => ⟨a, c, h1, h2, h3⟩
  | some i =>
    have hm : nxI sq ms = some i := h.nx.trans hn
    obtain ⟨m, hmi, hms, _⟩ := nxI_some hm
    obtain ⟨y, a, c, hy, rfl⟩ := h.at_ hmi
    refine ⟨y, true, (by have := hl (y.wi a c) (List.mem_of_getElem? hmi); exact this), fun z hz => ?_, fun z hz => rNext_some hz hn hy⟩
    exact (nextC_yes hz hms).mono fun e w' ⟨a2, c2, h1, h2, h3⟩ => ⟨a2, c2, h1, h2, h3⟩
/-- What a Get tells: a Sent, an error. -/
def GtQ (w : World) (m : Msg) (cd : Int) (e : Ending) (w' : World) : Prop := ∃ a c ev, e = .returned (.tuple #[.agg #[.string m.ct, .slice a m.tn c, .bool m.e, .int .i64 m.a, .int .i64 m.p, .int .i64 m.nu, .bool m.nt, .int .i64 m.st, .int .i64 m.lf, .bool m.un], ev]) ∧ Hid (BRow w' w.heap.size (.slice a m.tn c) m.tx ∧ OEv w' w.heap.size ev 0 cd ∧ Below w.heap.size w w')
theorem get_both (h : Wis ms rs) (hl : ∀ m ∈ ms, m.tn ≤ 8192) (s : ByteArray) : ∃ y cd, y.tn ≤ 8192 ∧ (∀ z, Bx z b kb v sq tr ms → Calls Tryz.prog 31 #[.pointer (some ⟨b, 0, none⟩), .string s] z (GtQ z y cd)) ∧ (∀ z, RB z K r L sq tr rs → Calls Tryz.prog 32 #[.pointer (some ⟨r, 0, none⟩), .string s] z (StQ2 z y cd)) := by
  cases hn : fi s rs with
  | none =>
    have hm : fi s ms = none := (h.fi s).trans hn
    refine ⟨zM, 11, by decide, fun z hz => ?_, fun z hz => rGet_none hz s hn⟩
    exact (get_no hz s hm).mono fun e w' ⟨z', h1, h2, h3, h4⟩ => ⟨none, 0, _, h1, ERow.nil _ _ _ _ _, Or.inr ⟨by decide, z', rfl, h2, h3⟩, h4⟩
  | some i =>
    have hm : fi s ms = some i := (h.fi s).trans hn
    obtain ⟨m, hmi, _⟩ := fi_some hm
    obtain ⟨y, a, c, hy, rfl⟩ := h.at_ hmi
    refine ⟨y, 0, (by have := hl (y.wi a c) (List.mem_of_getElem? hmi); exact this), fun z hz => ?_, fun z hz => rGet_some hz s hn hy⟩
    exact (get_yes hz s hm hmi).mono fun e w' ⟨a2, c2, h1, h2, h3⟩ => ⟨a2, c2, _, h1, h2, Or.inl ⟨rfl, rfl⟩, h3⟩
end
end Go.Proofs.YtoijhecphgdfnaaGreatDoor

/-
  The law's plays: Next.
-/
namespace Go.Proofs.YtoijhecphgdfnaaGreatDoor
open Go.RowKit

section
variable {w w1 w2 w3 w4 w' z : World} {K b kb r B hb n m : Nat} {v L : Value} {f : Nat → Value} {sq : Bool} {tr : Int} {ms rs : List Msg}
/-- Looked at alone; then Held. -/
theorem PlH.looked (h : Pr w K b kb r v L sq tr ms rs) (hw : HW w B hb n f) (h3 : Below w.heap.size w w3) (hq : HWQ w3 B hb m f w4) (hz : Below w4.heap.size w4 z) : PlH w K b kb r B hb m v L f sq tr ms rs z := by
  have p3 := h.pb.below h3
  have hw3 := hw.below h3
  obtain ⟨f4, q1, q2, q3⟩ := hq
  exact ⟨v, L, ms, rs, f4, ⟨(p3.off q3 fun q hf hk => hft_ne p3 hw3 hf hk).below hz, h.wis, h.ok⟩, q1.below hz, fun q h1 => Or.inl h1, fun q h1 => (q2 q h1).imp id fun g => Nat.le_trans h3.size g, ((Off.of_below h3).trans (q3.trans (Off.of_below hz))).mono fun q h1 => Or.inr h1⟩
theorem brow_held {C : Nat} {a : Option Addr} {k c : Nat} {bs : List Int} (hw : HW w B hb n f) (o : Off (HFt hb f) w w1) (h : BRow w C (.slice a k c) bs) : BRow w1 C (.slice a k c) bs := ERow.off h o fun q hq => by
  obtain ⟨cs, hc⟩ := brow_type h hq
  exact held_ne hw hc (by decide) (by decide) (by decide) (by decide)
theorem hft_lt (hw : HW w B hb n f) {q : Nat} (h : HFt hb f q) : q < w.heap.size := by
  rcases h with e | ⟨j, hj, e⟩
  · subst e; exact hw.lt
  · obtain ⟨xs, _, hr⟩ := hw.row j hj
    exact (ERow.lt hr e).2
set_option maxRecDepth 100000 in
set_option maxHeartbeats 8000000 in
theorem plays_next (h : Pr w K b kb r v L sq tr ms rs) (hw : HW w B hb n f) (hn : n + 2 ≤ 1000000000) (x : Opv) :
    Calls Tryz.prog 7 #[.agg #[.pointer (some ⟨b, 0, none⟩), .pointer (some ⟨r, 0, none⟩)], .agg #[.int .i64 2, .string x.ct, .slice x.tp x.tn x.tc, .bool x.e, .int .i64 x.a, .int .i64 x.p, .string x.cd, .int .i64 x.n], .pointer (some ⟨hb, 0, none⟩)] w fun e w' => e = .returned (.bool true) ∧ Hid (PlH w K b kb r B hb (n + 2) v L f sq tr ms rs w') := by
  have bv : Below w.heap.size w ((w.alloc (.cells #[.pointer (some ⟨b, 0, none⟩), .pointer (some ⟨r, 0, none⟩)] 29)).alloc (.cells #[.int .i64 2, .string x.ct, .slice x.tp x.tn x.tc, .bool x.e, .int .i64 x.a, .int .i64 x.p, .string x.cd, .int .i64 x.n] 47)) := ((Below.refl _ _).alloc (Nat.le_refl _) _).alloc (by simp) _
  have bx := (Box.new w #[.pointer (some ⟨b, 0, none⟩), .pointer (some ⟨r, 0, none⟩)] 29).alloc (.cells #[.int .i64 2, .string x.ct, .slice x.tp x.tn x.tc, .bool x.e, .int .i64 x.a, .int .i64 x.p, .string x.cd, .int .i64 x.n] 47)
  have by_ := Box.new (w.alloc (.cells #[.pointer (some ⟨b, 0, none⟩), .pointer (some ⟨r, 0, none⟩)] 29)) #[.int .i64 2, .string x.ct, .slice x.tp x.tn x.tc, .bool x.e, .int .i64 x.a, .int .i64 x.p, .string x.cd, .int .i64 x.n] 47
  rw [World.size_alloc] at by_
  obtain ⟨V, hVV⟩ : ∃ V, ((w.alloc (.cells #[.pointer (some ⟨b, 0, none⟩), .pointer (some ⟨r, 0, none⟩)] 29)).alloc (.cells #[.int .i64 2, .string x.ct, .slice x.tp x.tn x.tc, .bool x.e, .int .i64 x.a, .int .i64 x.p, .string x.cd, .int .i64 x.n] 47)) = V := ⟨_, rfl⟩
  rw [hVV] at bv bx by_
  have HH : Hid (Pr w K b kb r v L sq tr ms rs ∧ HW w B hb n f ∧ n + 2 ≤ 1000000000 ∧ Below w.heap.size w V) := ⟨h, hw, hn, bv⟩
  obtain ⟨y, is, hy, hp, hr⟩ := next_both (b := b) (kb := kb) (K := K) (r := r) (v := v) (L := L) (sq := sq) (tr := tr) h.wis (fun m hm => (h.pb.bx.2.2 m hm).2)
  have HY : Hid (y.tn ≤ 8192 ∧ ∀ z, RB z K r L sq tr rs → Calls Tryz.prog 19 #[.pointer (some ⟨r, 0, none⟩)] z (OtQ z y is)) := ⟨hy, hr⟩
  have hpn := hp V (h.below bv).pb.bx
  obtain ⟨xb, hxb⟩ : ∃ xb, w.heap.size = xb := ⟨_, rfl⟩
  rw [hxb] at bx by_
  have y0 : V.cell? ⟨xb + 1, 0, none⟩ = some (.int .i64 2) := by_.cell 0
  have z0 : V.cell? ⟨xb, 0, none⟩ = some (.pointer (some ⟨b, 0, none⟩)) := bx.cell 0
  have HX : Hid (V.cell? ⟨xb, 1, none⟩ = some (.pointer (some ⟨r, 0, none⟩)) ∧ xb < V.heap.size ∧ V.cell? ⟨xb + 1, 1, none⟩ = some (.string x.ct) ∧ xb + 1 < V.heap.size) := ⟨bx.cell 1, bx.lt, by_.cell 1, by_.lt⟩
  clear h hw hn bv bx by_ hp hr hy
  go_enter Tryz.func7, Tryz.ntmps7
  go_upto_region 14 with (go_at_call 18; refine hpn.mono ?_; rintro _ w2 ⟨a2, c2, rfl, H2⟩)
  clear hpn hVV y0 z0
  have b2 := H2.out.2
  have bA : Below w2.heap.size w2 (w2.alloc (.cells #[.string y.ct, .slice a2 y.tn c2, .bool y.e, .int .i64 y.a, .int .i64 y.p, .int .i64 y.nu, .bool y.nt] 58)) := (Below.refl _ _).alloc (Nat.le_refl _) _
  have xA := Box.new w2 #[.string y.ct, .slice a2 y.tn c2, .bool y.e, .int .i64 y.a, .int .i64 y.p, .int .i64 y.nu, .bool y.nt] 58
  obtain ⟨V2, hV2⟩ : ∃ V2, w2.alloc (.cells #[.string y.ct, .slice a2 y.tn c2, .bool y.e, .int .i64 y.a, .int .i64 y.p, .int .i64 y.nu, .bool y.nt] 58) = V2 := ⟨_, rfl⟩
  rw [hV2] at bA xA
  have b2A := below_then b2 bA
  have z1 : V2.cell? ⟨xb, 1, none⟩ = some (.pointer (some ⟨r, 0, none⟩)) := (b2A.cell (p := ⟨xb, 1, none⟩) HX.out.2.1).trans HX.out.1
  have hrn := HY.out.2 V2 (HH.out.1.below (below_then HH.out.2.2.2 b2A)).pb.rb
  have HA : Hid (Box V2 w2.heap.size #[.string y.ct, .slice a2 y.tn c2, .bool y.e, .int .i64 y.a, .int .i64 y.p, .int .i64 y.nu, .bool y.nt] ∧ Below w2.heap.size w2 V2) := ⟨xA, bA⟩
  clear b2 bA xA b2A
  go_upto_region 15 with (go_at_call 19; refine hrn.mono ?_; rintro _ w3 ⟨a3, c3, rfl, H3⟩)
  clear hrn z1 hV2
  have b3 := H3.out.2
  have bA : Below w3.heap.size w3 (w3.alloc (.cells #[.string y.ct, .slice a3 y.tn c3, .bool y.e, .int .i64 y.a, .int .i64 y.p, .int .i64 y.nu, .bool y.nt] 58)) := (Below.refl _ _).alloc (Nat.le_refl _) _
  have xA := Box.new w3 #[.string y.ct, .slice a3 y.tn c3, .bool y.e, .int .i64 y.a, .int .i64 y.p, .int .i64 y.nu, .bool y.nt] 58
  obtain ⟨V3, hV3⟩ : ∃ V3, w3.alloc (.cells #[.string y.ct, .slice a3 y.tn c3, .bool y.e, .int .i64 y.a, .int .i64 y.p, .int .i64 y.nu, .bool y.nt] 58) = V3 := ⟨_, rfl⟩
  rw [hV3] at bA xA
  have b3A := below_then b3 bA
  have b23 := below_then HA.out.2 b3A
  have b13 : Below w.heap.size w V3 := below_then (below_then HH.out.2.2.2 H2.out.2) b23
  have r2 : BRow V3 V.heap.size (.slice a2 y.tn c2) y.tx := ERow.below H2.out.1 b23
  have r3 : BRow V3 V2.heap.size (.slice a3 y.tn c3) y.tx := ERow.below H3.out.1 bA
  have x2 := HA.out.1.below b3A
  have HB : Hid (BRow V3 V.heap.size (.slice a2 y.tn c2) y.tx ∧ BRow V3 V2.heap.size (.slice a3 y.tn c3) y.tx ∧ Below w.heap.size w V3 ∧ Box V3 w2.heap.size #[.string y.ct, .slice a2 y.tn c2, .bool y.e, .int .i64 y.a, .int .i64 y.p, .int .i64 y.nu, .bool y.nt] ∧ Box V3 w3.heap.size #[.string y.ct, .slice a3 y.tn c3, .bool y.e, .int .i64 y.a, .int .i64 y.p, .int .i64 y.nu, .bool y.nt] ∧ V.heap.size ≤ w2.heap.size ∧ V.heap.size ≤ w3.heap.size) := ⟨r2, r3, b13, x2, xA, H2.out.2.size, Nat.le_trans H2.out.2.size (Nat.le_trans HA.out.2.size b3.size)⟩
  have k2 : V3.cell? ⟨w2.heap.size, 0 + 1, none⟩ = some (.slice a2 y.tn c2) := x2.cell 1
  have HT : Hid (∀ z, Below V3.heap.size V3 z → Calls Tryz.prog 20 #[.pointer (some ⟨hb, 4, none⟩), .slice a2 y.tn c2] z fun e w4 => e = .returned (.tuple #[]) ∧ Hid (Below V3.heap.size V3 z ∧ HWQ z B hb (n + 2) f w4)) := fun z hz => (htake_any (c := c2) (HH.out.2.1.below (below_then b13 hz)) (r2.byts.below hz) HH.out.2.2.1 (by have := HY.out.1; omega)).mono fun e w4 ⟨e1, h1⟩ => ⟨e1, hz, h1.out⟩
  clear b3 bA b3A b23 b13 r2 r3 x2 xA H2 H3 HA
  rw [Nat.zero_add] at k2
  go_region_law (go_simp; go_at_call 20; refine (HT.out _ (Below.drew (Below.refl _ _))).mono ?_; rintro _ w4 ⟨rfl, H4⟩; go_wp2_with fail)
  all_goals
    obtain ⟨hz4, hq4⟩ := H4.out
    obtain ⟨f4, g4, k4, o4⟩ := hq4
    have oo : Off (HFt hb f) V3 w4 := (Off.of_below hz4).trans o4
    have hv3 := HH.out.2.1.below HB.out.2.2.1
    have hlo : ∀ q, V.heap.size ≤ q → ¬ HFt hb f q := fun q hq e => by have := hft_lt HH.out.2.1 e; have := HH.out.2.2.2.size; omega
    have x2 := HB.out.2.2.2.1.off oo (hlo _ HB.out.2.2.2.2.2.1)
    have x3 := HB.out.2.2.2.2.1.off oo (hlo _ HB.out.2.2.2.2.2.2)
    have t2 := brow_held hv3 oo HB.out.1
    have t3 := brow_held hv3 oo HB.out.2.1
    have HL : Hid (∀ z, Below w4.heap.size w4 z → PlH w K b kb r B hb (n + 2) v L f sq tr ms rs z) := fun z hz => PlH.looked HH.out.1 HH.out.2.1 (below_then HB.out.2.2.1 hz4) ⟨f4, g4, k4, o4⟩ hz
    have HS : Hid (∀ z, Below w4.heap.size w4 z → Calls Tryz.prog 15 #[.agg #[.string y.ct, .slice a2 y.tn c2, .bool y.e, .int .i64 y.a, .int .i64 y.p, .int .i64 y.nu, .bool y.nt], .agg #[.string y.ct, .slice a3 y.tn c3, .bool y.e, .int .i64 y.a, .int .i64 y.p, .int .i64 y.nu, .bool y.nt]] z fun e w' => e = .returned (.bool true) ∧ Hid (Below w4.heap.size w4 w')) := fun z hz => (sameOut_true y (t2.byts.below hz) (t3.byts.below hz) (by have := HY.out.1; omega)).mono fun e w' ⟨e1, h1⟩ => ⟨e1, below_then hz h1⟩
    have hii : (is == is) = true := by simp
    have p0 : w4.cell? ⟨w2.heap.size, 0, none⟩ = some (.string y.ct) := x2.cell 0
    have q0 : w4.cell? ⟨w3.heap.size, 0, none⟩ = some (.string y.ct) := x3.cell 0
    have p1 : w4.cell? ⟨w2.heap.size, 1, none⟩ = some (.slice a2 y.tn c2) := x2.cell 1
    have q1 : w4.cell? ⟨w3.heap.size, 1, none⟩ = some (.slice a3 y.tn c3) := x3.cell 1
    have p2 : w4.cell? ⟨w2.heap.size, 2, none⟩ = some (.bool y.e) := x2.cell 2
    have q2 : w4.cell? ⟨w3.heap.size, 2, none⟩ = some (.bool y.e) := x3.cell 2
    have p3 : w4.cell? ⟨w2.heap.size, 3, none⟩ = some (.int .i64 y.a) := x2.cell 3
    have q3 : w4.cell? ⟨w3.heap.size, 3, none⟩ = some (.int .i64 y.a) := x3.cell 3
    have p4 : w4.cell? ⟨w2.heap.size, 4, none⟩ = some (.int .i64 y.p) := x2.cell 4
    have q4 : w4.cell? ⟨w3.heap.size, 4, none⟩ = some (.int .i64 y.p) := x3.cell 4
    have p5 : w4.cell? ⟨w2.heap.size, 5, none⟩ = some (.int .i64 y.nu) := x2.cell 5
    have q5 : w4.cell? ⟨w3.heap.size, 5, none⟩ = some (.int .i64 y.nu) := x3.cell 5
    have p6 : w4.cell? ⟨w2.heap.size, 6, none⟩ = some (.bool y.nt) := x2.cell 6
    have q6 : w4.cell? ⟨w3.heap.size, 6, none⟩ = some (.bool y.nt) := x3.cell 6
    clear hz4 g4 k4 o4 oo hv3 hlo x2 x3 t2 t3 H4 k2
    go_wp2_with (first | (go_at_call 15; refine (HS.out _ (by first | exact Below.refl _ _ | exact below_drewN (Below.refl _ _) _)).mono ?_; rintro _ w6 ⟨rfl, H6⟩))
    go_ret
    exact ⟨rfl, HL.out _ (by first | exact H6.out | exact below_drewN H6.out _)⟩
end
end Go.Proofs.YtoijhecphgdfnaaGreatDoor
