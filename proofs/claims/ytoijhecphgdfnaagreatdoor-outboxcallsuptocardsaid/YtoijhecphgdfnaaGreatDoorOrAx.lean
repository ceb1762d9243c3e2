import Derived.Test.YtoijhecphgdfnaaGreatDoorOrPl6
/-
  The law's plays: Heard, walked.
-/
namespace Go.Proofs.YtoijhecphgdfnaaGreatDoor
open Go.RowKit

section
variable {w w1 w' : World} {K b kb r B hb n : Nat} {v L : Value} {f : Nat → Value} {sq : Bool} {tr : Int} {ms rs : List Msg}
set_option maxRecDepth 100000 in
set_option maxHeartbeats 8000000 in
theorem plays_heard (h : Pr w K b kb r v L sq tr ms rs) (hV : PVc w) (hw : HW w B hb n f) (hn : n + 2 ≤ 1000000000) (x : Opv) (hds : (heardA sq ms x.ct x.cd x.n).ds.length ≤ 1000000000) :
    Calls Tryz.prog 7 #[.agg #[.pointer (some ⟨b, 0, none⟩), .pointer (some ⟨r, 0, none⟩)], .agg #[.int .i64 5, .string x.ct, .slice x.tp x.tn x.tc, .bool x.e, .int .i64 x.a, .int .i64 x.p, .string x.cd, .int .i64 x.n], .pointer (some ⟨hb, 0, none⟩)] w fun e w' => e = .returned (.bool true) ∧ Hid (PlH w K b kb r B hb (n + 2) v L f sq tr ms rs w') := by
  have bv : Below w.heap.size w ((w.alloc (.cells #[.pointer (some ⟨b, 0, none⟩), .pointer (some ⟨r, 0, none⟩)] 29)).alloc (.cells #[.int .i64 5, .string x.ct, .slice x.tp x.tn x.tc, .bool x.e, .int .i64 x.a, .int .i64 x.p, .string x.cd, .int .i64 x.n] 47)) := ((Below.refl _ _).alloc (Nat.le_refl _) _).alloc (by simp) _
  have bx := (Box.new w #[.pointer (some ⟨b, 0, none⟩), .pointer (some ⟨r, 0, none⟩)] 29).alloc (.cells #[.int .i64 5, .string x.ct, .slice x.tp x.tn x.tc, .bool x.e, .int .i64 x.a, .int .i64 x.p, .string x.cd, .int .i64 x.n] 47)
  have by_ := Box.new (w.alloc (.cells #[.pointer (some ⟨b, 0, none⟩), .pointer (some ⟨r, 0, none⟩)] 29)) #[.int .i64 5, .string x.ct, .slice x.tp x.tn x.tc, .bool x.e, .int .i64 x.a, .int .i64 x.p, .string x.cd, .int .i64 x.n] 47
  rw [World.size_alloc] at by_
  obtain ⟨V, hVV⟩ : ∃ V, ((w.alloc (.cells #[.pointer (some ⟨b, 0, none⟩), .pointer (some ⟨r, 0, none⟩)] 29)).alloc (.cells #[.int .i64 5, .string x.ct, .slice x.tp x.tn x.tc, .bool x.e, .int .i64 x.a, .int .i64 x.p, .string x.cd, .int .i64 x.n] 47)) = V := ⟨_, rfl⟩
  rw [hVV] at bv bx by_
  have HH : Hid (Pr w K b kb r v L sq tr ms rs ∧ HW w B hb n f ∧ n + 2 ≤ 1000000000 ∧ Below w.heap.size w V) := ⟨h, hw, hn, bv⟩
  have hPV := h.below bv
  have hpg := pHeard hPV.pb.bx (hV.below bv) h.ok x.ct x.cd x.n
  obtain ⟨y, hy⟩ : ∃ y, heardA sq ms x.ct x.cd x.n = y := ⟨_, rfl⟩
  obtain ⟨z, hz⟩ : ∃ z, heardA sq rs x.ct x.cd x.n = z := ⟨_, rfl⟩
  have hsm : y.Same z := by rw [← hy, ← hz]; exact heard_same h.wis x.ct x.cd x.n
  have HY : Hid (y.Same z ∧ TxIn y.ms ms ∧ TxIn z.ms rs ∧ Okk sq tr y.ms ∧ y.ds.length ≤ 1000000000) := ⟨hsm, by rw [← hy]; exact txin_heard x.ct x.cd x.n, by rw [← hz]; exact txin_heard x.ct x.cd x.n, by rw [← hy]; exact okk_heard h.ok x.ct x.cd x.n, by rw [← hy]; exact hds⟩
  rw [hy] at hpg
  obtain ⟨xb, hxb⟩ : ∃ xb, w.heap.size = xb := ⟨_, rfl⟩
  rw [hxb] at bx by_
  have y0 : V.cell? ⟨xb + 1, 0, none⟩ = some (.int .i64 5) := by_.cell 0
  have z0 : V.cell? ⟨xb, 0, none⟩ = some (.pointer (some ⟨b, 0, none⟩)) := bx.cell 0
  have y1 : V.cell? ⟨xb + 1, 1, none⟩ = some (.string x.ct) := by_.cell 1
  have y6 : V.cell? ⟨xb + 1, 6, none⟩ = some (.string x.cd) := by_.cell 6
  have y7 : V.cell? ⟨xb + 1, 7, none⟩ = some (.int .i64 x.n) := by_.cell 7
  have HX2 : Hid (xb + 1 < V.heap.size ∧ V.cell? ⟨xb + 1, 1, none⟩ = some (.string x.ct) ∧ V.cell? ⟨xb + 1, 6, none⟩ = some (.string x.cd) ∧ V.cell? ⟨xb + 1, 7, none⟩ = some (.int .i64 x.n)) := ⟨by_.lt, by_.cell 1, by_.cell 6, by_.cell 7⟩
  have HX : Hid (V.cell? ⟨xb, 1, none⟩ = some (.pointer (some ⟨r, 0, none⟩)) ∧ xb < V.heap.size ∧ w.heap.size = xb) := ⟨bx.cell 1, bx.lt, hxb⟩
  clear h hV hw hn hds bv bx by_ hPV hsm hy
  go_enter Tryz.func7, Tryz.ntmps7
  go_upto_region 26 with (go_at_call 27; refine hpg.mono ?_; rintro _ w2 ⟨a2, c2, ev, rfl, H2⟩)
  clear hpg hVV y0 z0 y1 y6 y7
  have nk : ∀ q, (q = kb ∨ v.ownBlock = some q) → q < w.heap.size := fun q hq => by
    rcases hq with e | e
    · exact (HH.out.1.pb.lt (Or.inr (Or.inl e))).2
    · exact (HH.out.1.pb.lt (Or.inr (Or.inr (Or.inr (Or.inl e))))).2
  have nr : ∀ q, (q = r ∨ L.ownBlock = some q) → q < w.heap.size := fun q hq => by
    rcases hq with e | e
    · exact (HH.out.1.pb.lt (Or.inr (Or.inr (Or.inl e)))).2
    · exact (HH.out.1.pb.lt (Or.inr (Or.inr (Or.inr (Or.inr (Or.inl e)))))).2
  obtain ⟨v1, k1, _, o2⟩ := (HH.out.1.below HH.out.2.2.2).pb.left H2.out.2.2 (txin_ht HY.out.2.1 _)
  have z1 : w2.cell? ⟨xb, 1, none⟩ = some (.pointer (some ⟨r, 0, none⟩)) := (o2.cell (p := ⟨xb, 1, none⟩) HX.out.2.1 fun hq => by have := nk xb hq; have := HX.out.2.2; omega).trans HX.out.1
  have t1 : w2.cell? ⟨xb + 1, 1, none⟩ = some (.string x.ct) := (o2.cell (p := ⟨xb + 1, 1, none⟩) HX2.out.1 fun hq => by have := nk (xb + 1) hq; have := HX.out.2.2; omega).trans HX2.out.2.1
  have t6 : w2.cell? ⟨xb + 1, 6, none⟩ = some (.string x.cd) := (o2.cell (p := ⟨xb + 1, 6, none⟩) HX2.out.1 fun hq => by have := nk (xb + 1) hq; have := HX.out.2.2; omega).trans HX2.out.2.2.1
  have t7 : w2.cell? ⟨xb + 1, 7, none⟩ = some (.int .i64 x.n) := (o2.cell (p := ⟨xb + 1, 7, none⟩) HX2.out.1 fun hq => by have := nk (xb + 1) hq; have := HX.out.2.2; omega).trans HX2.out.2.2.2
  have hrg := rHeard k1.rb x.ct x.cd x.n
  rw [hz] at hrg
  have HN : Hid (∀ q, (q = r ∨ L.ownBlock = some q) → q < w.heap.size) := nr
  clear hz nk nr k1 o2
  go_upto_region 27 with (go_at_call 28; refine hrg.mono ?_; rintro _ w3 ⟨a3, c3, rfl, H3⟩)
  clear hrg z1
  have hp := Pr.call (P := fun _ => False) HH.out.1 HH.out.2.2.2 H2.out.2.2 (Below.refl _ _) H3.out.2 HY.out.1 HY.out.2.1 HY.out.2.2.1 HY.out.2.2.2.1
  have hw3 : HW w3 B hb n f := by
    obtain ⟨_, _, _, _, _, _, o⟩ := hp
    exact HH.out.2.1.off o fun k hk hf => by
      rcases hf with g | g
      · exact hft_ne HH.out.1.pb HH.out.2.1 g hk
      · exact g
  obtain ⟨L3, _, o3, _⟩ := H3.out.2
  have hVs := HH.out.2.2.2.size
  have hd3 : DRow w3 V.heap.size (.slice a2 y.ds.length c2) y.ds := ERow.off H2.out.1 o3 fun q hq hr => by have := HN.out q hr; have := (ERow.lt H2.out.1 hq).1; omega
  have he3 : OEv w3 V.heap.size ev 0 y.cd := H2.out.2.1.off o3 fun q h1 _ h3 => by have := HN.out q h3; omega
  have hde := deeds_any hw3 hd3 HH.out.2.2.1 HY.out.2.2.2.2 fun q hq => drow_ne hw3 hd3 hq
  have H4 : Hid (HW w3 B hb n f ∧ DRow w3 V.heap.size (.slice a2 y.ds.length c2) y.ds ∧ OEv w3 V.heap.size ev 0 y.cd ∧ DRow w3 w2.heap.size (.slice a3 z.ds.length c3) z.ds ∧ PlR w K b kb r v L sq tr ms rs (fun _ => False) w3) := ⟨hw3, hd3, he3, H3.out.1, hp⟩
  clear hp hw3 o3 hd3 he3 hVs H2 H3
  go_upto_region 28 with (go_at_call 25; refine hde.mono ?_; rintro _ w4 ⟨rfl, H5⟩)
  have hlt : ∀ q, HFt hb f q → q < w.heap.size := fun q hq => by
    rcases hq with e | ⟨j, hj, e⟩
    · subst e; exact HH.out.2.1.lt
    · obtain ⟨xs, _, hr⟩ := HH.out.2.1.row j hj
      exact (ERow.lt hr e).2
  obtain ⟨f5, _, _, o5⟩ := H5.out
  have hVs := HH.out.2.2.2.size
  have d4 : DRow w4 V.heap.size (.slice a2 y.ds.length c2) y.ds := ERow.off H4.out.2.1 o5 fun q hq => drow_ne H4.out.1 H4.out.2.1 hq
  have d5 : DRow w4 w2.heap.size (.slice a3 z.ds.length c3) y.ds := by
    rw [HY.out.1.ds]
    exact ERow.off H4.out.2.2.2.1 o5 fun q hq => drow_ne H4.out.1 H4.out.2.2.2.1 hq
  have e5 : OEv w4 V.heap.size ev 0 z.cd := by
    rw [← HY.out.1.cd]
    exact H4.out.2.2.1.off o5 fun q h1 _ h3 => by have := hlt q h3; omega
  have hsd := sameDeeds_any d4 d5
  have hrf := fun m => refused_any ((e5.below (below_drewN (Below.refl _ _) m)).err)
  have HE : Hid (∀ m, PlH w K b kb r B hb (n + 2) v L f sq tr ms rs (w4.drewN m)) := fun m => PlH.of HH.out.1 HH.out.2.1 H4.out.2.2.2.2 fun f1 _ e => by
    subst e
    obtain ⟨f6, g1, g2, g3⟩ := H5.out
    exact ⟨f6, g1.below (below_drewN (Below.refl _ _) m), g2, g3.trans (Off.of_below (below_drewN (Below.refl _ _) m))⟩
  clear hlt o5 hVs d4 d5 e5 hde H4 H5
  go_wp2_with (first | (go_at_call 26; refine hsd.mono ?_; rintro _ w6 ⟨rfl, m6, rfl⟩) | (go_at_call 13; refine (hrf _).mono ?_; rintro _ w9 ⟨rfl, h9⟩; subst w9))
  go_ret
  exact ⟨rfl, HE.out _⟩
end
end Go.Proofs.YtoijhecphgdfnaaGreatDoor

/-
  Book.Take on Held's book: a text kept, and a copy.
-/
namespace Go.Proofs.YtoijhecphgdfnaaGreatDoor
open Go.RowKit

section
variable {w : World} {B hb n : Nat} {f : Nat → Value}
set_option maxRecDepth 100000 in
set_option maxHeartbeats 8000000 in
theorem htake_any {m c : Nat} {a : Option Addr} {bs : List Int} (h : HW w B hb n f) (hd : Byts w a m bs) (hn : n + 2 ≤ 1000000000) (hl : m ≤ 140737488355328) :
    Calls Tryz.prog 20 #[.pointer (some ⟨hb, 4, none⟩), .slice a m c] w fun e w' => e = .returned (.tuple #[]) ∧ Hid (HWQ w B hb (n + 2) f w') := by
  obtain ⟨w1, hmk, hR, hB1⟩ := run_make_bytes (w := w) m hl
  have HR : Hid (BRow w1 w.heap.size (.slice (some ⟨w.heap.size, 0, none⟩) m m) (List.replicate m 0) ∧ Below w.heap.size w w1) := ⟨hR, hB1⟩
  have HH : Hid (HW w B hb n f ∧ Byts w a m bs ∧ n + 2 ≤ 1000000000 ∧ bs.length = m) := ⟨h, hd, hn, hd.len⟩
  clear hR hB1 h hd hn
  go_enter Tryz.func20, Tryz.ntmps20
  go_wp2_with fail
  clear hmk
  go_loopw [5] (fun ti wx => ∃ i : Nat, i ≤ m ∧ ti = .int .i64 i ∧ Hid ((∃ ys, BRow wx w.heap.size (.slice (some ⟨w.heap.size, 0, none⟩) m m) ys) ∧ Below w.heap.size w wx)) (fun ti _ => m - (intOf ti).toNat)
  case atStart => exact ⟨0, Nat.zero_le _, rfl, ⟨_, HR.out.1⟩, HR.out.2⟩
  case round =>
    obtain ⟨i, hi, rfl, HI⟩ := hrel
    clear HR
    obtain ⟨ys, hy⟩ := HI.out.1
    have hyl := ERow.len hy
    by_cases hlt : i < m
    · have hlt1 : (i : Int) < m := by omega
      obtain ⟨b, o, rfl, _, hcell⟩ := (HH.out.2.1.below HI.out.2).cell i (by have := HH.out.2.2.2; omega)
      have k1 : wr.cell? ⟨w.heap.size, i, none⟩ = some (.int .u8 (ys.getD i 0)) := hy.slot (by omega)
      have k2 := hy.thaw i
      have HJ : Hid (∀ z : Int, (∃ ys, BRow (wr.setCell ⟨w.heap.size, i, none⟩ (.int .u8 z)) w.heap.size (.slice (some ⟨w.heap.size, 0, none⟩) m m) ys) ∧ Below w.heap.size w (wr.setCell ⟨w.heap.size, i, none⟩ (.int .u8 z))) := fun z => ⟨⟨_, hy.stored i z (by omega)⟩, HI.out.2.setCell (Nat.le_refl _) _⟩
      clear hy HI
      go_wp2_with fail
      go_roundw
      case rel => exact ⟨i + 1, hlt, by go_num, HJ.out _⟩
      case measure => simp [intOf]; omega
    · have hlt1 : ¬ (i : Int) < m := by omega
      have hwr := HH.out.1.below HI.out.2
      obtain ⟨a0, n0, c0, w2, k1, k2, k3, k4⟩ := hwr.push (q := 4) (by decide) (a, m, c) (by have := HH.out.2.2.1; omega)
      have k1' : (Builtin.append_ #[35, 35] 35 #[f 4, .slice (some ⟨wr.heap.size, 0, none⟩) 1 1]).run Tryz.prog (wr.alloc (.cells #[.slice a m c] 43)) = .ok (.slice a0 n0 c0) w2 := k1
      have p0 : wr.cell? ⟨hb, 4, none⟩ = some (f 4) := hcell hwr.blk 4
      have p1 : (wr.alloc (.cells #[.slice a m c] 43)).cell? ⟨hb, 4, none⟩ = some (f 4) := (((Below.refl _ _).alloc (Nat.le_refl _) _).cell (p := ⟨hb, 4, none⟩) hwr.lt).trans p0
      have HP : Hid (HWQ wr B hb (n + 1) f (w2.setCell ⟨hb, 4, none⟩ (.slice a0 n0 c0))) := HWQ.put (by decide) k4.out.1 k4.out.2.1 k4.out.2.2
      have HB2 : Hid (Below w.heap.size w wr) := HI.out.2
      clear hy hyl HI hwr k1 k4
      go_upto_region 5 with fail
      go_upto_region 6 with (at_builtin; refine wpList_append_run rfl (.tmp 26) (.tmp 28) 35 _ rfl k1' ?_)
      obtain ⟨W3, hW3⟩ : ∃ W3, w2.setCell ⟨hb, 4, none⟩ (.slice a0 n0 c0) = W3 := ⟨_, rfl⟩
      rw [hW3] at HP ⊢
      clear k1' k2 k3 p0 p1 hW3
      obtain ⟨f3, hw3, hft3, o3⟩ := HP.out
      obtain ⟨a5, n5, c5, w5, j1, j2, j3, j4⟩ := hw3.push (q := 5) (by decide) (some ⟨w.heap.size, 0, none⟩, m, m) (by have := HH.out.2.2.1; omega)
      have j1' : (Builtin.append_ #[35, 35] 35 #[f3 5, .slice (some ⟨W3.heap.size, 0, none⟩) 1 1]).run Tryz.prog (W3.alloc (.cells #[.slice (some ⟨w.heap.size, 0, none⟩) m m] 43)) = .ok (.slice a5 n5 c5) w5 := j1
      have p0 : W3.cell? ⟨hb, 5, none⟩ = some (f3 5) := hcell hw3.blk 5
      have p1 : (W3.alloc (.cells #[.slice (some ⟨w.heap.size, 0, none⟩) m m] 43)).cell? ⟨hb, 5, none⟩ = some (f3 5) := (((Below.refl _ _).alloc (Nat.le_refl _) _).cell (p := ⟨hb, 5, none⟩) hw3.lt).trans p0
      have HE : Hid (HWQ w B hb (n + 2) f (w5.setCell ⟨hb, 5, none⟩ (.slice a5 n5 c5))) := by
        refine HWQ.trans (w1 := wr) (f1 := f) (fun k hk => Or.inl hk) (Off.of_below HB2.out) (HWQ.trans (f1 := f3) hft3 o3 ?_)
        exact HWQ.put (q := 5) (by decide) j4.out.1 j4.out.2.1 j4.out.2.2
      clear HP hft3 o3 hw3 j1 j4
      go_wp2_with (at_builtin; refine wpList_append_run rfl (.tmp 36) (.tmp 38) 35 _ rfl j1' ?_)
      go_end0
      exact ⟨rfl, HE⟩
end
end Go.Proofs.YtoijhecphgdfnaaGreatDoor

/-
  Held.sents.
-/
namespace Go.Proofs.YtoijhecphgdfnaaGreatDoor
open Go.RowKit

/-- Messages copied behind an empty list. -/
theorem run_scopy {w W : World} {B m c : Nat} {a : Option Addr} {ds : List Msg} (h : ERow w B 91 10 encM (.slice a m c) ds) (hl : ds.length ≤ 1000000000) (hW : W = (w.alloc (.cells #[] 91)) ∨ W = (w.alloc (.cells #[] 91)).drew) :
    ∃ a' c' W', (Builtin.append_ #[97, 97] 97 #[.slice (some ⟨w.heap.size, 0, none⟩) 0 0, .slice a m c]).run Tryz.prog W = .ok (.slice a' m c') W' ∧ Hid (ERow W' w.heap.size 91 10 encM (.slice a' m c') ds ∧ Below w.heap.size w W') := by
  have b1 : Below w.heap.size w W := by
    rcases hW with rfl | rfl
    · exact (Below.refl _ _).alloc (Nat.le_refl _) _
    · exact ((Below.refl _ _).alloc (Nat.le_refl _) _).drew
  have hg : W.heap[w.heap.size]? = some (.cells #[] 91 (0, 0)) := by
    rcases hW with rfl | rfl
    · exact heap_alloc_new _ _
    · exact heap_alloc_new _ _
  have h0 : ERow W w.heap.size 91 10 encM (.slice (some ⟨w.heap.size, 0, none⟩) 0 0) [] := ⟨rfl, Or.inr ⟨w.heap.size, 0, #[], rfl, Nat.le_refl _, hg, Nat.le_refl _, Nat.zero_le _, rfl, rfl⟩⟩
  have hm : m = ds.length := ERow.len h
  have hc := ERow.below h b1
  obtain ⟨a', c', W', h1, r1, o1, _⟩ := run_eapp (P := Tryz.prog) (t := 97) (c := c) Tryz.underlying97 celS encM_len encM_one h0 (ys := ds) (n := m) (a := a) hm (fun e => by
    rcases ERow.form h with ⟨_, e2⟩ | ⟨g, cap, e2, _⟩
    · rw [hm, e2]; rfl
    · rw [e] at e2; cases e2) (fun a' ea j u hu => by
    rcases ERow.form hc with ⟨e1, e2⟩ | ⟨g, cap, e1, hgl, hcells, _⟩
    · rw [e2] at hu; simp at hu
    · obtain ⟨e3, _, _⟩ : a = some ⟨g, 0, none⟩ ∧ m = ds.length ∧ c = cap := by simpa using e1
      subst e3
      simp only [Option.some.injEq] at ea
      subst ea
      exact World.ownsRow.cells hc (g := g) rfl j u hu) (by simp; exact hl) (by decide) b1.size
  rw [List.length_nil, Nat.zero_add, ← hm] at h1 r1
  exact ⟨a', c', W', h1, r1, b1.trans (o1.below b1.size fun q hq => by simp [Value.ownBlock] at hq; omega)⟩
section
variable {w : World} {B hb n : Nat} {f : Nat → Value}
theorem held_ne (hw : HW w B hb n f) {q : Nat} {cs : Array Value} {t : TypeId} (hc : w.heap[q]? = some (.cells cs t (0, 0))) (t1 : t ≠ 41) (t2 : t ≠ 77) (t3 : t ≠ 97) (t4 : t ≠ 43) : ¬ HFt hb f q := fun h2 => by
  rcases h2 with e | ⟨j, hj, e⟩
  · rw [e, hw.blk] at hc
    simp only [Option.some.injEq, Obj.cells.injEq] at hc
    exact t1 hc.2.1.symm
  · obtain ⟨xs, _, hr⟩ := hw.row j hj
    obtain ⟨cs', hc'⟩ := row_type hr e
    rw [hc] at hc'
    simp only [Option.some.injEq, Obj.cells.injEq] at hc'
    have e2 := hc'.2.1
    unfold hty at e2
    split at e2
    · exact t2 e2
    split at e2
    · exact t3 e2
    · exact t4 e2
set_option maxRecDepth 100000 in
set_option maxHeartbeats 8000000 in
theorem sents_any {C m c : Nat} {a : Option Addr} {ds : List Msg} (h : HW w B hb n f) (hd : ERow w C 91 10 encM (.slice a m c) ds) (hn : n + 2 ≤ 1000000000) (hl : ds.length ≤ 1000000000) (hb2 : n + 2 + 2 * m ≤ 1000000000) (ht : ∀ x ∈ ds, BRow w 0 (.slice x.tp x.tn x.tc) x.tx ∧ x.tn ≤ 8192) :
    Calls Tryz.prog 36 #[.pointer (some ⟨hb, 0, none⟩), .slice a m c] w fun e w' => e = .returned (.tuple #[]) ∧ Hid (HWQ w B hb (n + 2 + 2 * m) f w') := by
  have hC : ∀ q, (Value.slice a m c).ownBlock = some q → ¬ HFt hb f q := fun q hq => by
    obtain ⟨cs, hc⟩ := msrow_type hd hq
    exact held_ne h hc (by decide) (by decide) (by decide) (by decide)
  have HT : Hid ((∀ x ∈ ds, BRow w 0 (.slice x.tp x.tn x.tc) x.tx ∧ x.tn ≤ 8192) ∧ HW w B hb n f ∧ n + 2 + 2 * m ≤ 1000000000 ∧ ds.length = m) := ⟨ht, h, hb2, (ERow.len hd).symm⟩
  obtain ⟨a0, n0, c0, w0, k1, k2, k3, k4⟩ := h.push (q := 2) (by decide) (a, m, c) (by omega)
  have k1' : (Builtin.append_ #[34, 34] 34 #[f 2, .slice (some ⟨w.heap.size, 0, none⟩) 1 1]).run Tryz.prog (w.alloc (.cells #[.slice a m c] 97)) = .ok (.slice a0 n0 c0) w0 := k1
  have p0 : w.cell? ⟨hb, 2, none⟩ = some (f 2) := hcell h.blk 2
  have HP1 : Hid (HWQ w B hb (n + 1) f (w0.setCell ⟨hb, 2, none⟩ (.slice a0 n0 c0))) := HWQ.put (by decide) k4.out.1 k4.out.2.1 k4.out.2.2
  have HD : Hid (ERow w C 91 10 encM (.slice a m c) ds ∧ ds.length ≤ 1000000000 ∧ n + 2 ≤ 1000000000 ∧ ∀ q, (Value.slice a m c).ownBlock = some q → ¬ HFt hb f q) := ⟨hd, hl, hn, hC⟩
  clear k1 k4 h hd hl hn hC hb2 ht
  go_enter Tryz.func36, Tryz.ntmps36
  go_upto_region 0 with fail
  go_wp2_with (at_builtin; refine wpList_append_run rfl (.tmp 9) (.tmp 11) 34 _ rfl k1' ?_)
  obtain ⟨W1, hW1⟩ : ∃ W1, w0.setCell ⟨hb, 2, none⟩ (.slice a0 n0 c0) = W1 := ⟨_, rfl⟩
  rw [hW1] at HP1 ⊢
  clear k1' k2 k3 p0 hW1
  obtain ⟨f1, hw1, hft1, o1⟩ := HP1.out
  have hd1 : ERow W1 C 91 10 encM (.slice a m c) ds := ERow.off HD.out.1 o1 fun q hq => HD.out.2.2.2 q hq
  obtain ⟨a2, c2, w2, hcp, HC2⟩ := run_scopy hd1 HD.out.2.1 (W := (W1.alloc (.cells #[] 91)).drew) (Or.inr rfl)
  have hw2 := hw1.below HC2.out.2
  obtain ⟨a3, n3, c3, w3, j1, j2, j3, j4⟩ := hw2.push (q := 3) (by decide) (a2, m, c2) (by have := HD.out.2.2.1; omega)
  have hap : (Builtin.append_ #[34, 34] 34 #[f1 3, .slice (some ⟨w2.heap.size, 0, none⟩) 1 1]).run Tryz.prog (w2.alloc (.cells #[.slice a2 m c2] 97)) = .ok (.slice a3 n3 c3) w3 := j1
  have p1 : W1.cell? ⟨hb, 3, none⟩ = some (f1 3) := hcell hw1.blk 3
  have p2 : (W1.alloc (.cells #[] 91)).cell? ⟨hb, 3, none⟩ = some (f1 3) := (((Below.refl _ _).alloc (Nat.le_refl _) _).cell (p := ⟨hb, 3, none⟩) hw1.lt).trans p1
  have p3 : w2.cell? ⟨hb, 3, none⟩ = some (f1 3) := hcell hw2.blk 3
  have p4 : (w2.alloc (.cells #[.slice a2 m c2] 97)).cell? ⟨hb, 3, none⟩ = some (f1 3) := (((Below.refl _ _).alloc (Nat.le_refl _) _).cell (p := ⟨hb, 3, none⟩) hw2.lt).trans p3
  have HE : Hid (HWQ w B hb (n + 2) f (w3.setCell ⟨hb, 3, none⟩ (.slice a3 n3 c3))) := by
    refine HWQ.trans (f1 := f1) hft1 o1 ?_
    have q1 := HWQ.put (q := 3) (by decide) j4.out.1 j4.out.2.1 j4.out.2.2
    exact HWQ.trans (w := W1) (f := f1) (f1 := f1) (w1 := w2) (fun k hk => Or.inl hk) (Off.of_below HC2.out.2) q1
  clear hw1 hft1 o1 hd1 hw2 j1 j4 HP1 HC2
  go_cut [] from 15 to 26 (fun wx => wx = w3.setCell ⟨hb, 3, none⟩ (.slice a3 n3 c3))
  case first =>
    go_region_law (first | (refine step_app_run rfl (.tmp 20) (.tmp 21) 97 rfl rfl rfl hcp ?_) | (refine step_app_run rfl (.tmp 19) (.tmp 23) 34 rfl rfl rfl hap ?_))
    all_goals
      go_wp2_with fail
      go_meet
      rfl
  case rest =>
  have hw := hcut
  rw [hw]
  clear hw hcut hcp hap p1 p2 p3 p4 j2 j3
  obtain ⟨W4, hW4⟩ : ∃ W4, w3.setCell ⟨hb, 3, none⟩ (.slice a3 n3 c3) = W4 := ⟨_, rfl⟩
  rw [hW4] at HE ⊢
  clear hW4
  have hml : (m : Int) ≤ 1000000000 := by have := HD.out.2.1; have := HT.out.2.2.2; omega
  go_upto_region 3 with fail
  go_loopw [4] (fun t wx => ∃ i : Nat, i ≤ m ∧ t = .int .i64 i ∧ Hid (HWQ w B hb (n + 2 + 2 * i) f wx)) (fun t _ => m - (intOf t).toNat)
  case atStart => exact ⟨0, Nat.zero_le _, rfl, HE⟩
  case round =>
    obtain ⟨i, hi, rfl, HI⟩ := hrel
    clear HE
    obtain ⟨f4, hw4, hft4, o4⟩ := HI.out
    by_cases hlt : i < m
    · have hlt1 : (i : Int) < m := by omega
      obtain ⟨x, hx⟩ : ∃ x, ds[i]? = some x := ⟨_, List.getElem?_eq_getElem (by have := HT.out.2.2.2; omega)⟩
      have hr4 : ERow wr C 91 10 encM (.slice a m c) ds := ERow.off HD.out.1 o4 fun q hq => by
        obtain ⟨cs, hc⟩ := msrow_type HD.out.1 hq
        exact held_ne HT.out.2.1 hc (by decide) (by decide) (by decide) (by decide)
      obtain ⟨g, rfl, hg, hc⟩ := erow_cells hr4 hx
      have d1 := hc.c1
      have hxt := HT.out.1 x (List.mem_of_getElem? hx)
      have hb4 : BRow wr 0 (.slice x.tp x.tn x.tc) x.tx := ERow.off hxt.1 o4 fun q hq => by
        obtain ⟨cs, hc⟩ := brow_type hxt.1 hq
        exact held_ne HT.out.2.1 hc (by decide) (by decide) (by decide) (by decide)
      have htk := fun z (hz : Below wr.heap.size wr z) => htake_any (c := x.tc) (hw4.below hz) (hb4.byts.below hz) (by have := HT.out.2.2.1; omega) (by have := hxt.2; omega)
      have HJ : Hid (∀ z, Below wr.heap.size wr z → Calls Tryz.prog 20 #[.pointer (some ⟨hb, 4, none⟩), .slice x.tp x.tn x.tc] z fun e w' => e = .returned (.tuple #[]) ∧ Hid (HWQ w B hb (n + 2 + 2 * (i + 1)) f w')) := fun z hz => (htk z hz).mono fun e w' ⟨e1, h1⟩ => ⟨e1, by
        obtain ⟨f6, g1, g2, g3⟩ := HWQ.trans (w := w) (f := f) (f1 := f4) (w1 := wr) hft4 o4 (HWQ.trans (w := wr) (f := f4) (f1 := f4) (w1 := z) (fun k hk => Or.inl hk) (Off.of_below hz) h1.out)
        exact ⟨f6, g1.more (by omega), g2, g3⟩⟩
      clear htk hb4 hxt hx hc hr4 hw4 hft4 o4
      go_upto_region 5 with fail
      go_region_law (go_simp; go_at_call 20; refine (HJ.out _ (Below.drew (Below.refl _ _))).mono ?_; rintro _ w6 ⟨rfl, H6⟩; go_wp2_with fail)
      all_goals
        go_wp2_with fail
        go_roundw
        case rel => exact ⟨i + 1, hlt, by go_num, H6⟩
        case measure => simp [intOf]; omega
    · have hlt1 : ¬ (i : Int) < m := by omega
      obtain rfl : i = m := by omega
      clear hw4 hft4 o4
      go_wp2_with fail
      go_end0
      exact ⟨rfl, HI⟩
end
end Go.Proofs.YtoijhecphgdfnaaGreatDoor

/-
  The law's all: the looks ahead of Held.
-/
namespace Go.Proofs.YtoijhecphgdfnaaGreatDoor
open Go.RowKit

section
variable {w w' : World} {K b kb r B hb n : Nat} {v L : Value} {f : Nat → Value} {sq : Bool} {tr : Int} {ms rs ls : List Msg}
theorem cpf_tx {C : Nat} (h : CpF w C ls ms) (hm : ∀ m ∈ ms, m.tn ≤ 8192) : ∀ x ∈ ls, BRow w 0 (.slice x.tp x.tn x.tc) x.tx ∧ x.tn ≤ 8192 := fun x hx => by
  refine ⟨ERow.base (h.own x hx) (Nat.zero_le _), ?_⟩
  obtain ⟨i, hi, e⟩ := List.getElem_of_mem hx
  obtain ⟨y, a, c, hy, e2⟩ := h.wis.at_ (show ls[i]? = some x by rw [List.getElem?_eq_getElem hi, e])
  rw [e2]
  exact hm y (List.mem_of_getElem? hy)
/-- A list of copies behind what Held does. -/
theorem sent_held {w1 : World} {C : Nat} {u : Value} (hw : HW w B hb n f) (o : Off (HFt hb f) w w1) (h : ERow w C 91 10 encM u ls) : ERow w1 C 91 10 encM u ls := ERow.off h o fun q hq => by
  obtain ⟨cs, hc⟩ := msrow_type h hq
  exact held_ne hw hc (by decide) (by decide) (by decide) (by decide)
theorem cpf_held {w1 : World} {C : Nat} (hw : HW w B hb n f) (o : Off (HFt hb f) w w1) (h : CpF w C ls ms) : CpF w1 C ls ms := h.off o fun l hl q hq => by
  obtain ⟨cs, hc⟩ := brow_type (h.own l hl) hq
  exact held_ne hw hc (by decide) (by decide) (by decide) (by decide)
end
end Go.Proofs.YtoijhecphgdfnaaGreatDoor

/-
  The law's all: walked.
-/
namespace Go.Proofs.YtoijhecphgdfnaaGreatDoor
open Go.RowKit

section
variable {w w' : World} {K b kb r B hb n : Nat} {v L : Value} {f : Nat → Value} {sq : Bool} {tr : Int} {ms rs ls : List Msg}
set_option maxRecDepth 100000 in
set_option maxHeartbeats 8000000 in
theorem all_any (h : Pr w K b kb r v L sq tr ms rs) (hw : HW w B hb n f) (hn : n + 200 ≤ 1000000000) :
    Calls Tryz.prog 8 #[.agg #[.pointer (some ⟨b, 0, none⟩), .pointer (some ⟨r, 0, none⟩)], .pointer (some ⟨hb, 0, none⟩)] w fun e w' => e = .returned (.bool true) ∧ Hid (PlH w K b kb r B hb (n + 200) v L f sq tr ms rs w') := by
  have bv : Below w.heap.size w (w.alloc (.cells #[.pointer (some ⟨b, 0, none⟩), .pointer (some ⟨r, 0, none⟩)] 29)) := (Below.refl _ _).alloc (Nat.le_refl _) _
  have bx := Box.new w #[.pointer (some ⟨b, 0, none⟩), .pointer (some ⟨r, 0, none⟩)] 29
  obtain ⟨V, hVV⟩ : ∃ V, (w.alloc (.cells #[.pointer (some ⟨b, 0, none⟩), .pointer (some ⟨r, 0, none⟩)] 29)) = V := ⟨_, rfl⟩
  rw [hVV] at bv bx
  have HH : Hid (Pr w K b kb r v L sq tr ms rs ∧ HW w B hb n f ∧ n + 200 ≤ 1000000000 ∧ Below w.heap.size w V ∧ Box V w.heap.size #[.pointer (some ⟨b, 0, none⟩), .pointer (some ⟨r, 0, none⟩)]) := ⟨h, hw, hn, bv, bx⟩
  have hl := list_s (h.below bv).pb.bx
  have c0 : V.cell? ⟨w.heap.size, 0, none⟩ = some (.pointer (some ⟨b, 0, none⟩)) := bx.cell 0
  clear h hw hn bv bx
  go_enter Tryz.func8, Tryz.ntmps8
  go_upto_region 2 with (go_at_call 34; refine hl.mono ?_; rintro _ w1 ⟨l1, a1, c1, rfl, g1, g2, g3⟩)
  have hl2 := list_s ((HH.out.1.below (below_then HH.out.2.2.2.1 g3))).pb.bx
  have c0 : w1.cell? ⟨w.heap.size, 0, none⟩ = some (.pointer (some ⟨b, 0, none⟩)) := (HH.out.2.2.2.2.below g3).cell 0
  have H1 : Hid (ERow w1 V.heap.size 91 10 encM (.slice a1 ms.length c1) l1 ∧ CpF w1 V.heap.size l1 ms ∧ Below V.heap.size V w1) := ⟨g1, g2, g3⟩
  clear hl g1 g2 g3 hVV
  go_upto_region 3 with (go_at_call 34; refine hl2.mono ?_; rintro _ w2 ⟨l2, a2, c2, rfl, g1, g2, g3⟩)
  have H2 : Hid (ERow w2 w1.heap.size 91 10 encM (.slice a2 ms.length c2) l2 ∧ CpF w2 w1.heap.size l2 ms ∧ Below w1.heap.size w1 w2) := ⟨g1, g2, g3⟩
  have hBV2 := below_then H1.out.2.2 g3
  have hP2 := HH.out.1.below (below_then HH.out.2.2.2.1 hBV2)
  have hra := rAll_any hP2.pb.rb
  have z1 : w2.cell? ⟨w.heap.size, 1, none⟩ = some (.pointer (some ⟨r, 0, none⟩)) := (HH.out.2.2.2.2.below hBV2).cell 1
  clear hl2 g1 g2 g3 c0 hBV2 hP2
  go_upto_region 4 with (go_at_call 35; refine hra.mono ?_; rintro _ w3 ⟨l3, a3, c3, rfl, g1, g2, g3⟩)
  have H3 : Hid (ERow w3 w2.heap.size 91 10 encM (.slice a3 rs.length c3) l3 ∧ CpF w3 w2.heap.size l3 rs ∧ Below w2.heap.size w2 w3) := ⟨g1, g2, g3⟩
  have h32 : ms.length ≤ 32 := HH.out.1.pb.bx.2.1.2.2
  have htn : ∀ m ∈ ms, m.tn ≤ 8192 := fun m hm => (HH.out.1.pb.bx.2.2 m hm).2
  have hB3 := below_then H2.out.2.2 g3
  have hBW3 := below_then HH.out.2.2.2.1 (below_then H1.out.2.2 hB3)
  have hl1 : l1.length = ms.length := H1.out.2.1.wis.1
  have hl2 : l2.length = ms.length := H2.out.2.1.wis.1
  have hs1 := sents_any (HH.out.2.1.below hBW3) (ERow.below H1.out.1 hB3) (by have := HH.out.2.2.1; omega) (by omega) (by have := HH.out.2.2.1; omega) (cpf_tx (H1.out.2.1.below hB3) htn)
  clear hra z1 g1 g2 g3
  go_upto_region 5 with (go_at_call 36; refine hs1.mono ?_; rintro _ w4 ⟨rfl, H4⟩)
  obtain ⟨f4, hw4, hft4, o4⟩ := H4.out
  have hs2 := sents_any hw4 (sent_held (HH.out.2.1.below hBW3) o4 (ERow.below H2.out.1 H3.out.2.2)) (by have := HH.out.2.2.1; omega) (by omega) (by have := HH.out.2.2.1; omega) (cpf_tx (cpf_held (HH.out.2.1.below hBW3) o4 (H2.out.2.1.below H3.out.2.2)) htn)
  clear hs1
  go_upto_region 6 with (go_at_call 36; refine hs2.mono ?_; rintro _ w5 ⟨rfl, H5⟩)
  obtain ⟨f5, hw5, hft5, o5⟩ := H5.out
  have hw3 := HH.out.2.1.below hBW3
  have hP5 : Pb w5 K b kb r v L sq tr ms rs := ((HH.out.1.pb.below hBW3).off o4 fun q hq => hft_ne (HH.out.1.pb.below hBW3) hw3 hq).off o5 fun q hq => hft_ne ((HH.out.1.pb.below hBW3).off o4 fun q hq => hft_ne (HH.out.1.pb.below hBW3) hw3 hq) hw4 hq
  have rl : rs.length = ms.length := HH.out.1.wis.1.symm
  have r1 := sent_held hw4 o5 (sent_held hw3 o4 (ERow.below H1.out.1 hB3))
  have p1 := cpf_held hw4 o5 (cpf_held hw3 o4 (H1.out.2.1.below hB3))
  have r2 := sent_held hw4 o5 (sent_held hw3 o4 (ERow.below H2.out.1 H3.out.2.2))
  have p2 := cpf_held hw4 o5 (cpf_held hw3 o4 (H2.out.2.1.below H3.out.2.2))
  have r3 := sent_held hw4 o5 (sent_held hw3 o4 H3.out.1)
  have p3 := cpf_held hw4 o5 (cpf_held hw3 o4 H3.out.2.1)
  have p3' : CpF w5 w2.heap.size l3 ms := ⟨p3.wis.trans HH.out.1.wis.swap, p3.own, p3.sep⟩
  rw [rl] at r3 ⊢
  have HS1 : Hid (∀ z, Below w5.heap.size w5 z → Calls Tryz.prog 37 #[.slice a1 ms.length c1, .slice a3 ms.length c3] z fun e w' => e = .returned (.bool true) ∧ Hid (Below w5.heap.size w5 w')) := fun z hz => (sameList_true (ERow.below r1 hz) (ERow.below r3 hz) (p1.below hz).cps (p3'.below hz).cps htn).mono fun e w' ⟨e1, h1⟩ => ⟨e1, below_then hz h1⟩
  have HS2 : Hid (∀ z, Below w5.heap.size w5 z → Calls Tryz.prog 37 #[.slice a2 ms.length c2, .slice a3 ms.length c3] z fun e w' => e = .returned (.bool true) ∧ Hid (Below w5.heap.size w5 w')) := fun z hz => (sameList_true (ERow.below r2 hz) (ERow.below r3 hz) (p2.below hz).cps (p3'.below hz).cps htn).mono fun e w' ⟨e1, h1⟩ => ⟨e1, below_then hz h1⟩
  have HL1 : Hid (∀ z, Below w5.heap.size w5 z → Calls Tryz.prog 38 #[.pointer (some ⟨b, 0, none⟩)] z fun e w' => e = .returned (.int .i64 (ms.length : Int)) ∧ Hid (Below w5.heap.size w5 w')) := fun z hz => (len_any (hP5.below hz).bx).mono fun e w' ⟨e1, h1⟩ => ⟨e1, by rw [h1]; exact hz⟩
  have HL2 : Hid (∀ z, Below w5.heap.size w5 z → Calls Tryz.prog 39 #[.pointer (some ⟨r, 0, none⟩)] z fun e w' => e = .returned (.int .i64 (ms.length : Int)) ∧ Hid (Below w5.heap.size w5 w')) := fun z hz => (rlen_any (hP5.below hz).rb).mono fun e w' ⟨e1, h1⟩ => ⟨by rw [← rl]; exact e1, by rw [h1]; exact hz⟩
  have hlt : ∀ q, HFt hb f q → q < w.heap.size := fun q hq => by
    rcases hq with e | ⟨j, hj, e⟩
    · subst e; exact HH.out.2.1.lt
    · obtain ⟨xs, _, hr⟩ := HH.out.2.1.row j hj
      exact (ERow.lt hr e).2
  have hx3 := HH.out.2.2.2.2.below (below_then H1.out.2.2 hB3)
  have hq : ∀ q, w5.cell? ⟨w.heap.size, q, none⟩ = w3.cell? ⟨w.heap.size, q, none⟩ := fun q => (o5.cell (p := ⟨w.heap.size, q, none⟩) (Nat.lt_of_lt_of_le hx3.lt o4.size) fun h1 => by
    rcases hft4 w.heap.size h1 with g | g
    · have := hlt _ g; omega
    · have := hx3.lt; omega).trans (o4.cell (p := ⟨w.heap.size, q, none⟩) hx3.lt fun h1 => by have := hlt w.heap.size h1; omega)
  have d0 : w5.cell? ⟨w.heap.size, 0, none⟩ = some (.pointer (some ⟨b, 0, none⟩)) := (hq 0).trans (hx3.cell 0)
  have d1 : w5.cell? ⟨w.heap.size, 1, none⟩ = some (.pointer (some ⟨r, 0, none⟩)) := (hq 1).trans (hx3.cell 1)
  have hxl : w.heap.size < w5.heap.size := Nat.lt_of_lt_of_le (Nat.lt_of_lt_of_le hx3.lt o4.size) o5.size
  have gc : ∀ {z : World}, Below w5.heap.size w5 z → z.cell? ⟨w.heap.size, 0, none⟩ = some (.pointer (some ⟨b, 0, none⟩)) ∧ z.cell? ⟨w.heap.size, 1, none⟩ = some (.pointer (some ⟨r, 0, none⟩)) := fun {z} hz => ⟨(hz.cell (p := ⟨w.heap.size, 0, none⟩) hxl).trans d0, (hz.cell (p := ⟨w.heap.size, 1, none⟩) hxl).trans d1⟩
  have HE : Hid (∀ z, Below w5.heap.size w5 z → PlH w K b kb r B hb (n + 200) v L f sq tr ms rs z) := fun z hz => by
    have k2 : ∀ q, HFt hb f5 q → HFt hb f q ∨ w.heap.size ≤ q := fun q h1 => by
      rcases hft5 q h1 with g | g
      · rcases hft4 q g with g2 | g2
        · exact Or.inl g2
        · exact Or.inr (Nat.le_trans hBW3.size g2)
      · exact Or.inr (Nat.le_trans hBW3.size (Nat.le_trans o4.size g))
    have o45 : Off (HFt hb f) w3 w5 := o4.join o5 fun k hl hk => by
      rcases hft4 k hk with g | g
      · exact g
      · omega
    exact ⟨v, L, ms, rs, f5, ⟨hP5.below hz, HH.out.1.wis, HH.out.1.ok⟩, (hw5.more (by omega)).below hz, fun q h1 => Or.inl h1, k2, ((Off.of_below hBW3).trans (o45.trans (Off.of_below hz))).mono fun q h1 => Or.inr h1⟩
  clear hq hlt hx3 H4 H5 H1 H2 H3 HH hw3 hw4 hw5 hft4 hft5 o4 o5 hP5 rl r1 r2 r3 p1 p2 p3 p3' h32 htn hB3 hBW3 hl1 hl2 hs2
  go_region_held3 (fun z => z.cell? ⟨w.heap.size, 0, none⟩ = some (.pointer (some ⟨b, 0, none⟩)) ∧ z.cell? ⟨w.heap.size, 1, none⟩ = some (.pointer (some ⟨r, 0, none⟩))) ((refine gc ?_; (repeat' (first | (with_reducible exact Below.refl _ _) | (with_reducible exact Hid.out (by assumption)) | (with_reducible refine Below.drew ?_))))) (first | (go_at_call 37; refine (HS1.out _ (Below.drew (Below.refl _ _))).mono ?_; clear HS1; rintro _ w6 ⟨rfl, HB6⟩) | (go_at_call 37; refine (HS2.out _ HB6.out).mono ?_; clear HS2; rintro _ w7 ⟨rfl, HB7⟩) | (go_at_call 38; refine (HL1.out _ HB7.out).mono ?_; rintro _ w8 ⟨rfl, HB8⟩) | (go_at_call 39; refine (HL2.out _ HB8.out).mono ?_; rintro _ w9 ⟨rfl, HB9⟩))
  all_goals
    go_wp2_with fail
    go_ret
    exact ⟨rfl, HE.out _ HB9.out⟩
end
end Go.Proofs.YtoijhecphgdfnaaGreatDoor
