/-
  The law's made, walked.
-/
import Derived.Test.YtoijhecphgdfnaaGreatDoorOrMd2
namespace Go.Proofs.YtoijhecphgdfnaaGreatDoor
open Go.RowKit

/-- What made answers. -/
def MadeQ (W : World) (sq : Bool) (tr : Int) (xs : List Msg) (e : Ending) (w' : World) : Prop := ∃ bv rv, e = .returned (.tuple #[.agg #[bv, rv], .bool true]) ∧ Hid (∃ K, W.heap.size ≤ K ∧ MRes K sq tr xs bv rv w' ∧ Below W.heap.size W w')
set_option maxRecDepth 100000 in
set_option maxHeartbeats 16000000 in
theorem made_any (ao : Option Addr) (cap : Nat) (xs : List Msg) (sq : Bool) (tr : Int) (W : World) (hV : PVc W) (ho : Outs W ao xs) (hp : ∀ x ∈ xs, Plain x) (hl : xs.length + 90 ≤ 1759218604480) (hw : ∀ x ∈ xs, x.tn + 90 ≤ 140737488355328) :
    Calls Tryz.prog 6 #[.agg #[.slice ao xs.length cap, .bool sq, .int .i64 tr]] W (MadeQ W sq tr xs) := by
  obtain ⟨n, hn⟩ : ∃ n, xs.length = n := ⟨_, rfl⟩
  have HN : Hid (xs.length = n) := hn
  rw [hn] at hl ⊢
  clear hn
  have HH : Hid (PVc W ∧ Outs W ao xs ∧ (∀ x ∈ xs, Plain x) ∧ n + 90 ≤ 1759218604480 ∧ ∀ x ∈ xs, x.tn + 90 ≤ 140737488355328) := ⟨hV, ho, hp, hl, hw⟩
  have bv : Below W.heap.size W ((W.alloc (.cells #[.slice ao n cap, .bool sq, .int .i64 tr] 24)).alloc (.cells #[.pointer none, .pointer none] 29)) := ((Below.refl _ _).alloc (Nat.le_refl _) _).alloc (by simp) _
  have bx := (Box.new W #[.slice ao n cap, .bool sq, .int .i64 tr] 24).alloc (.cells #[.pointer none, .pointer none] 29)
  have by_ := Box.new (W.alloc (.cells #[.slice ao n cap, .bool sq, .int .i64 tr] 24)) #[.pointer none, .pointer none] 29
  rw [World.size_alloc] at by_
  have hn1 : (n : Int) + 90 ≤ 1759218604480 := by omega
  clear hV ho hp hw
  obtain ⟨V, hVV⟩ : ∃ V, ((W.alloc (.cells #[.slice ao n cap, .bool sq, .int .i64 tr] 24)).alloc (.cells #[.pointer none, .pointer none] 29)) = V := ⟨_, rfl⟩
  have HZ : Hid (V.heap.size = W.heap.size + 1 + 1) := by unfold Hid; rw [← hVV]; simp
  rw [hVV] at bv bx by_
  obtain ⟨xb, hxb⟩ : ∃ xb, W.heap.size = xb := ⟨_, rfl⟩
  rw [hxb] at bx by_
  have HX : Hid (W.heap.size = xb ∧ Box V xb #[.slice ao n cap, .bool sq, .int .i64 tr] ∧ Box V (xb + 1) #[.pointer none, .pointer none]) := ⟨hxb, bx, by_⟩
  have HB : Hid (Below W.heap.size W V) := bv
  have cx : V.cell? ⟨xb, 0, none⟩ = some (.slice ao n cap) := bx.cell 0
  obtain ⟨w1, hmk, hR, hB1⟩ := run_make_outs (w := V) (n + 90) (by omega)
  have hmk2 : (Instr.makeSlice 22 (.int .i64 ((n : Int) + 90)) (.int .i64 ((n : Int) + 90))).run Tryz.prog V = .ok (.slice (some ⟨V.heap.size, 0, none⟩) (n + 90) (n + 90)) w1 := hmk
  have HI0 : Hid (MdI V V.heap.size n xs 0 w1) := ⟨⟨[], HdL.nil _ _, hR⟩, hB1⟩
  obtain ⟨G, hG⟩ : ∃ G, V.heap.size = G := ⟨_, rfl⟩
  have HG : Hid (V.heap.size = G) := hG
  rw [hG] at hmk2 HI0
  clear hmk hR hB1 bv bx by_
  go_enter Tryz.func6, Tryz.ntmps6
  go_wp2_with fail
  clear hmk2 hVV hG cx
  go_loopw [5] (fun t wx => ∃ i : Nat, i ≤ n ∧ t = .int .i64 i ∧ Hid (MdI V G n xs i wx)) (fun t _ => n - (intOf t).toNat)
  case atStart => exact ⟨0, Nat.zero_le _, rfl, HI0⟩
  case round =>
    obtain ⟨i, hi, rfl, HI⟩ := hrel
    clear HI0
    have cx : wr.cell? ⟨xb, 0, none⟩ = some (.slice ao n cap) := (HX.out.2.1.below HI.out.bel).cell 0
    by_cases hlt : i < n
    · have hlt1 : (i : Int) < n := by omega
      have hlt2 : (i : Int) < (n : Int) + 90 := by omega
      have hlt3 : i < n + 90 := by omega
      obtain ⟨x, hx⟩ : ∃ x, xs[i]? = some x := ⟨_, List.getElem?_eq_getElem (by rw [HN.out]; exact hlt)⟩
      obtain ⟨pb, off, rfl, hat⟩ := HH.out.2.1 i x hx
      have HBW : Hid (Below W.heap.size W wr) := below_then HB.out HI.out.bel
      have hatr := hat.below HBW.out
      obtain ⟨lp, f0, f1, f2, f3, f4, f5, f6, hby, _⟩ := hatr
      obtain ⟨gs, h1, h2⟩ := HI.out.ex
      have hil : (xs.take i).length = i := by rw [List.length_take, HN.out]; omega
      obtain ⟨z0, hz0⟩ : ∃ z0, (hdl (xs.take i) gs ++ List.replicate (n + 90 - i) zM)[i]? = some z0 := ⟨_, List.getElem?_eq_getElem (by rw [List.length_append, hdl_len h1, hil, List.length_replicate]; omega)⟩
      obtain ⟨g', eg, hgl, hgc⟩ := ERow.at_ encO_len7 h2 hz0
      obtain rfl : G = g' := by simpa using eg
      have e0 := hgc 0 (by decide)
      have e1 := hgc 1 (by decide)
      have e2 := hgc 2 (by decide)
      have e3 := hgc 3 (by decide)
      have e4 := hgc 4 (by decide)
      have e5 := hgc 5 (by decide)
      have e6 := hgc 6 (by decide)
      simp [encO] at e0 e1 e2 e3 e4 e5 e6
      have hfz := ERow.thaw h2
      obtain ⟨W1, hW1⟩ : ∃ W1, wr.setCells G (i * 7) (encO x) = W1 := ⟨_, rfl⟩
      have o1 : Off (fun q => q = G) wr W1 := by rw [← hW1]; exact Off.setCells (P := fun q => q = G) rfl _ _ _ (Off.refl _ _)
      have HXL : Hid (x.tn + 90 ≤ 140737488355328) := HH.out.2.2.2.2 x (List.mem_of_getElem? hx)
      have HE : Hid (∀ g w2, Mkd w2 W1.heap.size g x.tn x.tx → Below W1.heap.size W1 w2 → MdI V G n xs (i + 1) (w2.setCell ⟨G, i * 7 + 1, none⟩ (.slice (some ⟨g, 0, none⟩) x.tn (x.tn + 90)))) := fun g w2 k1 k2 => by
        rw [← hW1] at k1 k2
        exact HI.out.next (by rw [HG.out]; exact Nat.le_refl _) HN.out hx k1 k2
      have pbG : pb ≠ G := by have := hat.lt; have := HG.out; have := HB.out.size; omega
      have xbG : xb ≠ G := by have := HX.out.2.1.lt; have := HG.out; omega
      have r1 : ERow W1 G 58 7 encO (.slice (some ⟨G, 0, none⟩) (n + 90) (n + 90)) ((hdl (xs.take i) gs ++ List.replicate (n + 90 - i) zM).set i x) := by rw [← hW1]; exact erow_setG encO_len7 h2 x (i := i) (by rw [List.length_append, hdl_len h1, hil, List.length_replicate]; omega)
      have lxb : xb < wr.heap.size := cell_lt cx
      have hhd := hand_full (c := x.tc) W1 (hat.p.off ((Off.of_below (P := fun q => q = G) HBW.out).trans o1) fun b o e hl h => by have := HG.out; have := HB.out.size; omega) HXL.out
      have kx : ∀ q, W1.cell? ⟨xb, q, none⟩ = wr.cell? ⟨xb, q, none⟩ := fun q => o1.cell (p := ⟨xb, q, none⟩) lxb xbG
      have kx0 := (kx 0).trans cx
      have kf1 : W1.cell? ⟨pb, off + i * 7 + 1, none⟩ = some (.slice x.tp x.tn x.tc) := (o1.cell (p := ⟨pb, off + i * 7 + 1, none⟩) lp pbG).trans f1
      have r1c : ∀ w2, Below W1.heap.size W1 w2 → ∃ u, w2.cell? ⟨G, i * 7 + 1, none⟩ = some u ∧ w2.frozen? ⟨G, i * 7 + 1, none⟩ = false := fun w2 hb => by
        obtain ⟨g2, eg2, _, hc2⟩ := ERow.at_ encO_len7 (ERow.below r1 hb) (j := i) (List.getElem?_set_self (by rw [List.length_append, hdl_len h1, hil, List.length_replicate]; omega))
        obtain rfl : G = g2 := by simpa using eg2
        exact ⟨_, hc2 1 (by decide), ERow.thaw (ERow.below r1 hb) _⟩
      clear hx hat h1 h2 hz0 eg hgl hgc HI lp pbG xbG lxb kx o1 r1 hby hil
      go_upto_region 6 with fail
      show Code.wp _ _ _ _ (wr.setCells G (i * 7) (encO x))
      rw [hW1]
      clear hW1 cx f0 f1 f2 f3 f4 f5 f6 e0 e1 e2 e3 e4 e5 e6 hfz
      go_wp2_with fail
      refine hhd.mono ?_
      rintro _ w2 ⟨g, rfl, hm, hb⟩
      obtain ⟨u, u1, u2⟩ := r1c w2 hb
      have HF := HE.out g w2 hm hb
      have HF : Hid (MdI V G n xs (i + 1) (w2.setCell ⟨G, i * 7 + 1, none⟩ (.slice (some ⟨g, 0, none⟩) x.tn (x.tn + 90)))) := HF
      clear hhd hm hb r1c kx0 kf1
      go_wp2_with fail
      go_roundw
      case rel => exact ⟨i + 1, hlt, by go_num, HF⟩
      case measure => simp [intOf]; omega
    · have hlt1 : ¬ (i : Int) < n := by omega
      obtain rfl : i = n := by omega
      have HK0 : Hid (MdK V G i xs 0 wr) := HI.out.start HN.out
      clear HI
      go_upto_region 8 with fail
      go_loopw [6] (fun t wx => ∃ k : Nat, k ≤ 90 ∧ t = .int .i64 k ∧ Hid (MdK V G i xs k wx)) (fun t _ => 90 - (intOf t).toNat)
      case atStart => exact ⟨0, by omega, rfl, HK0⟩
      case round =>
        obtain ⟨k, hk, rfl, HK⟩ := hrel
        clear HK0
        have cx : wr.cell? ⟨xb, 0, none⟩ = some (.slice ao i cap) := (HX.out.2.1.below HK.out.bel).cell 0
        by_cases hkt : k < 90
        · have hkt1 : (k : Int) < 90 := by omega
          have hkt2 : (i : Int) + (k : Int) < (i : Int) + 90 := by omega
          obtain ⟨gs, h1, h2⟩ := HK.out.ex
          obtain ⟨z0, hz0⟩ : ∃ z0, (hdl xs gs ++ (mksM k ++ List.replicate (90 - k) zM))[i + k]? = some z0 := ⟨_, List.getElem?_eq_getElem (by rw [List.length_append, hdl_len h1, HN.out, List.length_append, mksM_len, List.length_replicate]; omega)⟩
          obtain ⟨g', eg, hgl, hgc⟩ := ERow.at_ encO_len7 h2 hz0
          obtain rfl : G = g' := by simpa using eg
          have e0 := hgc 0 (by decide)
          have e1 := hgc 1 (by decide)
          have e2 := hgc 2 (by decide)
          have e3 := hgc 3 (by decide)
          have e4 := hgc 4 (by decide)
          have e5 := hgc 5 (by decide)
          have e6 := hgc 6 (by decide)
          simp [encO] at e0 e1 e2 e3 e4 e5 e6
          have hfz := ERow.thaw h2
          have HE : Hid (MdK V G i xs (k + 1) (wr.setCells G ((i + k) * 7) (encO (mkM k)))) := HK.out.next (by rw [HG.out]; exact Nat.le_refl _) HN.out hkt
          clear h1 h2 hz0 eg hgl hgc HK
          go_wp2_with fail
          go_roundw
          case rel => exact ⟨k + 1, hkt, by go_num, HE⟩
          case measure => simp [intOf]; omega
        · have hkt1 : ¬ (k : Int) < 90 := by omega
          obtain rfl : k = 90 := by omega
          obtain ⟨gs, h1, h2⟩ := HK.out.ex
          have hle : (hdl xs gs).length = i := (hdl_len h1).trans HN.out
          have HBW : Hid (Below W.heap.size W wr) := below_then HB.out HK.out.bel
          have HS : Hid (HdL wr (G + 1) xs gs ∧ ERow wr G 58 7 encO (.slice (some ⟨G, 0, none⟩) (i + 90) (i + 90)) (hdl xs gs ++ mksM 90) ∧ Wis (hdl xs gs) xs) := ⟨h1, by have h3 := h2; rw [Nat.sub_self, List.replicate_zero, List.append_nil] at h3; exact h3, hdl_wis h1⟩
          have HLd : Hid (∀ z, Below wr.heap.size wr z → Calls Tryz.prog 11 #[.slice (some ⟨G, 0, none⟩) i (i + 90), .bool sq, .int .i64 tr] z fun e z' => ∃ bv ev, e = .returned (.tuple #[bv, ev]) ∧ Hid (LdV z sq tr (hdl xs gs) bv ev z' ∧ wr.heap.size ≤ z.heap.size) ∧ Hid (Below wr.heap.size wr z')) := fun z hz => by
            have hq := loadF_any sq tr (some ⟨G, 0, none⟩) (i + 90) (hdl xs gs) z (HH.out.1.below (below_then HBW.out hz)) ((hdl_outs h1 h2).below hz) (hdl_plain HH.out.2.2.1) (by omega)
            rw [hle] at hq
            refine hq.mono fun e z' h => ?_
            obtain ⟨bv, ev, e1, h3⟩ := ldv_of h
            exact ⟨bv, ev, e1, ⟨h3.out, hz.size⟩, below_then hz h3.out.below⟩
          have HBV : Hid (Below V.heap.size V wr) := HK.out.bel
          have bxr := HX.out.2.1.below HK.out.bel
          have y0 : wr.cell? ⟨xb, 0, none⟩ = some (.slice ao i cap) := bxr.cell 0
          have y1 : wr.cell? ⟨xb, 1, none⟩ = some (.bool sq) := bxr.cell 1
          have y2 : wr.cell? ⟨xb, 2, none⟩ = some (.int .i64 tr) := bxr.cell 2
          have yl := bxr.lt
          have gc : ∀ {z : World}, Below wr.heap.size wr z → z.cell? ⟨xb, 0, none⟩ = some (.slice ao i cap) ∧ z.cell? ⟨xb, 1, none⟩ = some (.bool sq) ∧ z.cell? ⟨xb, 2, none⟩ = some (.int .i64 tr) := fun {z} hz => ⟨(hz.cell (p := ⟨xb, 0, none⟩) yl).trans y0, (hz.cell (p := ⟨xb, 1, none⟩) yl).trans y1, (hz.cell (p := ⟨xb, 2, none⟩) yl).trans y2⟩
          have il : (i : Int) ≤ (i : Int) + 90 := by omega
          have il2 : i ≤ i + 90 := by omega
          have il0 : (0 : Int) ≤ (i : Int) := by omega
          clear h1 h2 HK cx bxr hkt hkt1
          go_upto_region 11 with fail
          go_cut [7, 8] from 61 to 73 (fun t7 t8 wx => ∃ z, Hid (LdV z sq tr (hdl xs gs) t7 t8 wx ∧ wr.heap.size ≤ z.heap.size ∧ Below wr.heap.size wr wx))
          case first =>
            go_region_held3 (fun z => z.cell? ⟨xb, 0, none⟩ = some (.slice ao i cap) ∧ z.cell? ⟨xb, 1, none⟩ = some (.bool sq) ∧ z.cell? ⟨xb, 2, none⟩ = some (.int .i64 tr)) ((refine gc ?_; (repeat' (first | (with_reducible exact Below.refl _ _) | (with_reducible exact Hid.out (by assumption)) | (with_reducible refine Below.drew ?_))))) ((go_at_call 11; refine (HLd.out _ ?_).mono ?_; (repeat' (first | (with_reducible exact Below.refl _ _) | (with_reducible refine Below.drew ?_))); rintro _ w2 ⟨bv, ev, rfl, HV2, HB2⟩))
            all_goals
              go_wp2_with fail
              go_meet
              exact ⟨_, HV2.out.1, HV2.out.2, HB2.out⟩
          case rest =>
            obtain ⟨z, HZL⟩ := hcut
            obtain ⟨W2, rfl⟩ : ∃ U, U = wc := ⟨_, rfl⟩
            have HBW2 : Hid (Below W.heap.size W W2) := below_then HBW.out HZL.out.2.2
            have hrl := rload_any sq tr ao cap xs W2 (HH.out.2.1.below HBW2.out) HH.out.2.2.1 (by have := HN.out; omega)
            rw [HN.out] at hrl
            have z0 := (HZL.out.2.2.cell (p := ⟨xb, 0, none⟩) yl).trans y0
            have z1 := (HZL.out.2.2.cell (p := ⟨xb, 1, none⟩) yl).trans y1
            have z2 := (HZL.out.2.2.cell (p := ⟨xb, 2, none⟩) yl).trans y2
            clear HLd gc y0 y1 y2 yl il il2 il0
            go_upto_region 13 with (go_at_call 12; refine hrl.mono ?_; rintro _ w3 h3; obtain ⟨rv, a3, c3, rfl, HR3⟩ := rldv_of h3)
            obtain ⟨q1, q2, q3, q4⟩ := ld_both HZL.out.1 HS.out.2.2 HR3.out
            have hrf := refused_any q1
            have HB3 : Hid (Below wr.heap.size wr w3) := below_then HZL.out.2.2 HR3.out.below
            have hGS := HS.out
            obtain ⟨K, hK⟩ : ∃ K, z.heap.size = K := ⟨_, rfl⟩
            have HKG : Hid (G < K ∧ W.heap.size + 1 < K) := by
              have h1 := (ERow.lt hGS.2.1 (g := G) rfl).2
              have h2 := HZL.out.2.1
              have h3 := HX.out.2.2.lt
              have h4 := HX.out.1
              have h5 := HBV.out.size
              exact ⟨by omega, by omega⟩
            have HO0 : Hid (MdO V K G i sq tr xs gs u7 rv 0 w3) := ⟨⟨[], rfl, ERow.below hGS.2.1 HB3.out⟩, fun l x g _ hx hg => ⟨(hGS.1.at_ l x g hx hg).below HB3.out, by have h1 := (hGS.1.at_ l x g hx hg).lt.2; have h2 := HZL.out.2.1; omega⟩, below_then HBV.out HB3.out, by rw [← hK]; exact q2⟩
            have HGL : Hid (gs.length = i ∧ ∀ (i j g h : Nat), i < j → gs[i]? = some g → gs[j]? = some h → g < h) := ⟨hGS.1.len.trans HN.out, hGS.1.lt⟩
            clear hrl q1 q2 q3 hGS z0 z1 z2 hle
            go_cut [12] from 85 to 95 (fun t wx => t = .bool true ∧ wx = w3)
            case first =>
              clear HO0 HKG HGL
              rcases q4 with ⟨e1, e2⟩ | ⟨b, r, e1, e2⟩
              all_goals
                subst e1
                subst e2
                go_wp2_with (go_at_call 13; refine hrf.mono ?_; rintro _ w9 ⟨rfl, h9⟩; subst w9)
                go_meet
                exact ⟨rfl, rfl⟩
            case rest =>
            obtain ⟨rfl, hw⟩ := hcut
            rw [hw]
            clear hw hrf q4
            go_upto_region 15 with fail
            go_loopw [12, 13] (fun t12 t13 wx => ∃ j : Nat, j ≤ i ∧ t12 = .bool true ∧ t13 = .int .i64 j ∧ Hid (MdO V K G i sq tr xs gs u7 rv j wx)) (fun _ t13 _ => i - (intOf t13).toNat)
            case atStart => exact ⟨0, Nat.zero_le _, rfl, rfl, HO0⟩
            case round =>
              obtain ⟨j, hj, rfl, rfl, HO⟩ := hrel
              clear HO0
              have HBj : Hid (Below W.heap.size W wr) := below_then HB.out HO.out.bel
              have cx : wr.cell? ⟨xb, 0, none⟩ = some (.slice ao i cap) := (HX.out.2.1.below HO.out.bel).cell 0
              by_cases hlt : j < i
              · have hlt1 : (j : Int) < i := by omega
                have hlt2 : (j : Int) < (i : Int) + 90 := by omega
                have hlt3 : j < i + 90 := by omega
                obtain ⟨x, hx⟩ : ∃ x, xs[j]? = some x := ⟨_, List.getElem?_eq_getElem (by rw [HN.out]; exact hlt)⟩
                obtain ⟨g, hg⟩ : ∃ g, gs[j]? = some g := ⟨_, List.getElem?_eq_getElem (by rw [HGL.out.1]; exact hlt)⟩
                obtain ⟨pb, off, rfl, hat⟩ := HH.out.2.1 j x hx
                obtain ⟨lp, f0, f1, f2, f3, f4, f5, f6, hby, _⟩ := hat.below HBj.out
                obtain ⟨e0, e1, e2, e3, e4, e5, e6, eG⟩ := HO.out.cells hx hg
                have htx := HO.out.txt j x g (Nat.le_refl _) hx hg
                have HXG : Hid (xs[j]? = some x ∧ gs[j]? = some g ∧ g < K) := ⟨hx, hg, htx.2⟩
                have HXL : Hid (x.tn + 90 ≤ 140737488355328) := HH.out.2.2.2.2 x (List.mem_of_getElem? hx)
                have HKp : Hid (∀ z, Below wr.heap.size wr z → Calls Tryz.prog 14 #[.slice (some ⟨g, 0, none⟩) x.tn (x.tn + 90), .slice x.tp x.tn x.tc] z fun e w' => e = .returned (.bool true) ∧ Hid (Below wr.heap.size wr w')) := fun z hz => (Kept_true z (htx.1.below hz) (hby.below hz) HXL.out).mono fun e w' ⟨h1, m, h2⟩ => ⟨h1, by rw [h2]; exact below_drewN hz m⟩
                have HSo : Hid (∀ z, Below wr.heap.size wr z → Calls Tryz.prog 15 #[.agg #[.string x.ct, .slice (some ⟨g, 0, none⟩) x.tn (x.tn + 90), .bool x.e, .int .i64 x.a, .int .i64 x.p, .int .i64 x.nu, .bool x.nt], .agg #[.string x.ct, .slice x.tp x.tn x.tc, .bool x.e, .int .i64 x.a, .int .i64 x.p, .int .i64 x.nu, .bool x.nt]] z fun e w' => e = .returned (.bool true) ∧ Hid (Below wr.heap.size wr w')) := fun z hz => (sameOut_w x (htx.1.below hz).byts (hby.below hz) (by have := HXL.out; omega)).mono fun e w' ⟨h1, h2⟩ => ⟨h1, below_then hz h2⟩
                have cl : xb < wr.heap.size := cell_lt cx
                have gc : ∀ {z : World}, Below wr.heap.size wr z → z.cell? ⟨xb, 0, none⟩ = some (.slice (some ⟨pb, off, none⟩) i cap) ∧ z.cell? ⟨pb, off + j * 7, none⟩ = some (.string x.ct) ∧ z.cell? ⟨pb, off + j * 7 + 1, none⟩ = some (.slice x.tp x.tn x.tc) ∧ z.cell? ⟨pb, off + j * 7 + 2, none⟩ = some (.bool x.e) ∧ z.cell? ⟨pb, off + j * 7 + 3, none⟩ = some (.int .i64 x.a) ∧ z.cell? ⟨pb, off + j * 7 + 4, none⟩ = some (.int .i64 x.p) ∧ z.cell? ⟨pb, off + j * 7 + 5, none⟩ = some (.int .i64 x.nu) ∧ z.cell? ⟨pb, off + j * 7 + 6, none⟩ = some (.bool x.nt) ∧ z.cell? ⟨G, j * 7, none⟩ = some (.string x.ct) ∧ z.cell? ⟨G, j * 7 + 1, none⟩ = some (.slice (some ⟨g, 0, none⟩) x.tn (x.tn + 90)) ∧ z.cell? ⟨G, j * 7 + 2, none⟩ = some (.bool x.e) ∧ z.cell? ⟨G, j * 7 + 3, none⟩ = some (.int .i64 x.a) ∧ z.cell? ⟨G, j * 7 + 4, none⟩ = some (.int .i64 x.p) ∧ z.cell? ⟨G, j * 7 + 5, none⟩ = some (.int .i64 x.nu) ∧ z.cell? ⟨G, j * 7 + 6, none⟩ = some (.bool x.nt) := fun {z} hz => ⟨(hz.cell (p := ⟨xb, 0, none⟩) cl).trans cx, (hz.cell (p := ⟨pb, off + j * 7, none⟩) lp).trans f0, (hz.cell (p := ⟨pb, off + j * 7 + 1, none⟩) lp).trans f1, (hz.cell (p := ⟨pb, off + j * 7 + 2, none⟩) lp).trans f2, (hz.cell (p := ⟨pb, off + j * 7 + 3, none⟩) lp).trans f3, (hz.cell (p := ⟨pb, off + j * 7 + 4, none⟩) lp).trans f4, (hz.cell (p := ⟨pb, off + j * 7 + 5, none⟩) lp).trans f5, (hz.cell (p := ⟨pb, off + j * 7 + 6, none⟩) lp).trans f6, (hz.cell (p := ⟨G, j * 7, none⟩) eG).trans e0, (hz.cell (p := ⟨G, j * 7 + 1, none⟩) eG).trans e1, (hz.cell (p := ⟨G, j * 7 + 2, none⟩) eG).trans e2, (hz.cell (p := ⟨G, j * 7 + 3, none⟩) eG).trans e3, (hz.cell (p := ⟨G, j * 7 + 4, none⟩) eG).trans e4, (hz.cell (p := ⟨G, j * 7 + 5, none⟩) eG).trans e5, (hz.cell (p := ⟨G, j * 7 + 6, none⟩) eG).trans e6⟩
                clear hx hg hat hby htx
                go_upto_region 17 with fail
                go_cut [12] from 103 to 129 (fun t wx => t = .bool true ∧ Hid (Below wr.heap.size wr wx))
                case first =>
                  go_region_held3 (fun z => z.cell? ⟨xb, 0, none⟩ = some (.slice (some ⟨pb, off, none⟩) i cap) ∧ z.cell? ⟨pb, off + j * 7, none⟩ = some (.string x.ct) ∧ z.cell? ⟨pb, off + j * 7 + 1, none⟩ = some (.slice x.tp x.tn x.tc) ∧ z.cell? ⟨pb, off + j * 7 + 2, none⟩ = some (.bool x.e) ∧ z.cell? ⟨pb, off + j * 7 + 3, none⟩ = some (.int .i64 x.a) ∧ z.cell? ⟨pb, off + j * 7 + 4, none⟩ = some (.int .i64 x.p) ∧ z.cell? ⟨pb, off + j * 7 + 5, none⟩ = some (.int .i64 x.nu) ∧ z.cell? ⟨pb, off + j * 7 + 6, none⟩ = some (.bool x.nt) ∧ z.cell? ⟨G, j * 7, none⟩ = some (.string x.ct) ∧ z.cell? ⟨G, j * 7 + 1, none⟩ = some (.slice (some ⟨g, 0, none⟩) x.tn (x.tn + 90)) ∧ z.cell? ⟨G, j * 7 + 2, none⟩ = some (.bool x.e) ∧ z.cell? ⟨G, j * 7 + 3, none⟩ = some (.int .i64 x.a) ∧ z.cell? ⟨G, j * 7 + 4, none⟩ = some (.int .i64 x.p) ∧ z.cell? ⟨G, j * 7 + 5, none⟩ = some (.int .i64 x.nu) ∧ z.cell? ⟨G, j * 7 + 6, none⟩ = some (.bool x.nt)) ((refine gc ?_; (repeat' (first | (with_reducible exact Below.refl _ _) | (with_reducible exact Hid.out (by assumption)) | (with_reducible refine Below.drew ?_))))) (first | (go_at_call 14; refine (HKp.out _ ?_).mono ?_; (repeat' (first | (with_reducible exact Below.refl _ _) | (with_reducible refine Below.drew ?_))); rintro _ w5 ⟨rfl, HB5⟩) | (go_at_call 15; refine (HSo.out _ HB5.out).mono ?_; rintro _ w6 ⟨rfl, HB6⟩))
                  all_goals
                    go_wp2_with fail
                    go_meet
                    exact ⟨rfl, HB6⟩
                case rest =>
                obtain ⟨rfl, HB6⟩ := hcut
                obtain ⟨W4, rfl⟩ : ∃ U, U = wc := ⟨_, rfl⟩
                have HP0 : Hid (MdP V K G i sq tr xs gs u7 rv j g x.tn W4) := (HO.out.below_ HB6.out).into HGL.out.2 HXG.out.1 HXG.out.2.1
                clear HKp HSo gc f0 f1 f2 f3 f4 f5 f6 e0 e1 e2 e3 e4 e5 e6 eG cl lp cx HO
                go_upto_region 19 with fail
                go_loopw [14] (fun t14 wx => ∃ k : Nat, k ≤ x.tn ∧ t14 = .int .i64 k ∧ Hid (MdP V K G i sq tr xs gs u7 rv j g x.tn wx)) (fun t14 _ => x.tn - (intOf t14).toNat)
                case atStart => exact ⟨0, Nat.zero_le _, rfl, HP0⟩
                case round =>
                  obtain ⟨k, hk, rfl, HP⟩ := hrel
                  clear HP0
                  obtain ⟨c0, c1, cl, cf⟩ := HP.out.cell1 HXG.out.1 HXG.out.2.1
                  by_cases hkt : k < x.tn
                  · have hkt1 : (k : Int) < x.tn := by omega
                    have hkb : (k : Int) + 1 ≤ 140737488355328 := by have := HXL.out; omega
                    obtain ⟨bs, hb⟩ := HP.out.cur
                    have k1 : wr.cell? ⟨g, k, none⟩ = some (.int .u8 (bs.getD k 0)) := hb.slot (by rw [← ERow.len hb]; exact hkt)
                    have k2 := hb.thaw k
                    have HJ : Hid (∀ z : Int, MdP V K G i sq tr xs gs u7 rv j g x.tn (wr.setCell ⟨g, k, none⟩ (.int .u8 z))) := fun z => HP.out.byte (by rw [HG.out]; exact Nat.le_refl _) hkt z HXG.out.2.2
                    have HJ2 : Hid (∀ z : Int, MdP V K G i sq tr xs gs u7 rv j g x.tn (wr.drew.setCell ⟨g, k, none⟩ (.int .u8 z))) := fun z => HP.out.drew_.byte (by rw [HG.out]; exact Nat.le_refl _) hkt z HXG.out.2.2
                    clear hb HP
                    go_upto_region 21 with fail
                    go_region_law (fail)
                    all_goals
                      go_wp2_with fail
                      go_roundw
                      case rel => exact ⟨k + 1, hkt, by go_num, HJ2.out _⟩
                      case measure => simp [intOf]; omega
                  · have hkt1 : ¬ (k : Int) < x.tn := by omega
                    have HG2 : Hid (∀ u, MdO V K G i sq tr xs gs u7 rv (j + 1) (wr.setCell ⟨G, j * 7, none⟩ (.string u))) := fun u => HP.out.gone (by rw [HG.out]; exact Nat.le_refl _) HXG.out.1 HXG.out.2.1 HKG.out.1 u
                    clear HP
                    go_wp2_with fail
                    go_roundw
                    case rel => exact ⟨j + 1, hlt, rfl, by go_num, HG2.out _⟩
                    case measure => simp [intOf]; omega
              · have hlt1 : ¬ (j : Int) < i := by omega
                obtain rfl : j = i := by omega
                have HMk : Hid (∀ k : Nat, k < 90 → wr.cell? ⟨G, (j + k) * 7, none⟩ = some (.string ⟨#[]⟩) ∧ wr.cell? ⟨G, (j + k) * 7 + 5, none⟩ = some (.int .i64 (-77 - (k : Int)))) := fun k hk => HO.out.mark ((hdl_len HS.out.1).trans HN.out) hk
                have ml := (HX.out.2.2.below HO.out.bel).lt
                have mf := (HX.out.2.2.below HO.out.bel).free 0
                have mf1 := (HX.out.2.2.below HO.out.bel).free 1
                have m0 : wr.cell? ⟨xb + 1, 0, none⟩ = some (.pointer none) := (HX.out.2.2.below HO.out.bel).cell 0
                have m1 : wr.cell? ⟨xb + 1, 1, none⟩ = some (.pointer none) := (HX.out.2.2.below HO.out.bel).cell 1
                obtain ⟨U, hU⟩ : ∃ U, U = wr := ⟨_, rfl⟩
                rw [← hU] at HMk mf mf1 m0 m1 ml HO cx ⊢
                clear hU
                go_upto_region 24 with fail
                go_loopw [12, 15] (fun t12 t15 wx => ∃ k : Nat, k ≤ 90 ∧ t12 = .bool true ∧ t15 = .int .i64 k ∧ wx = U) (fun _ t15 _ => 90 - (intOf t15).toNat)
                case atStart => exact ⟨0, by omega, rfl, rfl, rfl⟩
                case round =>
                  obtain ⟨k, hk, rfl, rfl, hw⟩ := hrel
                  rw [hw]
                  clear hw
                  by_cases hkt : k < 90
                  · have hkt1 : (k : Int) < 90 := by omega
                    have hkt2 : (j : Int) + (k : Int) < (j : Int) + 90 := by omega
                    obtain ⟨n1, n2⟩ := HMk.out k hkt
                    go_wp2_with fail
                    go_roundw
                    case rel => exact ⟨k + 1, hkt, rfl, by go_num, by first | rfl | trivial⟩
                    case measure => simp [intOf]; omega
                  · have hkt1 : ¬ (k : Int) < 90 := by omega
                    have HE : Hid (∀ wx, Off (fun q => q = xb + 1) U wx → ∃ K, W.heap.size ≤ K ∧ MRes K sq tr xs u7 rv wx ∧ Below W.heap.size W wx) := fun wx o => by
                      have h1 := HKG.out
                      have h2 := HX.out.1
                      exact ⟨K, by omega, HO.out.res.off o fun q hq => by omega, (below_then HB.out HO.out.bel).trans (o.below (below_then HB.out HO.out.bel).size fun q hq => by omega)⟩
                    rcases HO.out.res.form with ⟨e1, e2⟩ | ⟨b, r, e1, e2⟩
                    all_goals
                      subst e1
                      subst e2
                      clear HO HMk
                      go_upto_region 27 with fail
                      go_wp2_with fail
                      refine bodyPost_ret ?_ rfl ⟨_, _, rfl, HE.out _ ?_⟩
                      · simp [results, Tryz.results6, go_sem, m0, m1]
                      · exact Off.setCell (P := fun q => q = xb + 1) (Off.setCell (P := fun q => q = xb + 1) (Off.refl _ _) (p := ⟨xb + 1, 0, none⟩) rfl _) (p := ⟨xb + 1, 1, none⟩) rfl _
end Go.Proofs.YtoijhecphgdfnaaGreatDoor
