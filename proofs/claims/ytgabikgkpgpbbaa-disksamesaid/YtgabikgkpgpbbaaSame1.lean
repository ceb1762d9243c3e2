/-
  The law DiskSame, walked: area 1.
-/
import Derived.Test.YtgabikgkpgpbbaaSameBase
namespace Go.Proofs.Ytgabikgkpgpbbaa
open Go.RowKit

set_option maxRecDepth 100000 in
set_option maxHeartbeats 8000000 in
theorem same_1 {pa qa : Option Addr} {pl pc ql qc : Nat} {ps qs : List Int} {ar : Int} (w : World) (hp : Byts w pa pl ps) (hpn : pa = none → pc = 0) (hq : Byts w qa ql qs) (hqn : qa = none → qc = 0) (hlen : pl + 2 * ql ≤ 16777216) (hbit : bits BinOp.and IntKind.i64 ar 1 = 1) :
    Calls Try.prog 5 #[.slice pa pl pc, .slice qa ql qc, .int .i64 ar] w fun e w' => e = .returned (.bool true) ∧ Below w.heap.size w w' := by
  have HP : Hid (Byts w pa pl ps) := hp
  have HQ : Hid (Byts w qa ql qs) := hq
  have HPn : Hid (pa = none → pc = 0) := hpn
  have HQn : Hid (qa = none → qc = 0) := hqn
  have HLP : Hid (ps.length = pl) := hp.len
  have HLQ : Hid (qs.length = ql) := hq.len
  clear hp hq hpn hqn
  have hl2 : (pl : Int) + 2 * ql ≤ 16777216 := by omega
  go_enter Try.func5, Try.ntmps5
  go_wp2_with fail
  refine (heads_true _).mono ?_
  rintro e w0 ⟨rfl, b0⟩
  have HB0 : Hid (Below w.heap.size w w0) := b0
  clear b0
  go_wp2_with fail
  refine (Hand_any _ (HP.out.below HB0.out) (by omega)).mono ?_
  rintro e w1 ⟨rfl, hR1, b1⟩
  have HR1 : Hid (Row w1 w0.heap.size (.slice (some ⟨w0.heap.size, 0, none⟩) (pl + 90) (pl + 90)) (ps ++ marks)) := hR1
  have HB1 : Hid (Below w.heap.size w w1) := below_then HB0.out b1
  have HG1 : Hid (w0.heap.size < w1.heap.size) := (hR1.lt (g := w0.heap.size) rfl).2
  clear hR1 b1
  have hby1 := (HR1.out.prefix (m := pl) (by omega)).bytes
  rw [List.take_left' HLP.out] at hby1
  have HY1 : Hid (Byts w1 (some ⟨w0.heap.size, 0, none⟩) pl ps) := hby1
  clear hby1
  go_wp2_with fail
  refine (From_ok HY1.out (fun e => by cases e) (by omega) HY1.out (fun e => by cases e) (by omega) (fun b o e => by simp at e; have := HG1.out; omega) (fun b o e => by simp at e; have := HG1.out; omega)).mono ?_
  rintro e w2 ⟨K, u0, u1, rfl, d2, b2⟩
  have HD2 : Hid (Dsk w2 (w1.heap.size + 1) K u0 u1 ps ps ps.length ps.length 1 (-1) 0 0 0) := d2
  have HB2 : Hid (Below w1.heap.size w1 w2) := b2
  have HR2 : Hid (Row w2 w0.heap.size (.slice (some ⟨w0.heap.size, 0, none⟩) (pl + 90) (pl + 90)) (ps ++ marks)) := HR1.out.below b2
  clear d2 b2
  go_wp2_with fail
  refine (Kept_true w2 HR2.out (HP.out.below (below_then HB1.out HB2.out)) (by omega)).mono ?_
  rintro e w3 ⟨rfl, k3, rfl⟩
  have HD3 : Hid (Dsk (w2.drewN k3) (w1.heap.size + 1) K u0 u1 ps ps ps.length ps.length 1 (-1) 0 0 0) := HD2.out.off (P := fun _ => False) ((Off.refl _ _).drewN _) (fun _ _ => id)
  have HR3 : Hid (Row (w2.drewN k3) w0.heap.size (.slice (some ⟨w0.heap.size, 0, none⟩) (pl + 90) (pl + 90)) (ps ++ marks)) := HR2.out.keep (fun _ _ => rfl)
  have HB3 : Hid (Below w.heap.size w (w2.drewN k3)) := below_drewN (below_then HB1.out HB2.out) k3
  obtain ⟨W3, hW3⟩ : ∃ W3, w2.drewN k3 = W3 := ⟨_, rfl⟩
  rw [hW3] at HD3 HR3 HB3
  rw [hW3]
  have HS3 : Hid (w0.heap.size < W3.heap.size ∧ w.heap.size ≤ w0.heap.size ∧ w0.heap.size < w1.heap.size) := by
    refine ⟨?_, HB0.out.size, HG1.out⟩
    have := HB2.out.size; have := HG1.out; rw [← hW3]; show _ < w2.heap.size; omega
  clear hW3 HD2 HR2 HR1 HY1
  go_wp2_with fail
  go_loopw [10] (fun ti wx => ∃ (i : Nat) (ys : List Int), i ≤ pl ∧ ti = .int .i64 i ∧ ys.length = pl + 90 ∧ Hid (Row wx w0.heap.size (.slice (some ⟨w0.heap.size, 0, none⟩) (pl + 90) (pl + 90)) ys ∧ Dsk wx (w1.heap.size + 1) K u0 u1 ps ps ps.length ps.length 1 (-1) 0 0 0 ∧ Below w.heap.size w wx)) (fun ti _ => pl - (intOf ti).toNat)
  case atStart => exact ⟨0, ps ++ marks, Nat.zero_le _, rfl, by simp [marks]; exact HLP.out, HR3.out, HD3.out, HB3.out⟩
  case round =>
    obtain ⟨i, ys, hi, rfl, hys, HI⟩ := hrel
    by_cases hlt : i < pl
    · have hlt1 : (i : Int) < pl := by omega
      have k1 : wr.cell? ⟨w0.heap.size, i, none⟩ = some (.int .u8 (ys.getD i 0)) := HI.out.1.slot (by omega)
      have k2 := HI.out.1.thaw i
      go_wp2_with fail
      go_roundw
      case rel =>
        refine ⟨i + 1, _, hlt, by go_num, ?_, HI.out.1.stored i _, HI.out.2.1.off (P := fun k => k = w0.heap.size) (Off.setCell (P := fun k => k = w0.heap.size) (Off.refl _ _) (p := ⟨w0.heap.size, i, none⟩) rfl _) (fun k hk e => by have := (HI.out.2.1.foot_lt hk).1; have := HS3.out; omega), HI.out.2.2.setCell (p := ⟨w0.heap.size, i, none⟩) HS3.out.2.1 _⟩
        rw [List.length_set]; exact hys
      case measure => simp [intOf]; omega
    · have hlt1 : ¬ (i : Int) < pl := by omega
      have HD4 : Hid (Dsk wr (w1.heap.size + 1) K u0 u1 ps ps ps.length ps.length 1 (-1) 0 0 0) := HI.out.2.1
      have HB4 : Hid (Below w.heap.size w wr) := HI.out.2.2
      clear HI hys
      go_wp2_with fail
      refine (Hand_any _ (HQ.out.below HB4.out) (by omega)).mono ?_
      rintro e w5 ⟨rfl, hR5, b5⟩
      obtain ⟨G, hG⟩ : ∃ G, wr.heap.size = G := ⟨_, rfl⟩
      have HD5 : Hid (Dsk w5 (w1.heap.size + 1) K u0 u1 ps ps ps.length ps.length 1 (-1) 0 0 0) := HD4.out.below b5
      have HFt : Hid (∀ k, Foot K u0 u1 k → k < G) := fun k hk => by rw [← hG]; exact (HD4.out.foot_lt hk).2
      have HB5 : Hid (Below w.heap.size w w5) := below_then HB4.out b5
      rw [hG] at hR5
      have HR5 : Hid (Row w5 G (.slice (some ⟨G, 0, none⟩) (ql + 90) (ql + 90)) (qs ++ marks)) := hR5
      have HG5 : Hid (G < w5.heap.size ∧ w.heap.size ≤ G) := ⟨(hR5.lt (g := G) rfl).2, by rw [← hG]; exact HB4.out.size⟩
      rw [hG]
      clear hR5 b5 hG HD4 HB4
      obtain ⟨a6, n6, c6, w6, hr6, r6, b6⟩ := run_copy_bytes (w := w5) (HP.out.below HB5.out) HPn.out (by omega)
      obtain ⟨v7, w7, hr7, r7, g7, _⟩ := run_append_bytes r6 ((HQ.out.below HB5.out).below b6) HQn.out (by have := HLP.out; omega) b6.size 25
      have b7 : Below w5.heap.size w5 w7 := b6.trans ((Off.of_grown g7).below (B := w5.heap.size) b6.size (fun k e => (r6.lt e).1))
      obtain ⟨a7, c7, hv7, _⟩ := r7.slice
      subst hv7
      have HD7 : Hid (Dsk w7 (w1.heap.size + 1) K u0 u1 ps ps ps.length ps.length 1 (-1) 0 0 0) := HD5.out.below b7
      have HB7 : Hid (Below w.heap.size w w7) := below_then HB5.out b7
      have HR7 : Hid (Row w7 G (.slice (some ⟨G, 0, none⟩) (ql + 90) (ql + 90)) (qs ++ marks)) := HR5.out.below b7
      have HA7 : Hid (Row w7 w5.heap.size (.slice a7 (ps ++ qs).length c7) (ps ++ qs)) := r7
      have HZ7 : Hid (w5.heap.size ≤ w7.heap.size) := b7.size
      clear r6 b6 r7 g7 b7
      go_wp2_with (first | (at_builtin; refine wpList_append_run rfl (.tmp 72) (.tmp 73) 25 _ rfl hr6 ?_) | (at_builtin; refine wpList_append_run rfl (.tmp 74) (.tmp 75) 25 _ rfl hr7 ?_))
      clear hr6 hr7
      have hby := (HR7.out.prefix (m := ql) (by omega)).bytes
      rw [List.take_left' HLQ.out] at hby
      refine (Append1_ok hby (fun e => by cases e) (fun b o e g => by simp at e; have := HFt.out b g; omega) HD7.out (by decide) (by have := HLP.out; omega)).mono ?_
      rintro e w8 ⟨rfl, u8, d8, t8⟩
      have HD8 : Hid (Dsk w8 (w1.heap.size + 1) K u0 u8 ps (ps ++ qs) ps.length ps.length 1 (-1) 1 0 0) := d8
      have HR8 : Hid (Row w8 G (.slice (some ⟨G, 0, none⟩) (ql + 90) (ql + 90)) (qs ++ marks)) := HR7.out.keep (fun g e => t8.off.block g (HR7.out.lt e).2 (fun f => by have h1 := HFt.out g f; have h2 := (HR7.out.lt e).1; omega))
      have HA8 : Hid (Row w8 w5.heap.size (.slice a7 (ps ++ qs).length c7) (ps ++ qs)) := HA7.out.keep (fun g e => t8.off.block g (HA7.out.lt e).2 (fun f => by have h1 := HFt.out g f; have h2 := (HA7.out.lt e).1; have := HG5.out; omega))
      have HF8 : Hid ((∀ k, Foot K u0 u8 k → k ≠ G) ∧ (∀ g, (Value.slice a7 (ps ++ qs).length c7).ownBlock = some g → ¬ Foot K u0 u8 g)) := by
        refine ⟨fun k f e => ?_, fun g e f => ?_⟩
        · subst e
          have h1 := (HR7.out.lt (g := k) rfl).2
          exact absurd (HFt.out k (t8.foot k h1 f)) (Nat.lt_irrefl _)
        · have h1 := (HA7.out.lt e).2
          have h2 := HFt.out g (t8.foot g h1 f)
          have h3 := (HA7.out.lt e).1
          have := HG5.out
          omega
      have HB8 : Hid (Below w.heap.size w w8) := HB7.out.trans (t8.off.below HB7.out.size (fun k f => by have := (HD7.out.foot_lt f).1; have := HS3.out; omega))
      have HZ8 : Hid (w5.heap.size ≤ w8.heap.size) := Nat.le_trans HZ7.out t8.off.size
      clear hby d8 t8 HD7 HR7 HA7 HB7 HD5 HR5
      go_wp2_with fail
      refine (Kept_true w8 HR8.out (HQ.out.below HB8.out) (by omega)).mono ?_
      rintro e w9 ⟨rfl, k9, rfl⟩
      obtain ⟨W9, hW9⟩ : ∃ W9, w8.drewN k9 = W9 := ⟨_, rfl⟩
      have HD9 : Hid (Dsk W9 (w1.heap.size + 1) K u0 u8 ps (ps ++ qs) ps.length ps.length 1 (-1) 1 0 0) := by unfold Hid; rw [← hW9]; exact HD8.out.off (P := fun _ => False) ((Off.refl _ _).drewN _) (fun _ _ => id)
      have HR9 : Hid (Row W9 G (.slice (some ⟨G, 0, none⟩) (ql + 90) (ql + 90)) (qs ++ marks)) := by unfold Hid; rw [← hW9]; exact HR8.out.keep (fun _ _ => rfl)
      have HA9 : Hid (Row W9 w5.heap.size (.slice a7 (ps ++ qs).length c7) (ps ++ qs)) := by unfold Hid; rw [← hW9]; exact HA8.out.keep (fun _ _ => rfl)
      have HB9 : Hid (Below w.heap.size w W9) := by unfold Hid; rw [← hW9]; exact below_drewN HB8.out k9
      have HZ9 : Hid (w5.heap.size ≤ W9.heap.size) := by unfold Hid; rw [← hW9]; exact HZ8.out
      rw [hW9]
      clear hW9 HD8 HR8 HA8 HB8
      go_wp2_with fail
      go_loopw [13, 14] (fun tv ti wx => ∃ (i : Nat) (aa : Option Addr) (ca : Nat), i ≤ ql ∧ ti = .int .i64 i ∧ tv = .slice aa (ps ++ (qs ++ (qs.take i).map tn)).length ca ∧ Hid (Row wx w5.heap.size (.slice aa (ps ++ (qs ++ (qs.take i).map tn)).length ca) (ps ++ (qs ++ (qs.take i).map tn)) ∧ Row wx G (.slice (some ⟨G, 0, none⟩) (ql + 90) (ql + 90)) ((qs.take i).map tn ++ (qs.drop i ++ marks)) ∧ Dsk wx (w1.heap.size + 1) K u0 u8 ps (ps ++ qs) ps.length ps.length 1 (-1) 1 0 0 ∧ Below w.heap.size w wx ∧ w5.heap.size ≤ wx.heap.size ∧ (∀ g, (Value.slice aa (ps ++ (qs ++ (qs.take i).map tn)).length ca).ownBlock = some g → ¬ Foot K u0 u8 g))) (fun _ ti _ => ql - (intOf ti).toNat)
      case atStart => exact ⟨0, a7, c7, Nat.zero_le _, rfl, by simp, by simpa using HA9.out, by simpa using HR9.out, HD9.out, HB9.out, HZ9.out, by simpa using HF8.out.2⟩
      case round =>
        obtain ⟨j, aa, ca, hj, rfl, rfl, HJ⟩ := hrel
        by_cases hjt : j < ql
        · have hjt1 : (j : Int) < ql := by omega
          have k1 : wr.cell? ⟨G, j, none⟩ = some (.int .u8 (qs.getD j 0)) := by
            have h := HJ.out.2.1.slot (j := j) (by simp [marks]; have := HLQ.out; omega)
            rw [turned_at (by have := HLQ.out; omega)] at h
            exact h
          have k2 := HJ.out.2.1.thaw j
          have hjq : j < qs.length := by have := HLQ.out; omega
          obtain ⟨xs, hxs⟩ : ∃ xs, ps ++ (qs ++ (qs.take j).map tn) = xs := ⟨_, rfl⟩
          obtain ⟨nl, hnl⟩ : ∃ nl, xs.length = nl := ⟨_, rfl⟩
          obtain ⟨zz, hzz⟩ : ∃ zz, qs.getD j 0 = zz := ⟨_, rfl⟩
          have hst := HJ.out.2.1.stored j (tn zz)
          have hnx := turned_next (ps := ps) hjq
          rw [← hzz, turned_set hjq] at hst
          rw [hxs, hzz] at hnx
          rw [hzz] at hst k1
          rw [hxs, hnl] at HJ
          rw [hxs, hnl]
          have hGne : ∀ g, (Value.slice aa nl ca).ownBlock = some g → g ≠ G := fun g e h => by have := (HJ.out.1.lt e).1; have := HG5.out; omega
          have hW1 : Below G wr (wr.setCell ⟨G, j, none⟩ (.int .u8 (bits BinOp.xor IntKind.u8 IntKind.u8.max zz))) := (Below.refl _ _).setCell (p := ⟨G, j, none⟩) (Nat.le_refl _) _
          have hrow : Row ((wr.setCell ⟨G, j, none⟩ (.int .u8 (bits BinOp.xor IntKind.u8 IntKind.u8.max zz))).alloc (.cells #[.int .u8 (bits BinOp.xor IntKind.u8 IntKind.u8.max zz)] 5)) w5.heap.size (.slice aa nl ca) xs := (HJ.out.1.set (p := ⟨G, j, none⟩) (fun e => hGne G e rfl)).below ((Below.refl _ _).alloc (Nat.le_refl _) _)
          have hsz : (wr.setCell ⟨G, j, none⟩ (.int .u8 (bits BinOp.xor IntKind.u8 IntKind.u8.max zz))).heap.size = wr.heap.size := by simp
          have hone : Byts ((wr.setCell ⟨G, j, none⟩ (.int .u8 (bits BinOp.xor IntKind.u8 IntKind.u8.max zz))).alloc (.cells #[.int .u8 (bits BinOp.xor IntKind.u8 IntKind.u8.max zz)] 5)) (some ⟨wr.heap.size, 0, none⟩) 1 [bits BinOp.xor IntKind.u8 IntKind.u8.max zz] := by
            refine ⟨rfl, fun q hq => ⟨wr.heap.size, 0, rfl, by simp, ?_⟩⟩
            obtain rfl : q = 0 := by omega
            rw [cell_top hsz]
            rfl
          have hB5 : w5.heap.size ≤ ((wr.setCell ⟨G, j, none⟩ (.int .u8 (bits BinOp.xor IntKind.u8 IntKind.u8.max zz))).alloc (.cells #[.int .u8 (bits BinOp.xor IntKind.u8 IntKind.u8.max zz)] 5)).heap.size := by
            have h1 : w5.heap.size ≤ wr.heap.size := HJ.out.2.2.2.2.1
            simp
            omega
          obtain ⟨v', w', hrn, rn, gn, on⟩ := run_append_bytes (c := 1) hrow hone (fun e => by cases e) (by have h1 := congrArg List.length hxs; simp at h1; have := HLP.out; have := HLQ.out; omega) hB5 25
          rw [show [bits BinOp.xor IntKind.u8 IntKind.u8.max zz] = [tn zz] from rfl, hnx] at rn
          obtain ⟨an, cn, hvn, _⟩ := rn.slice
          subst hvn
          have hoffn := Off.of_grown gn
          have HN : Hid (Row w' w5.heap.size (.slice an (ps ++ (qs ++ (qs.take (j + 1)).map tn)).length cn) (ps ++ (qs ++ (qs.take (j + 1)).map tn)) ∧ Row w' G (.slice (some ⟨G, 0, none⟩) (ql + 90) (ql + 90)) ((qs.take (j + 1)).map tn ++ (qs.drop (j + 1) ++ marks)) ∧ Dsk w' (w1.heap.size + 1) K u0 u8 ps (ps ++ qs) ps.length ps.length 1 (-1) 1 0 0 ∧ Below w.heap.size w w' ∧ w5.heap.size ≤ w'.heap.size ∧ (∀ g, (Value.slice an (ps ++ (qs ++ (qs.take (j + 1)).map tn)).length cn).ownBlock = some g → ¬ Foot K u0 u8 g)) := by
            have hd1 := (HJ.out.2.2.1.off (P := fun k => k = G) (Off.setCell (P := fun k => k = G) (Off.refl _ _) (p := ⟨G, j, none⟩) rfl (.int .u8 (bits BinOp.xor IntKind.u8 IntKind.u8.max zz))) (fun k hk e => HF8.out.1 k hk e)).below ((Below.refl _ _).alloc (Nat.le_refl _) (.cells #[.int .u8 (bits BinOp.xor IntKind.u8 IntKind.u8.max zz)] 5))
            have hb1 : Below w.heap.size w ((wr.setCell ⟨G, j, none⟩ (.int .u8 (bits BinOp.xor IntKind.u8 IntKind.u8.max zz))).alloc (.cells #[.int .u8 (bits BinOp.xor IntKind.u8 IntKind.u8.max zz)] 5)) := (HJ.out.2.2.2.1.setCell (p := ⟨G, j, none⟩) HG5.out.2 _).alloc (by have := HJ.out.2.2.2.1.size; simp; omega) _
            have hg1 : Row ((wr.setCell ⟨G, j, none⟩ (.int .u8 (bits BinOp.xor IntKind.u8 IntKind.u8.max zz))).alloc (.cells #[.int .u8 (bits BinOp.xor IntKind.u8 IntKind.u8.max zz)] 5)) G (.slice (some ⟨G, 0, none⟩) (ql + 90) (ql + 90)) ((qs.take (j + 1)).map tn ++ (qs.drop (j + 1) ++ marks)) := Row.below hst ((Below.refl _ _).alloc (Nat.le_refl _) _)
            refine ⟨rn, hg1.keep (fun g e => hoffn.block g (hg1.lt e).2 (fun f => hGne g f (by simpa [Value.ownBlock] using e.symm))), hd1.off hoffn (fun k hk f => HJ.out.2.2.2.2.2 k f hk), hb1.trans (hoffn.below hb1.size (fun k f => by have := (hrow.lt f).1; have := HG5.out; omega)), Nat.le_trans hB5 hoffn.size, fun g e f => ?_⟩
            rcases on with on | on
            · rw [on] at e
              exact HJ.out.2.2.2.2.2 g e f
            · rw [on] at e
              have := (hd1.foot_lt f).2
              simp at e
              simp at this
              omega
          obtain ⟨nl2, hnl2⟩ : ∃ nl2, (ps ++ (qs ++ (qs.take (j + 1)).map tn)).length = nl2 := ⟨_, rfl⟩
          rw [hnl2] at HN hrn
          have HNL2 : Hid ((ps ++ (qs ++ (qs.take (j + 1)).map tn)).length = nl2) := hnl2
          clear hst hnx hGne hW1 hrow hone hB5 rn gn on hoffn hxs hnl hzz hnl2
          go_wp2_with (at_builtin; refine wpList_append_run rfl (.tmp 102) (.tmp 107) 25 _ rfl hrn ?_)
          go_roundw
          case rel => exact ⟨j + 1, an, cn, hjt, by go_num, by rw [HNL2.out], by rw [HNL2.out]; exact HN⟩
          case measure => simp [intOf]; omega
        · have hjt1 : ¬ (j : Int) < ql := by omega
          obtain rfl : j = ql := by omega
          have ht : qs.take j = qs := List.take_of_length_le (by have := HLQ.out; omega)
          have hdd : qs.drop j = [] := List.drop_eq_nil_iff.2 (by have := HLQ.out; omega)
          rw [ht, hdd] at HJ
          rw [ht]
          obtain ⟨nl, hnl⟩ : ∃ nl, (ps ++ (qs ++ qs.map tn)).length = nl := ⟨_, rfl⟩
          rw [hnl] at HJ
          rw [hnl]
          have HNL : Hid ((ps ++ (qs ++ qs.map tn)).length = nl) := hnl
          clear ht hdd hnl
          go_wp2_with fail
          have HR10 : Hid (Row wr G (.slice (some ⟨G, 0, none⟩) (j + 90) (j + 90)) (qs.map tn ++ marks)) := HJ.out.2.1
          have hby := (HR10.out.prefix (m := j) (by omega)).bytes
          rw [List.take_left' (show (qs.map tn).length = j by rw [List.length_map]; exact HLQ.out)] at hby
          refine (Append1_ok hby (fun e => by cases e) (fun b o e g => by simp at e; exact HF8.out.1 b g (by omega)) HJ.out.2.2.1 (by decide) (by have := HLP.out; have := HLQ.out; simp; omega)).mono ?_
          rintro e w10 ⟨rfl, u10, d10, t10⟩
          have hcat : (ps ++ qs) ++ qs.map tn = ps ++ (qs ++ qs.map tn) := List.append_assoc _ _ _
          rw [hcat] at d10
          have HD10 : Hid (Dsk w10 (w1.heap.size + 1) K u0 u10 ps (ps ++ (qs ++ qs.map tn)) ps.length ps.length 1 (-1) 2 0 0) := d10
          have HA10 : Hid (Row w10 w5.heap.size (.slice aa nl ca) (ps ++ (qs ++ qs.map tn))) := HJ.out.1.keep (fun g e => t10.off.block g (HJ.out.1.lt e).2 (HJ.out.2.2.2.2.2 g e))
          have HB10 : Hid (Below w.heap.size w w10) := HJ.out.2.2.2.1.trans (t10.off.below HJ.out.2.2.2.1.size (fun k f => by have := (HJ.out.2.2.1.foot_lt f).1; have := HS3.out; omega))
          clear hby d10 t10 HR10 HJ hcat
          go_wp2_with fail
          refine (Read1_ok HD10.out HNL.out.symm).mono ?_
          rintro e w11 ⟨xa, xn, xc, rfl, rx, b11⟩
          have HX11 : Hid (Row w11 w10.heap.size (.slice xa xn xc) (ps ++ (qs ++ qs.map tn))) := rx
          have HB11 : Hid (Below w10.heap.size w10 w11) := b11
          have HD11 : Hid (Dsk w11 (w1.heap.size + 1) K u0 u10 ps (ps ++ (qs ++ qs.map tn)) ps.length ps.length 1 (-1) 2 0 0) := HD10.out.below b11
          clear rx b11
          go_wp2_with fail
          refine (Read0_ok HD11.out HLP.out.symm).mono ?_
          rintro e w12 ⟨ya, yn, yc, rfl, ry, b12⟩
          have HY12 : Hid (Row w12 w11.heap.size (.slice ya yn yc) ps) := ry
          have HB12 : Hid (Below w11.heap.size w11 w12) := b12
          have HD12 : Hid (Dsk w12 (w1.heap.size + 1) K u0 u10 ps (ps ++ (qs ++ qs.map tn)) ps.length ps.length 1 (-1) 2 0 0) := HD11.out.below b12
          clear ry b12
          go_wp2_with fail
          refine (Image_ok HD12.out (Or.inl rfl)).mono ?_
          rintro e w13 ⟨a0, n0, c0, a1, n1, c1, rfl, r0, r1, b13⟩
          rw [List.take_length] at r0
          rw [List.take_left' rfl] at r1
          have HI13 : Hid (Row w13 w12.heap.size (.slice a0 n0 c0) ps ∧ Row w13 w12.heap.size (.slice a1 n1 c1) ps) := ⟨r0, r1⟩
          have HB13 : Hid (Below w12.heap.size w12 w13) := b13
          have HD13 : Hid (Dsk (w13.alloc (.cells #[.slice a0 n0 c0, .slice a1 n1 c1] 26)) (w1.heap.size + 1) K u0 u10 ps (ps ++ (qs ++ qs.map tn)) ps.length ps.length 1 (-1) 2 0 0) := (HD12.out.below b13).below ((Below.refl _ _).alloc (Nat.le_refl _) _)
          clear r0 r1 b13
          go_wp2_with fail
          refine (Len0_ok HD13.out (Or.inl rfl)).mono ?_
          rintro e w14 ⟨he, rfl⟩
          rw [HLP.out] at he
          subst he
          have hxn : xn = nl := HX11.out.byts'.1.trans HNL.out
          have hyn : yn = pl := HY12.out.byts'.1.trans HLP.out
          have hn0 : n0 = pl := HI13.out.1.byts'.1.trans HLP.out
          have hn1 : n1 = pl := HI13.out.2.byts'.1.trans HLP.out
          subst hxn hyn hn0 hn1
          obtain ⟨V, hV⟩ : ∃ V, w13.alloc (.cells #[.slice a0 n1 c0, .slice a1 n1 c1] 26) = V := ⟨_, rfl⟩
          have HE : Hid (Ends w V w13.heap.size xn n1 xa aa ya pa a0 a1 c0 c1 (ps ++ (qs ++ qs.map tn)) ps) := by
            unfold Hid
            have bV : Below w13.heap.size w13 V := by rw [← hV]; exact (Below.refl _ _).alloc (Nat.le_refl _) _
            have b12 := below_then HB12.out (below_then HB13.out bV)
            have b10 := below_then HB11.out b12
            exact ⟨(HX11.out.below b12).byts'.2.1, (HA10.out.below b10).byts'.2.1, (HY12.out.below (below_then HB13.out bV)).byts'.2.1, HP.out.below (below_then HB10.out b10), (HI13.out.1.below bV).byts'.2.1, (HI13.out.2.below bV).byts'.2.1, by rw [← hV]; simp, by rw [← hV]; simp, below_then HB10.out b10⟩
          rw [hV]
          clear hV HX11 HY12 HI13 HA10 HB10 HB11 HB12 HB13 HD10 HD11 HD12 HD13
          have hnl9 : xn ≤ 9223372036854775807 := by have h1 := HNL.out; simp at h1; have := HLP.out; have := HLQ.out; omega
          go_wp2_with fail
          refine (same_true HE.out.x HE.out.a hnl9).mono ?_
          rintro e V1 ⟨rfl, m1, hV1⟩
          have HE1 : Hid (Ends w V1 w13.heap.size xn n1 xa aa ya pa a0 a1 c0 c1 (ps ++ (qs ++ qs.map tn)) ps) := by unfold Hid; rw [hV1]; exact HE.out.drew m1
          clear hV1 HE
          go_wp2_with fail
          refine (same_true HE1.out.y HE1.out.p (by omega)).mono ?_
          rintro e V2 ⟨rfl, m2, hV2⟩
          have HE2 : Hid (Ends w V2 w13.heap.size xn n1 xa aa ya pa a0 a1 c0 c1 (ps ++ (qs ++ qs.map tn)) ps) := by unfold Hid; rw [hV2]; exact HE1.out.drew m2
          clear hV2 HE1
          have e0 := HE2.out.l0
          go_wp2_with fail
          refine (same_true HE2.out.i0 HE2.out.p (by omega)).mono ?_
          rintro e V3 ⟨rfl, m3, hV3⟩
          have HE3 : Hid (Ends w V3 w13.heap.size xn n1 xa aa ya pa a0 a1 c0 c1 (ps ++ (qs ++ qs.map tn)) ps) := by unfold Hid; rw [hV3]; exact HE2.out.drew m3
          clear hV3 HE2 e0
          have e1 := HE3.out.l1
          go_wp2_with fail
          refine (same_true HE3.out.i1 HE3.out.p (by omega)).mono ?_
          rintro e V4 ⟨rfl, m4, hV4⟩
          have HB14 : Hid (Below w.heap.size w V4) := by unfold Hid; rw [hV4]; exact (HE3.out.drew m4).b
          clear hV4 HE3 e1
          go_wp2_with fail
          go_ret
          exact ⟨rfl, HB14.out⟩
end Go.Proofs.Ytgabikgkpgpbbaa
