/-
  DecideMeets: the walk.
-/
import Derived.Test.YtjmjimbhoncidaaDoorDcMeet
namespace Go.Proofs.YtjmjimbhoncidaaDoor
open Go.RowKit

set_option maxRecDepth 100000 in
set_option maxHeartbeats 16000000 in
theorem meets_ff (D : DecOk) (e : Bool) (a p verdict copies x y d : Int) (cd : ByteArray) (w : World) (hV : PV w) (cR : ∀ w, Calls Tryd.prog 37 #[.agg #[.bool e, .int .i64 a, .int .i64 p]] w fun r w' => r = .returned (.agg #[.bool e, .int .i64 x, .int .i64 y]) ∧ Below w.heap.size w w') (ok : okB e x y = true) (hd : verdict.tmod 3 = d) (d0 : -2 ≤ d) (d1 : d ≤ 2) (hv : vcode cd)
    (hI : ∀ w : World, (Instr.index 87 (.agg #[.string ⟨#[65, 65]⟩, .string ⟨#[65, 69]⟩, .string ⟨#[65, 82]⟩]) (.int .i64 (d % 3))).run Tryd.prog w = .ok (.string cd) w) (hq : caB e x = false) (hs : sentB e x y cd = false) : Calls Tryd.prog 10 #[.agg #[.bool e, .int .i64 a, .int .i64 p], .int .i64 verdict, .int .i64 copies] w fun r w' => r = .returned (.bool true) ∧ Below w.heap.size w w' := by
  have HV : Hid (PV w) := hV
  have hcl : caL e x = [] := by unfold caL; rw [hq]; rfl
  have HH : Hid (okB e x y = true ∧ vcode cd ∧ caB e x = false ∧ sentB e x y cd = false ∧ caL e x = []) := ⟨ok, hv, hq, hs, hcl⟩
  obtain ⟨z1, hz1⟩ : ∃ z, z1S e x y = z := ⟨_, rfl⟩
  have HZ : Hid (z1S e x y = z1) := hz1
  have hst := start_z ok
  have cS := D.start e x y 3 false
  have hk1 := hear_take ok
  rw [hcl, hz1] at hk1
  have HK2 : Hid (hearL e x y (z1, 3) [] = (z1, 3)) := by have := hear_copy ok; rw [hcl, hz1] at this; exact this
  have HF : Hid (fitB e x y z1 3 = true) := by have := z1_fit (e := e) (x := x) (y := y); rw [hz1] at this; exact this
  obtain ⟨r0, hr0⟩ : ∃ r0, startS e x y 3 false = r0 := ⟨_, rfl⟩
  rw [hr0] at hst cS hk1
  obtain ⟨st0, lf0, l0, at0, n0⟩ := r0
  obtain ⟨-, g2, g3, g4⟩ := hst
  simp only at g2 g3 g4 hk1
  subst g2 g3
  have HS0 : Hid (fitB e x y st0 3 = true ∧ hearL e x y (st0, 3) ([] ++ [(8, nT)]) = (z1, 3)) := ⟨g4, hk1⟩
  have cT := D.take e x y
  rw [take_is ok hcl] at cT
  have cC := D.copy e x y false nT
  rw [copy0_is ok hcl] at cC
  have cJ := D.judge e x y false nT cd
  rw [judge_is ok hv hs, if_neg (by simp)] at cJ
  have cJ2 := D.judge e x y true cd cd
  rw [judge2_is ok] at cJ2
  have cC2 := D.copy e x y true cd
  rw [copy1_is ok hcl hv hs, if_neg (by simp)] at cC2
  have cO := D.owes e x y
  rw [ok, hq] at cO
  obtain ⟨qa, hqa⟩ : ∃ qa, aaB e y = qa := ⟨_, rfl⟩
  obtain ⟨qe, hqe⟩ : ∃ qe, earB e x y false = qe := ⟨_, rfl⟩
  simp only [hqa, hqe, Bool.true_and] at cO
  have HQA : Hid (aaB e y = qa) := hqa
  obtain ⟨K, hK⟩ : ∃ K, bits .and .i64 copies 3 = K := ⟨_, rfl⟩
  obtain ⟨K0, K3⟩ := i64_and3 copies
  rw [hK] at K0 K3
  clear hV ok hq hs hz1 hr0 g4 hk1 hqa hqe hv hcl
  go_enter Tryd.func10, Tryd.ntmps10
  go_wp2_with fail
  refine (heads_true D _ (HV.out.below ((Below.refl _ _).alloc (Nat.le_refl _) _))).mono ?_
  rintro _ w1 ⟨rfl, b1⟩
  have HB1 : Hid (Below w.heap.size w w1) := below_then ((Below.refl _ _).alloc (Nat.le_refl _) _) b1
  obtain ⟨l1, k1, f1⟩ := (Box.new w #[.bool e, .int .i64 a, .int .i64 p] 23).below b1
  clear b1 f1
  go_wp2_with fail
  refine (cR _).mono ?_
  rintro _ w2 ⟨rfl, b2⟩
  have HB2 : Hid (Below w.heap.size w w2) := below_then HB1.out b2
  clear b2 l1 k1 HB1 cR
  go_wp2_with fail
  refine (cS _ (HV.out.below (HB2.out.alloc HB2.out.size _))).mono ?_
  rintro _ w3 ⟨v3, ev3, rfl, _, g3, b3⟩
  obtain rfl := g3.nil
  have HB3 : Hid (Below w.heap.size w w3 ∧ Box w3 w2.heap.size #[.bool e, .int .i64 x, .int .i64 y]) := ⟨below_then (HB2.out.alloc HB2.out.size _) b3, (Box.new w2 #[.bool e, .int .i64 x, .int .i64 y] 23).below b3⟩
  obtain ⟨l3, k3, f3⟩ := HB3.out.2
  have HC : Hid (w.heap.size ≤ w2.heap.size) := HB2.out.size
  clear b3 g3 cS f3 hI hd d0 d1 HB2
  go_wp2_with fail
  refine (cT _ (HV.out.below (HB3.out.1.alloc HB3.out.1.size _))).mono ?_
  rintro _ w4 ⟨v4, ev4, rfl, r4, g4, b4⟩
  obtain rfl := g4.nil
  have HM : Hid (MI w e x y w2.heap.size w3.heap.size w4.heap.size st0 false nT v4 [(8, nT)] (w4.alloc (.cells #[.bool false, .string nT] 59))) := by
    have hb4 : Below w.heap.size w w4 := below_then (HB3.out.1.alloc HB3.out.1.size _) b4
    have hsz := b4.size
    simp at hsz
    have := HB3.out.2.lt
    have := HB3.out.1.size
    refine ⟨(HB3.out.2.alloc _ |>.below b4).alloc _, ((Box.new w3 _ _).below b4).alloc _, Box.new w4 _ _, (r4.mono (Nat.zero_le _)).below ((Below.refl _ _).alloc (Nat.le_refl _) _), fun g hg => ?_, hb4.alloc hb4.size _, by omega, hb4.size, by omega, by omega, by omega⟩
    have h1 := r4.ne hg
    have h2 := r4.lt hg
    simp at h1
    omega
  have XC : Box w4 w2.heap.size #[.bool e, .int .i64 x, .int .i64 y] := (HB3.out.2.alloc _).below b4
  obtain ⟨lC, kC, fC⟩ := XC
  have XW : Box w4 w3.heap.size #[.int .i64 st0, .int .i64 3] := (Box.new w3 #[.int .i64 st0, .int .i64 3] 50).below b4
  obtain ⟨lW, kW, fW⟩ := XW
  obtain ⟨vo, vc, hv4, hvc⟩ := r4.isSlice
  subst hv4
  obtain ⟨vb, vf, hap, hal, ka0, ka1⟩ := acts_at r4.acts (j := 0) rfl
  subst hap
  simp only [Nat.zero_mul, Nat.add_zero] at ka0 ka1
  clear r4 g4 b4 cT HB3 HC l3 k3
  go_wp2_with fail
  obtain ⟨W, hW⟩ : ∃ W, w4.alloc (.cells #[.bool false, .string ⟨#[]⟩] 59) = W := ⟨_, rfl⟩
  obtain ⟨C, hC⟩ : ∃ C, w2.heap.size = C := ⟨_, rfl⟩
  obtain ⟨Wb, hWb⟩ : ∃ Wb, w3.heap.size = Wb := ⟨_, rfl⟩
  obtain ⟨Kb, hKb⟩ : ∃ Kb, w4.heap.size = Kb := ⟨_, rfl⟩
  rw [hC, hWb, hKb] at HM
  rw [hW] at HM
  simp only [hW, hC, hWb, hKb]
  clear lC kC fC lW kW fW ka0 ka1 hal hW hC hWb hKb
  have hvc2 : 1 ≤ vc := hvc
  clear hvc
  obtain ⟨-, -, hCW, hCK, hWK⟩ := HM.out.old
  have hCW' : Wb ≠ C := fun h => hCW h.symm
  have hCK' : Kb ≠ C := fun h => hCK h.symm
  have hWK' : Kb ≠ Wb := fun h => hWK h.symm
  have ch : Calls Tryd.prog 39 #[.agg #[.bool e, .int .i64 x, .int .i64 y], .agg #[.int .i64 st0, .int .i64 3], .slice (some ⟨vb, vf, none⟩) 1 vc] W fun r w' => r = .returned (.tuple #[.agg #[.int .i64 z1, .int .i64 3], .bool true]) ∧ Below W.heap.size W w' := by
    have := heard_any D e x y st0 3 [(8, nT)] 0 (.slice (some ⟨vb, vf, none⟩) 1 vc) W (HV.out.below HM.out.bel) HH.out.1 HS0.out.1 HM.out.row.acts (by simp) (ca_sent HH.out.2.2.2.2 (Or.inr rfl))
    have h2 : hearL e x y (st0, 3) [(8, nT)] = (z1, 3) := HS0.out.2
    rw [h2] at this
    exact this
  refine ch.mono ?_
  rintro _ w5 ⟨rfl, b5⟩
  have HM5 : Hid (MI w e x y C Wb Kb st0 false nT (.slice (some ⟨vb, vf, none⟩) 1 vc) [(8, nT)] w5) := HM.out.below b5
  clear ch b5 HM
  obtain ⟨lC, kC, fC⟩ := HM5.out.cbox
  obtain ⟨lW, kW, fW⟩ := HM5.out.wbox
  obtain ⟨lK, kK, fK⟩ := HM5.out.kbox
  have HP : Hid (MI w e x y C Wb Kb z1 false nT (.slice (some ⟨vb, vf, none⟩) 1 vc) [(8, nT)] ((w5.setCell ⟨Wb, 0, none⟩ (.int .i64 z1)).setCell ⟨Wb, 1, none⟩ (.int .i64 3))) := HM5.out.putW z1
  go_wp2_with fail
  obtain ⟨W5, hW5⟩ : ∃ W5, ((w5.setCell ⟨Wb, 0, none⟩ (.int .i64 z1)).setCell ⟨Wb, 1, none⟩ (.int .i64 3)) = W5 := ⟨_, rfl⟩
  rw [hW5] at HP
  simp only [hW5]
  clear hW5 HM5
  clear lC kC fC lW kW fW lK kK fK
  go_loopw [16] (fun t16 wx => ∃ i : Nat, (i : Int) ≤ K ∧ t16 = .int .i64 i ∧ Hid (MI w e x y C Wb Kb z1 false nT (.slice (some ⟨vb, vf, none⟩) 1 vc) [(8, nT)] wx)) (fun t16 _ => (K - intOf t16).toNat)
  case atStart => exact ⟨0, by omega, rfl, HP⟩
  case round =>
    clear HP
    obtain ⟨i, hi, rfl, HI⟩ := hrel
    obtain ⟨lC, kC, fC⟩ := HI.out.cbox
    obtain ⟨lW, kW, fW⟩ := HI.out.wbox
    obtain ⟨lK, kK, fK⟩ := HI.out.kbox
    by_cases hlt : (i : Int) < K
    · go_wp2_with fail
      refine (cC _ (HV.out.below HI.out.bel)).mono ?_
      rintro _ w6 ⟨v6, ev6, rfl, r6, g6, b6⟩
      obtain rfl := g6.nil
      have H6 : Hid (MI w e x y C Wb Kb z1 false nT (.slice (some ⟨vb, vf, none⟩) 1 vc) [(8, nT)] w6 ∧ ActRow w6 0 v6 [] ∧ ∀ g, v6.ownBlock = some g → g ≠ Wb) := ⟨HI.out.below b6, r6.mono (Nat.zero_le _), fun g hg => by have := r6.ne hg; omega⟩
      clear lC kC fC lW kW fW lK kK fK
      clear r6 g6 b6 HI
      have HM6 : Hid (MI w e x y C Wb Kb z1 false nT (.slice (some ⟨vb, vf, none⟩) 1 vc) [(8, nT)] w6) := H6.out.1
      obtain ⟨lC, kC, fC⟩ := HM6.out.cbox
      obtain ⟨lW, kW, fW⟩ := HM6.out.wbox
      obtain ⟨lK, kK, fK⟩ := HM6.out.kbox
      have ch : Calls Tryd.prog 39 #[.agg #[.bool e, .int .i64 x, .int .i64 y], .agg #[.int .i64 z1, .int .i64 3], v6] w6 fun r w' => r = .returned (.tuple #[.agg #[.int .i64 z1, .int .i64 3], .bool true]) ∧ Below w6.heap.size w6 w' := by
        have := heard_any D e x y z1 3 [] 0 v6 w6 (HV.out.below H6.out.1.bel) HH.out.1 HF.out H6.out.2.1.acts (by simp) (ca_sent HH.out.2.2.2.2 (Or.inl rfl))
        rw [HK2.out] at this
        exact this
      go_wp2_with fail
      refine ch.mono ?_
      rintro _ w7 ⟨rfl, b7⟩
      have HM7 : Hid (MI w e x y C Wb Kb z1 false nT (.slice (some ⟨vb, vf, none⟩) 1 vc) [(8, nT)] w7) := HM6.out.below b7
      have HP : Hid (MI w e x y C Wb Kb z1 false nT (.slice (some ⟨vb, vf, none⟩) 1 vc) [(8, nT)] ((w7.setCell ⟨Wb, 0, none⟩ (.int .i64 z1)).setCell ⟨Wb, 1, none⟩ (.int .i64 3)) ∧ ActRow ((w7.setCell ⟨Wb, 0, none⟩ (.int .i64 z1)).setCell ⟨Wb, 1, none⟩ (.int .i64 3)) 0 v6 []) := ⟨HM7.out.putW z1, ((H6.out.2.1.below b7).set H6.out.2.2).set H6.out.2.2⟩
      clear ch b7 HM6 H6
      clear lC kC fC lW kW fW lK kK fK
      obtain ⟨lC, kC, fC⟩ := HM7.out.cbox
      obtain ⟨lW, kW, fW⟩ := HM7.out.wbox
      obtain ⟨lK, kK, fK⟩ := HM7.out.kbox
      go_wp2_with fail
      obtain ⟨W7, hW7⟩ : ∃ W7, ((w7.setCell ⟨Wb, 0, none⟩ (.int .i64 z1)).setCell ⟨Wb, 1, none⟩ (.int .i64 3)) = W7 := ⟨_, rfl⟩
      rw [hW7] at HP
      simp only [hW7]
      clear hW7 HM7
      clear lC kC fC lW kW fW lK kK fK
      refine (same_true (N := 0) (M := 0) (l := []) HP.out.2.acts (HP.out.1.row.acts.take 0 (by decide)) (by simp)).mono ?_
      rintro _ _ ⟨rfl, mm, rfl⟩
      go_wp2_with fail
      go_roundw
      case rel => exact ⟨i + 1, by omega, by go_num, HP.out.1.drewN mm⟩
      case measure => simp [intOf]; omega
    · go_wp2_with fail
      refine (cJ _ (HV.out.below HI.out.bel)).mono ?_
      rintro _ w8 ⟨v8, ev8, rfl, r8, g8, b8⟩
      obtain rfl := g8.nil
      have H8 : Hid (MI w e x y C Wb Kb z1 false nT (.slice (some ⟨vb, vf, none⟩) 1 vc) [(8, nT)] w8 ∧ ActRow w8 0 v8 [] ∧ ∀ g, v8.ownBlock = some g → g ≠ Kb ∧ g ≠ Wb) := ⟨HI.out.below b8, r8.mono (Nat.zero_le _), fun g hg => by have := r8.ne hg; omega⟩
      clear lC kC fC lW kW fW lK kK fK
      clear r8 g8 b8 HI
      have HM8 : Hid (MI w e x y C Wb Kb z1 false nT (.slice (some ⟨vb, vf, none⟩) 1 vc) [(8, nT)] w8) := H8.out.1
      obtain ⟨lC, kC, fC⟩ := HM8.out.cbox
      obtain ⟨lW, kW, fW⟩ := HM8.out.wbox
      obtain ⟨lK, kK, fK⟩ := HM8.out.kbox
      have HP : Hid (MI w e x y C Wb Kb z1 true cd (.slice (some ⟨vb, vf, none⟩) 1 vc) [(8, nT)] ((w8.setCell ⟨Kb, 0, none⟩ (.bool true)).setCell ⟨Kb, 1, none⟩ (.string cd)) ∧ ActRow ((w8.setCell ⟨Kb, 0, none⟩ (.bool true)).setCell ⟨Kb, 1, none⟩ (.string cd)) 0 v8 []) := ⟨HM8.out.putK true cd, (H8.out.2.1.set (fun g hg => (H8.out.2.2 g hg).1)).set (fun g hg => (H8.out.2.2 g hg).1)⟩
      have H82 : Hid (∀ g, v8.ownBlock = some g → g ≠ Wb) := fun g hg => (H8.out.2.2 g hg).2
      go_wp2_with fail
      obtain ⟨W8, hW8⟩ : ∃ W8, ((w8.setCell ⟨Kb, 0, none⟩ (.bool true)).setCell ⟨Kb, 1, none⟩ (.string cd)) = W8 := ⟨_, rfl⟩
      rw [hW8] at HP
      simp only [hW8]
      clear hW8 HM8 H8
      clear lC kC fC lW kW fW lK kK fK
      refine (cJ2 _ (HV.out.below HP.out.1.bel)).mono ?_
      rintro _ w9 ⟨v9, ev9, rfl, _, g9, b9⟩
      obtain ⟨fb, rfl⟩ := g9.some (by decide)
      have H9 : Hid (MI w e x y C Wb Kb z1 true cd (.slice (some ⟨vb, vf, none⟩) 1 vc) [(8, nT)] w9 ∧ ActRow w9 0 v8 []) := ⟨HP.out.1.below b9, HP.out.2.below b9⟩
      clear g9 b9 HP
      have HM9 : Hid (MI w e x y C Wb Kb z1 true cd (.slice (some ⟨vb, vf, none⟩) 1 vc) [(8, nT)] w9) := H9.out.1
      obtain ⟨lC, kC, fC⟩ := HM9.out.cbox
      obtain ⟨lW, kW, fW⟩ := HM9.out.wbox
      obtain ⟨lK, kK, fK⟩ := HM9.out.kbox
      go_wp2_with fail
      refine (cC2 _ (HV.out.below H9.out.1.bel)).mono ?_
      rintro _ w10 ⟨v10, ev10, rfl, r10, g10, b10⟩
      obtain rfl := g10.nil
      have H10 : Hid (MI w e x y C Wb Kb z1 true cd (.slice (some ⟨vb, vf, none⟩) 1 vc) [(8, nT)] w10 ∧ ActRow w10 0 v8 [] ∧ ActRow w10 0 v10 []) := ⟨H9.out.1.below b10, H9.out.2.below b10, r10.mono (Nat.zero_le _)⟩
      clear lC kC fC lW kW fW lK kK fK
      clear r10 g10 b10 H9 HM9
      obtain ⟨a11, c11, w11, e11, r11, b11⟩ := run_aapp (N := 0) (ActRow.empty w10 w10.heap.size w10.heap.size rfl (Nat.le_refl _)) (by simp) ((H10.out.1.row.below ((Below.refl _ _).alloc (Nat.le_refl _) (.cells #[] 85))).acts.take 0 (by decide)) (by simp)
      have k11 : Hid (MI w e x y C Wb Kb z1 true cd (.slice (some ⟨vb, vf, none⟩) 1 vc) [(8, nT)] w11 ∧ ActRow w11 0 v8 [] ∧ ActRow w11 0 v10 [] ∧ w10.heap.size ≤ w11.heap.size ∧ (C < w10.heap.size ∧ Wb < w10.heap.size ∧ Kb < w10.heap.size)) := by
        have hA : Below w10.heap.size w10 w11 := ((Below.refl _ _).alloc (Nat.le_refl _) _).trans b11
        exact ⟨H10.out.1.below hA, H10.out.2.1.below hA, H10.out.2.2.below hA, hA.size, H10.out.1.cbox.lt, H10.out.1.wbox.lt, H10.out.1.kbox.lt⟩
      obtain ⟨v8o, v8c, hv8, _⟩ := k11.out.2.1.isSlice
      subst hv8
      obtain ⟨a12, c12, w12, e12, r12, b12⟩ := run_aapp (N := 0) r11 k11.out.2.2.2.1 k11.out.2.1.acts (by simp)
      have H12 : Hid (MI w e x y C Wb Kb z1 true cd (.slice (some ⟨vb, vf, none⟩) 1 vc) [(8, nT)] w12 ∧ ActRow w12 0 (.slice v8o 0 v8c) [] ∧ ActRow w12 0 v10 [] ∧ ActRow w12 w10.heap.size (.slice a12 0 c12) []) := by
        have hA : Below w10.heap.size w10 w12 := (((Below.refl _ _).alloc (Nat.le_refl _) _).trans b11).trans b12
        exact ⟨H10.out.1.below hA, H10.out.2.1.below hA, H10.out.2.2.below hA, r12⟩
      have g11 : (Builtin.append_ #[51, 51] 51 #[.slice (some ⟨w10.heap.size, 0, none⟩) 0 0, .slice (some ⟨vb, vf, none⟩) 0 vc]).run Tryd.prog (w10.alloc (.cells #[] 85)) = .ok (.slice a11 0 c11) w11 := e11
      have g12 : (Builtin.append_ #[51, 51] 51 #[.slice a11 0 c11, .slice v8o 0 v8c]).run Tryd.prog w11 = .ok (.slice a12 0 c12) w12 := e12
      clear e11 e12 r11 r12 b11 b12 k11 H10
      go_wp2_with (first | (at_builtin; refine wpList_append_want (by rfl) (.tmp 149) (.tmp 154) 51 _ rfl g11 ?_) | (at_builtin; refine wpList_append_want (by rfl) (.tmp 155) (.tmp 156) 51 _ rfl g12 ?_))
      refine (same_true (N := 0) (M := w10.heap.size) (l := []) H12.out.2.2.1.acts H12.out.2.2.2.acts (by simp)).mono ?_
      rintro _ _ ⟨rfl, mm, rfl⟩
      have HM13 : Hid (MI w e x y C Wb Kb z1 true cd (.slice (some ⟨vb, vf, none⟩) 1 vc) [(8, nT)] (w12.drewN mm)) := H12.out.1.drewN mm
      obtain ⟨lC, kC, fC⟩ := HM13.out.cbox
      obtain ⟨lW, kW, fW⟩ := HM13.out.wbox
      obtain ⟨lK, kK, fK⟩ := HM13.out.kbox
      have ch : Calls Tryd.prog 39 #[.agg #[.bool e, .int .i64 x, .int .i64 y], .agg #[.int .i64 z1, .int .i64 3], .slice v8o 0 v8c] (w12.drewN mm) fun r w' => r = .returned (.tuple #[.agg #[.int .i64 z1, .int .i64 3], .bool true]) ∧ Below (w12.drewN mm).heap.size (w12.drewN mm) w' := by
        have := heard_any D e x y z1 3 [] 0 (.slice v8o 0 v8c) (w12.drewN mm) (HV.out.below HM13.out.bel) HH.out.1 HF.out (H12.out.2.1.acts.drewN mm) (by simp) (fun z hz _ => by cases hz)
        have h2 : hearL e x y (z1, 3) [] = (z1, 3) := by rfl
        rw [h2] at this
        exact this
      go_wp2_with fail
      refine ch.mono ?_
      rintro _ w14 ⟨rfl, b14⟩
      have HM14 : Hid (MI w e x y C Wb Kb z1 true cd (.slice (some ⟨vb, vf, none⟩) 1 vc) [(8, nT)] w14) := HM13.out.below b14
      have HP : Hid (MI w e x y C Wb Kb z1 true cd (.slice (some ⟨vb, vf, none⟩) 1 vc) [(8, nT)] ((w14.setCell ⟨Wb, 0, none⟩ (.int .i64 z1)).setCell ⟨Wb, 1, none⟩ (.int .i64 3)) ∧ ActRow ((w14.setCell ⟨Wb, 0, none⟩ (.int .i64 z1)).setCell ⟨Wb, 1, none⟩ (.int .i64 3)) 0 (.slice v8o 0 v8c) []) := ⟨HM14.out.putW z1, (((H12.out.2.1.drewN mm).below b14).set H82.out).set H82.out⟩
      clear ch b14 HM13 H12
      clear lC kC fC lW kW fW lK kK fK
      obtain ⟨lC, kC, fC⟩ := HM14.out.cbox
      obtain ⟨lW, kW, fW⟩ := HM14.out.wbox
      obtain ⟨lK, kK, fK⟩ := HM14.out.kbox
      go_wp2_with fail
      obtain ⟨W14, hW14⟩ : ∃ W14, ((w14.setCell ⟨Wb, 0, none⟩ (.int .i64 z1)).setCell ⟨Wb, 1, none⟩ (.int .i64 3)) = W14 := ⟨_, rfl⟩
      rw [hW14] at HP
      simp only [hW14]
      clear hW14 HM14
      clear lC kC fC lW kW fW lK kK fK
      refine (cO _ (HV.out.below HP.out.1.bel)).mono ?_
      rintro _ w15 ⟨ev15, rfl, g15, b15⟩
      unfold errN at g15
      rw [HH.out.1, if_pos rfl] at g15
      obtain rfl := g15.nil
      have H15 : Hid (MI w e x y C Wb Kb z1 true cd (.slice (some ⟨vb, vf, none⟩) 1 vc) [(8, nT)] w15 ∧ ActRow w15 0 (.slice v8o 0 v8c) []) := ⟨HP.out.1.below b15, HP.out.2.below b15⟩
      clear g15 b15 HP
      have HM15 : Hid (MI w e x y C Wb Kb z1 true cd (.slice (some ⟨vb, vf, none⟩) 1 vc) [(8, nT)] w15) := H15.out.1
      obtain ⟨lC, kC, fC⟩ := HM15.out.cbox
      obtain ⟨lW, kW, fW⟩ := HM15.out.wbox
      obtain ⟨lK, kK, fK⟩ := HM15.out.kbox
      have hset : Hid ((z1 == 4) = (false && !qa && !(y == 2))) := by have := settled e x y; rw [HZ.out, HH.out.2.2.1, HQA.out] at this; exact this
      cases qa with
      | true =>
        have z4 : (z1 == 4) = false := by rw [hset.out]; simp
        go_wp2_with fail
        all_goals (go_ret; exact ⟨rfl, HM15.out.bel⟩)
      | false =>
        cases hy2 : (y == 2) with
        | true =>
          have z4 : (z1 == 4) = false := by rw [hset.out, hy2]; simp
          have ny : (y != 2) = false := by simpa using hy2
          go_wp2_with fail
          all_goals (go_ret; exact ⟨rfl, HM15.out.bel⟩)
        | false =>
          have z4 : (z1 == 4) = false := by rw [hset.out, hy2]; simp
          have ny : (y != 2) = true := by simpa using hy2
          go_wp2_with fail
          all_goals (go_ret; exact ⟨rfl, HM15.out.bel⟩)
end Go.Proofs.YtjmjimbhoncidaaDoor
