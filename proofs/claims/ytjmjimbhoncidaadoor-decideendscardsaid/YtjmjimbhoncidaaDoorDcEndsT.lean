/-
  DecideEnds: the walk.
-/
import Derived.Test.YtjmjimbhoncidaaDoorDcEnds
namespace Go.Proofs.YtjmjimbhoncidaaDoor
open Go.RowKit

set_option maxRecDepth 100000 in
set_option maxHeartbeats 16000000 in
theorem ends_true (D : DecOk) (e : Bool) (a p tries : Int) (ao : Option Addr) (cap : Nat) (xs : List (Bool × ByteArray × Bool)) (w : World) (hV : PV w) (hS : Stps w ao xs) (hn : xs.length ≤ 140737488355328) : Calls Tryd.prog 9 #[.agg #[.bool e, .int .i64 a, .int .i64 p], .int .i64 tries, .bool true, .slice ao xs.length cap] w fun r w' => r = .returned (.bool true) ∧ Below w.heap.size w w' := by
  have HV : Hid (PV w ∧ Stps w ao xs) := ⟨hV, hS⟩
  obtain ⟨n, hl⟩ : ∃ n, xs.length = n := ⟨_, rfl⟩
  rw [hl] at hn ⊢
  have HL : Hid (xs.length = n) := hl
  obtain ⟨d, hd⟩ : ∃ d, tries.tmod 17 = d := ⟨_, rfl⟩
  obtain ⟨d0, d1⟩ := tmod17 tries
  rw [hd] at d0 d1
  clear hV hS hl
  go_enter Tryd.func9, Tryd.ntmps9
  go_wp2_with fail
  refine (heads_true D _ (HV.out.1.below ((Below.refl _ _).alloc (Nat.le_refl _) _))).mono ?_
  rintro _ w1 ⟨rfl, b1⟩
  have HB1 : Hid (Below w.heap.size w w1) := below_then ((Below.refl _ _).alloc (Nat.le_refl _) _) b1
  obtain ⟨l1, k1, f1⟩ := (Box.new w #[.bool e, .int .i64 a, .int .i64 p] 23).below b1
  clear b1 f1
  go_wp2_with fail
  refine (right_any e a p _).mono ?_
  rintro _ w2 ⟨x, y, rfl, ok, b2⟩
  have HB2 : Hid (Below w.heap.size w w2) := below_then HB1.out b2
  clear b2 l1 k1 HB1
  obtain ⟨q, hq⟩ : ∃ q, caB e x = q := ⟨_, rfl⟩
  have cm := may_ca D e x y q ok.out hq
  have HQ : Hid (caB e x = q) := hq
  clear hq
  go_wp2_with fail
  obtain ⟨T, hT⟩ : ∃ T, (d + 17) % 17 = T := ⟨_, rfl⟩
  have T0 : 0 ≤ T := by omega
  have T1 : T ≤ 16 := by omega
  simp only [hT]
  clear hT hd d0 d1
  have hsr := startS_run (noted := q) ok.out ⟨T0, T1⟩ (fun h => by rw [HQ.out]; exact h)
  have cs := D.start e x y T q
  obtain ⟨z, hz⟩ : ∃ z, startS e x y T q = z := ⟨_, rfl⟩
  rw [hz] at hsr cs
  clear hz
  obtain ⟨st0, lf0, l0, at0, n0⟩ := z
  obtain ⟨e1, e2, e3, e4, e5⟩ := hsr
  simp only at e1 e2 e3 e4 e5
  subst e1 e2
  have HE : Hid (fitB e x y st0 lf0 = true ∧ cnt 4 l0 = (if 4 ≤ st0 then 1 else 0)) := ⟨e3, e4⟩
  have HE5 : Hid (l0.length ≤ 3) := e5
  clear e3 e4 e5
  refine (cm _ (HV.out.1.below (HB2.out.alloc HB2.out.size _))).mono ?_
  rintro _ w3 ⟨rfl, b3⟩
  have HB3 : Hid (Below w.heap.size w w3) := below_then (HB2.out.alloc HB2.out.size _) b3
  have X3 : Hid (Box w3 w2.heap.size #[.bool e, .int .i64 x, .int .i64 y]) := (Box.new w2 #[.bool e, .int .i64 x, .int .i64 y] 23).below b3
  obtain ⟨l3, k3, f3⟩ := X3.out
  have HC : Hid (w.heap.size ≤ w2.heap.size) := HB2.out.size
  clear b3 cm HB2 f3
  go_wp2_with fail
  refine (cs _ (HV.out.1.below HB3.out)).mono ?_
  rintro _ w4 ⟨v4, ev4, rfl, r4, g4, b4⟩
  obtain rfl := g4.nil
  have HI0 : Hid (EI w e x y lf0 ao xs n w2.heap.size w4.heap.size 0 st0 lf0 (w4.alloc (.cells #[.int .i64 st0, .int .i64 lf0] 50))) := by
    have hB4 : Below w.heap.size w w4 := below_then HB3.out b4
    have hx := X3.out.below b4
    refine ⟨hx.alloc _, Box.new w4 _ _, hB4.alloc hB4.size _, ⟨hB4.size, by have := hx.lt; omega⟩, HE.out.1, Int.le_refl _, fun h0 => ?_, HV.out.2.below (hB4.alloc hB4.size _)⟩
    have := (need_bd HE.out.1).2.1
    omega
  have K4 : Hid (ActRow w4 0 v4 l0) := r4.mono (Nat.zero_le _)
  clear r4 g4 b4 cs HB3 X3 l3 k3
  go_wp2_with fail
  refine (finals_any (K4.out.below ((Below.refl _ _).alloc (Nat.le_refl _) _)).acts HE5.out).mono ?_
  rintro _ _ ⟨rfl, rfl⟩
  obtain ⟨c0, hc0⟩ : ∃ c0, cnt 4 l0 = c0 := ⟨_, rfl⟩
  have HC0 : Hid (c0 = (if 4 ≤ st0 then 1 else 0)) := by unfold Hid; rw [← hc0]; exact HE.out.2
  rw [hc0]
  have HW4 : Hid (w.heap.size ≤ w4.heap.size) := HI0.out.old.1
  obtain ⟨W0, hW0⟩ : ∃ W0, w4.alloc (.cells #[.int .i64 st0, .int .i64 lf0] 50) = W0 := ⟨_, rfl⟩
  obtain ⟨Wb, hWb⟩ : ∃ Wb, w4.heap.size = Wb := ⟨_, rfl⟩
  obtain ⟨C, hC⟩ : ∃ C, w2.heap.size = C := ⟨_, rfl⟩
  rw [hW0, hWb, hC] at HI0
  simp only [hW0, hWb, hC]
  clear hW0 hWb hC K4 HE HE5 HC HW4 hc0
  go_wp2_with fail
  go_loopw [15, 16] (fun t15 t16 wx => ∃ (i : Nat) (st lf En : Int), (i : Int) ≤ n + lf0 + 2 ∧ t16 = .int .i64 i ∧ t15 = .int .i64 En ∧ Hid (En = (if 4 ≤ st then 1 else 0)) ∧ Hid (EI w e x y lf0 ao xs n C Wb i st lf wx)) (fun _ t16 _ => ((n : Int) + lf0 + 2 - intOf t16).toNat)
  case atStart => exact ⟨0, st0, lf0, c0, by omega, rfl, rfl, HC0, HI0⟩
  case round =>
    clear HI0 HC0
    obtain ⟨i, st, lf, En, hi, rfl, rfl, HEn, HI⟩ := hrel
    have hst := HI.out.st
    by_cases hlt : (i : Int) < n + lf0 + 2
    · obtain ⟨lC, kC, fC⟩ := HI.out.box
      obtain ⟨lW, kW, fW⟩ := HI.out.wbox
      have hCW : C ≠ Wb := HI.out.old.2
      have hCW' : Wb ≠ C := fun h => hCW h.symm
      obtain ⟨s1, s2, s3, s4⟩ := hst
      by_cases hni : (i : Int) < n
      · obtain ⟨⟨du, cd, nb⟩, hx⟩ : ∃ z, xs[i]? = some z := ⟨_, List.getElem?_eq_getElem (by rw [HL.out]; omega)⟩
        obtain ⟨sb, so, rfl, sl, y0, y1, y2⟩ := HI.out.stps i _ hx
        simp only at y0 y1 y2
        clear hx
        cases du with
        | true =>
          have hr := (dueS_run ok.out HI.out.fit).1
          have hp : n ≤ i → need (dueS e x y st lf).st (dueS e x y st lf).lf ≤ need st lf - 1 ∨ 4 ≤ (dueS e x y st lf).st := fun _ => (dueS_run ok.out HI.out.fit).2
          have cc := D.due e x y st lf
          obtain ⟨r, hre⟩ : ∃ r, dueS e x y st lf = r := ⟨_, rfl⟩
          rw [hre] at hr hp cc
          clear hre
          have HR : Hid (RunOk e x y st lf r ∧ (n ≤ i → need r.st r.lf ≤ need st lf - 1 ∨ 4 ≤ r.st)) := ⟨hr, hp⟩
          clear hr hp
          obtain ⟨st2, lf2, l2, at2, n2⟩ := r
          obtain rfl : n2 = 0 := HR.out.1.n
          go_wp2_with fail
          refine (cc _ (HV.out.1.below ((HI.out.bel.alloc HI.out.bel.size _).alloc (by have := HI.out.bel.size; first | omega | (simp; omega)) _))).mono ?_
          rintro _ w5 ⟨v5, ev5, rfl, r5, g5, b5⟩
          obtain rfl := g5.nil
          have HB5 : Hid (Below w.heap.size w w5) := below_then ((HI.out.bel.alloc HI.out.bel.size _).alloc (by have := HI.out.bel.size; first | omega | (simp; omega)) _) b5
          have X5 : Hid (Box w5 C #[.bool e, .int .i64 x, .int .i64 y]) := ((HI.out.box.alloc _).alloc _).below b5
          have Y5 : Hid (Box w5 Wb #[.int .i64 st, .int .i64 lf]) := ((HI.out.wbox.alloc _).alloc _).below b5
          have Z5 : Hid (Box w5 (wr.heap.size + 1) #[.int .i64 st, .int .i64 lf]) := (Box.new' (wr.alloc _) #[.int .i64 st, .int .i64 lf] 50 (wr.heap.size + 1) (by simp)).below b5
          have K5 : Hid (ActRow w5 0 v5 l2 ∧ (∀ g, v5.ownBlock = some g → g ≠ Wb) ∧ wr.heap.size + 1 ≠ Wb) := ⟨r5.mono (Nat.zero_le _), fun g hg => by have := r5.ne hg; simp at this; omega, by omega⟩
          have S5 : Hid (Stps w5 _ xs) := ((HI.out.stps.below ((Below.refl _ _).alloc (Nat.le_refl _) _)).below ((Below.refl _ _).alloc (Nat.le_refl _) _)).below b5
          clear r5 g5 b5 cc lC kC fC lW kW fW y0 y1 y2 sl
          obtain ⟨lC, kC, fC⟩ := X5.out
          obtain ⟨lW, kW, fW⟩ := Y5.out
          obtain ⟨lZ, kZ, fZ⟩ := Z5.out
          have P5 : Hid (Box ((w5.setCell ⟨Wb, 0, none⟩ (.int .i64 st2)).setCell ⟨Wb, 1, none⟩ (.int .i64 lf2)) C #[.bool e, .int .i64 x, .int .i64 y] ∧ Box ((w5.setCell ⟨Wb, 0, none⟩ (.int .i64 st2)).setCell ⟨Wb, 1, none⟩ (.int .i64 lf2)) Wb #[.int .i64 st2, .int .i64 lf2] ∧ Box ((w5.setCell ⟨Wb, 0, none⟩ (.int .i64 st2)).setCell ⟨Wb, 1, none⟩ (.int .i64 lf2)) (wr.heap.size + 1) #[.int .i64 st, .int .i64 lf] ∧ ActRow ((w5.setCell ⟨Wb, 0, none⟩ (.int .i64 st2)).setCell ⟨Wb, 1, none⟩ (.int .i64 lf2)) 0 v5 l2 ∧ Below w.heap.size w ((w5.setCell ⟨Wb, 0, none⟩ (.int .i64 st2)).setCell ⟨Wb, 1, none⟩ (.int .i64 lf2)) ∧ Stps ((w5.setCell ⟨Wb, 0, none⟩ (.int .i64 st2)).setCell ⟨Wb, 1, none⟩ (.int .i64 lf2)) _ xs) :=
            ⟨(X5.out.off _ hCW').off _ hCW', Y5.out.put2 _ _, (Z5.out.off _ K5.out.2.2.symm).off _ K5.out.2.2.symm, (K5.out.1.set K5.out.2.1).set K5.out.2.1, (HB5.out.setCell HI.out.old.1 _).setCell HI.out.old.1 _, S5.out.put HV.out.2 HI.out.old.1⟩
          go_wp2_with fail
          obtain ⟨W, hW⟩ : ∃ W, ((w5.setCell ⟨Wb, 0, none⟩ (.int .i64 st2)).setCell ⟨Wb, 1, none⟩ (.int .i64 lf2)) = W := ⟨_, rfl⟩
          obtain ⟨Zb, hZb⟩ : ∃ Zb, wr.heap.size + 1 = Zb := ⟨_, rfl⟩
          rw [hW, hZb] at P5
          simp only [hW, hZb]
          clear hW hZb lC kC fC lW kW fW lZ kZ fZ X5 Y5 Z5 K5 S5 HB5
          obtain ⟨ao5, c5, rfl, hc5⟩ := P5.out.2.2.2.1.isSlice
          obtain ⟨m, hm⟩ : ∃ m, l2.length = m := ⟨_, rfl⟩
          have HM : Hid (l2.length = m) := hm
          have m3 : m ≤ 3 := by rw [← hm]; exact HR.out.1.len
          rw [hm] at P5 hc5
          simp only [hm]
          clear hm
          obtain ⟨lC, kC, fC⟩ := P5.out.1
          obtain ⟨lW, kW, fW⟩ := P5.out.2.1
          obtain ⟨lZ, kZ, fZ⟩ := P5.out.2.2.1
          go_loop [19, 20] (fun tn ti => ∃ j : Nat, j ≤ m ∧ ti = .int .i64 j ∧ tn = .int .i64 (cnt 1 (l2.take j))) (fun _ ti => m - (intOf ti).toNat)
          case atStart => exact ⟨0, Nat.zero_le _, rfl, rfl⟩
          case round =>
            obtain ⟨j, hj, rfl, rfl⟩ := hrel
            have hb := cnt_bd 1 (l2.take j)
            have hb2 : (l2.take j).length ≤ 3 := by rw [List.length_take]; omega
            obtain ⟨q1, hq1⟩ : ∃ q, cnt 1 (l2.take j) = q := ⟨_, rfl⟩
            rw [hq1] at hb
            by_cases hjl : j < m
            · obtain ⟨⟨k, s⟩, hy⟩ : ∃ y, l2[j]? = some y := ⟨_, List.getElem?_eq_getElem (by rw [HM.out]; exact hjl)⟩
              obtain ⟨ap, cp, hv, hcp, hca⟩ := P5.out.2.2.2.1.acts
              obtain ⟨ab, aof, hap, _, hal, ka0, ka1⟩ := hca j _ hy
              obtain ⟨rfl, _, _⟩ : ao5 = ap ∧ _ ∧ _ := by simpa using hv
              subst hap
              have HS : Hid (cnt 1 (l2.take (j + 1)) = q1 + (if k = 1 then 1 else 0)) := by unfold Hid; rw [List.take_add_one, hy, ← hq1]; exact cnt_snoc 1 (l2.take j) (k, s)
              have hlt1 : (j : Int) < m := by omega
              have q0 : 0 ≤ q1 := hb.1
              have q3 : q1 ≤ 3 := by omega
              simp only at ka0 ka1
              rw [hq1]
              clear hy hq1 hb hb2 hv hcp hca
              by_cases h4 : k = 1
              · subst h4
                go_wp2_with fail
                go_round
                case rel => exact ⟨j + 1, hjl, by go_num, by rw [HS.out]; go_num⟩
                case measure => simp [intOf]; omega
              · have h5 : (k == 1) = false := by simpa using h4
                have HS2 : Hid (cnt 1 (l2.take (j + 1)) = q1) := by unfold Hid; rw [HS.out, if_neg h4]; omega
                clear h4
                go_wp2_with fail
                go_round
                case rel => exact ⟨j + 1, hjl, by go_num, by rw [HS2.out]⟩
                case measure => simp [intOf]; omega
            · have hlt1 : ¬ ((j : Int) < m) := by omega
              have HQ1 : Hid (cnt 1 l2 = q1) := by unfold Hid; rw [← hq1, List.take_of_length_le (by rw [HM.out]; omega)]
              rw [hq1]
              have q0 : 0 ≤ q1 := hb.1
              have q3 : q1 ≤ 3 := by omega
              clear hq1 hb hb2
              have hnew : Hid (EI w e x y lf0 _ xs n C Wb (i + 1) st2 lf2 W) := HI.out.step HR.out.1 P5.out.1 P5.out.2.1 P5.out.2.2.2.2.1 P5.out.2.2.2.2.2 HR.out.2 T0 hlt
              obtain ⟨z1, z2, z3, z4⟩ := hnew.out.st
              obtain ⟨c4, hc4⟩ : ∃ c4, cnt 4 l2 = c4 := ⟨_, rfl⟩
              have H4 : Hid (c4 = (if st < 4 ∧ 4 ≤ st2 then 1 else 0)) := by unfold Hid; rw [← hc4]; exact HR.out.1.fin
              have cf : Calls Tryd.prog 38 #[.slice ao5 m c5] W fun r w' => r = .returned (.int .i64 c4) ∧ w' = W := by
                have := finals_any P5.out.2.2.2.1.acts HR.out.1.len
                rw [hc4] at this
                exact this
              have hs : lf2 = lf - q1 := by have h1 : lf2 = lf - cnt 1 l2 := HR.out.1.sends; rw [HQ1.out] at h1; exact h1
              clear hc4
              by_cases h4 : 4 ≤ st
              · have H5 : Hid (4 ≤ st) := h4
                obtain ⟨g1, g2⟩ := HR.out.1.stays h4
                simp only at g1 g2
                subst g1 g2
                obtain rfl : q1 = 0 := by omega
                clear hs
                obtain rfl : c4 = 0 := by have := H4.out; rw [if_neg (by omega)] at this; exact this
                obtain rfl : En = 1 := by have := HEn.out; rw [if_pos h4] at this; exact this
                go_wp2_with fail
                refine cf.mono ?_
                rintro _ _ ⟨rfl, rfl⟩
                go_wp2_with fail
                go_roundw
                case rel => exact ⟨i + 1, _, _, _, by omega, by go_num, rfl, by unfold Hid; first | (rw [if_pos (by have := H5.out; omega)]; done) | (rw [if_pos (by have := H5.out; omega)]; omega), hnew⟩
                case measure => simp [intOf]; omega
              · obtain rfl : En = 0 := by have := HEn.out; rw [if_neg h4] at this; exact this
                subst hs
                by_cases h5 : 4 ≤ st2
                · have H5 : Hid (4 ≤ st2) := h5
                  obtain rfl : c4 = 1 := by have := H4.out; rw [if_pos (by omega)] at this; exact this
                  go_wp2_with fail
                  refine cf.mono ?_
                  rintro _ _ ⟨rfl, rfl⟩
                  go_wp2_with fail
                  go_roundw
                  case rel => exact ⟨i + 1, _, _, _, by omega, by go_num, rfl, by unfold Hid; first | (rw [if_pos (by have := H5.out; omega)]; done) | (rw [if_pos (by have := H5.out; omega)]; omega), hnew⟩
                  case measure => simp [intOf]; omega
                · have H5 : Hid (¬ 4 ≤ st2) := h5
                  obtain rfl : c4 = 0 := by have := H4.out; rw [if_neg (by omega)] at this; exact this
                  go_wp2_with fail
                  refine cf.mono ?_
                  rintro _ _ ⟨rfl, rfl⟩
                  go_wp2_with fail
                  go_roundw
                  case rel => exact ⟨i + 1, _, _, _, by omega, by go_num, rfl, by unfold Hid; first | (rw [if_neg (by have := H5.out; omega)]; done) | (rw [if_neg (by have := H5.out; omega)]; omega), hnew⟩
                  case measure => simp [intOf]; omega
        | false =>
          have hr := heardS_run (s := cd) (number := nb) ok.out HI.out.fit
          have hp : n ≤ i → need (heardS e x y st lf cd nb).st (heardS e x y st lf cd nb).lf ≤ need st lf - 1 ∨ 4 ≤ (heardS e x y st lf cd nb).st := fun h => absurd hni (by omega)
          have cc := D.heard e x y st lf cd nb
          obtain ⟨r, hre⟩ : ∃ r, heardS e x y st lf cd nb = r := ⟨_, rfl⟩
          rw [hre] at hr hp cc
          clear hre
          have HR : Hid (RunOk e x y st lf r ∧ (n ≤ i → need r.st r.lf ≤ need st lf - 1 ∨ 4 ≤ r.st)) := ⟨hr, hp⟩
          clear hr hp
          obtain ⟨st2, lf2, l2, at2, n2⟩ := r
          obtain rfl : n2 = 0 := HR.out.1.n
          go_wp2_with fail
          refine (cc _ (HV.out.1.below ((HI.out.bel.alloc HI.out.bel.size _).alloc (by have := HI.out.bel.size; first | omega | (simp; omega)) _))).mono ?_
          rintro _ w5 ⟨v5, ev5, rfl, r5, g5, b5⟩
          obtain rfl := g5.nil
          have HB5 : Hid (Below w.heap.size w w5) := below_then ((HI.out.bel.alloc HI.out.bel.size _).alloc (by have := HI.out.bel.size; first | omega | (simp; omega)) _) b5
          have X5 : Hid (Box w5 C #[.bool e, .int .i64 x, .int .i64 y]) := ((HI.out.box.alloc _).alloc _).below b5
          have Y5 : Hid (Box w5 Wb #[.int .i64 st, .int .i64 lf]) := ((HI.out.wbox.alloc _).alloc _).below b5
          have Z5 : Hid (Box w5 (wr.heap.size + 1) #[.int .i64 st, .int .i64 lf]) := (Box.new' (wr.alloc _) #[.int .i64 st, .int .i64 lf] 50 (wr.heap.size + 1) (by simp)).below b5
          have K5 : Hid (ActRow w5 0 v5 l2 ∧ (∀ g, v5.ownBlock = some g → g ≠ Wb) ∧ wr.heap.size + 1 ≠ Wb) := ⟨r5.mono (Nat.zero_le _), fun g hg => by have := r5.ne hg; simp at this; omega, by omega⟩
          have S5 : Hid (Stps w5 _ xs) := ((HI.out.stps.below ((Below.refl _ _).alloc (Nat.le_refl _) _)).below ((Below.refl _ _).alloc (Nat.le_refl _) _)).below b5
          clear r5 g5 b5 cc lC kC fC lW kW fW y0 y1 y2 sl
          obtain ⟨lC, kC, fC⟩ := X5.out
          obtain ⟨lW, kW, fW⟩ := Y5.out
          obtain ⟨lZ, kZ, fZ⟩ := Z5.out
          have P5 : Hid (Box ((w5.setCell ⟨Wb, 0, none⟩ (.int .i64 st2)).setCell ⟨Wb, 1, none⟩ (.int .i64 lf2)) C #[.bool e, .int .i64 x, .int .i64 y] ∧ Box ((w5.setCell ⟨Wb, 0, none⟩ (.int .i64 st2)).setCell ⟨Wb, 1, none⟩ (.int .i64 lf2)) Wb #[.int .i64 st2, .int .i64 lf2] ∧ Box ((w5.setCell ⟨Wb, 0, none⟩ (.int .i64 st2)).setCell ⟨Wb, 1, none⟩ (.int .i64 lf2)) (wr.heap.size + 1) #[.int .i64 st, .int .i64 lf] ∧ ActRow ((w5.setCell ⟨Wb, 0, none⟩ (.int .i64 st2)).setCell ⟨Wb, 1, none⟩ (.int .i64 lf2)) 0 v5 l2 ∧ Below w.heap.size w ((w5.setCell ⟨Wb, 0, none⟩ (.int .i64 st2)).setCell ⟨Wb, 1, none⟩ (.int .i64 lf2)) ∧ Stps ((w5.setCell ⟨Wb, 0, none⟩ (.int .i64 st2)).setCell ⟨Wb, 1, none⟩ (.int .i64 lf2)) _ xs) :=
            ⟨(X5.out.off _ hCW').off _ hCW', Y5.out.put2 _ _, (Z5.out.off _ K5.out.2.2.symm).off _ K5.out.2.2.symm, (K5.out.1.set K5.out.2.1).set K5.out.2.1, (HB5.out.setCell HI.out.old.1 _).setCell HI.out.old.1 _, S5.out.put HV.out.2 HI.out.old.1⟩
          go_wp2_with fail
          obtain ⟨W, hW⟩ : ∃ W, ((w5.setCell ⟨Wb, 0, none⟩ (.int .i64 st2)).setCell ⟨Wb, 1, none⟩ (.int .i64 lf2)) = W := ⟨_, rfl⟩
          obtain ⟨Zb, hZb⟩ : ∃ Zb, wr.heap.size + 1 = Zb := ⟨_, rfl⟩
          rw [hW, hZb] at P5
          simp only [hW, hZb]
          clear hW hZb lC kC fC lW kW fW lZ kZ fZ X5 Y5 Z5 K5 S5 HB5
          obtain ⟨ao5, c5, rfl, hc5⟩ := P5.out.2.2.2.1.isSlice
          obtain ⟨m, hm⟩ : ∃ m, l2.length = m := ⟨_, rfl⟩
          have HM : Hid (l2.length = m) := hm
          have m3 : m ≤ 3 := by rw [← hm]; exact HR.out.1.len
          rw [hm] at P5 hc5
          simp only [hm]
          clear hm
          obtain ⟨lC, kC, fC⟩ := P5.out.1
          obtain ⟨lW, kW, fW⟩ := P5.out.2.1
          obtain ⟨lZ, kZ, fZ⟩ := P5.out.2.2.1
          go_loop [19, 20] (fun tn ti => ∃ j : Nat, j ≤ m ∧ ti = .int .i64 j ∧ tn = .int .i64 (cnt 1 (l2.take j))) (fun _ ti => m - (intOf ti).toNat)
          case atStart => exact ⟨0, Nat.zero_le _, rfl, rfl⟩
          case round =>
            obtain ⟨j, hj, rfl, rfl⟩ := hrel
            have hb := cnt_bd 1 (l2.take j)
            have hb2 : (l2.take j).length ≤ 3 := by rw [List.length_take]; omega
            obtain ⟨q1, hq1⟩ : ∃ q, cnt 1 (l2.take j) = q := ⟨_, rfl⟩
            rw [hq1] at hb
            by_cases hjl : j < m
            · obtain ⟨⟨k, s⟩, hy⟩ : ∃ y, l2[j]? = some y := ⟨_, List.getElem?_eq_getElem (by rw [HM.out]; exact hjl)⟩
              obtain ⟨ap, cp, hv, hcp, hca⟩ := P5.out.2.2.2.1.acts
              obtain ⟨ab, aof, hap, _, hal, ka0, ka1⟩ := hca j _ hy
              obtain ⟨rfl, _, _⟩ : ao5 = ap ∧ _ ∧ _ := by simpa using hv
              subst hap
              have HS : Hid (cnt 1 (l2.take (j + 1)) = q1 + (if k = 1 then 1 else 0)) := by unfold Hid; rw [List.take_add_one, hy, ← hq1]; exact cnt_snoc 1 (l2.take j) (k, s)
              have hlt1 : (j : Int) < m := by omega
              have q0 : 0 ≤ q1 := hb.1
              have q3 : q1 ≤ 3 := by omega
              simp only at ka0 ka1
              rw [hq1]
              clear hy hq1 hb hb2 hv hcp hca
              by_cases h4 : k = 1
              · subst h4
                go_wp2_with fail
                go_round
                case rel => exact ⟨j + 1, hjl, by go_num, by rw [HS.out]; go_num⟩
                case measure => simp [intOf]; omega
              · have h5 : (k == 1) = false := by simpa using h4
                have HS2 : Hid (cnt 1 (l2.take (j + 1)) = q1) := by unfold Hid; rw [HS.out, if_neg h4]; omega
                clear h4
                go_wp2_with fail
                go_round
                case rel => exact ⟨j + 1, hjl, by go_num, by rw [HS2.out]⟩
                case measure => simp [intOf]; omega
            · have hlt1 : ¬ ((j : Int) < m) := by omega
              have HQ1 : Hid (cnt 1 l2 = q1) := by unfold Hid; rw [← hq1, List.take_of_length_le (by rw [HM.out]; omega)]
              rw [hq1]
              have q0 : 0 ≤ q1 := hb.1
              have q3 : q1 ≤ 3 := by omega
              clear hq1 hb hb2
              have hnew : Hid (EI w e x y lf0 _ xs n C Wb (i + 1) st2 lf2 W) := HI.out.step HR.out.1 P5.out.1 P5.out.2.1 P5.out.2.2.2.2.1 P5.out.2.2.2.2.2 HR.out.2 T0 hlt
              obtain ⟨z1, z2, z3, z4⟩ := hnew.out.st
              obtain ⟨c4, hc4⟩ : ∃ c4, cnt 4 l2 = c4 := ⟨_, rfl⟩
              have H4 : Hid (c4 = (if st < 4 ∧ 4 ≤ st2 then 1 else 0)) := by unfold Hid; rw [← hc4]; exact HR.out.1.fin
              have cf : Calls Tryd.prog 38 #[.slice ao5 m c5] W fun r w' => r = .returned (.int .i64 c4) ∧ w' = W := by
                have := finals_any P5.out.2.2.2.1.acts HR.out.1.len
                rw [hc4] at this
                exact this
              have hs : lf2 = lf - q1 := by have h1 : lf2 = lf - cnt 1 l2 := HR.out.1.sends; rw [HQ1.out] at h1; exact h1
              clear hc4
              by_cases h4 : 4 ≤ st
              · have H5 : Hid (4 ≤ st) := h4
                obtain ⟨g1, g2⟩ := HR.out.1.stays h4
                simp only at g1 g2
                subst g1 g2
                obtain rfl : q1 = 0 := by omega
                clear hs
                obtain rfl : c4 = 0 := by have := H4.out; rw [if_neg (by omega)] at this; exact this
                obtain rfl : En = 1 := by have := HEn.out; rw [if_pos h4] at this; exact this
                go_wp2_with fail
                refine cf.mono ?_
                rintro _ _ ⟨rfl, rfl⟩
                go_wp2_with fail
                go_roundw
                case rel => exact ⟨i + 1, _, _, _, by omega, by go_num, rfl, by unfold Hid; first | (rw [if_pos (by have := H5.out; omega)]; done) | (rw [if_pos (by have := H5.out; omega)]; omega), hnew⟩
                case measure => simp [intOf]; omega
              · obtain rfl : En = 0 := by have := HEn.out; rw [if_neg h4] at this; exact this
                subst hs
                by_cases h5 : 4 ≤ st2
                · have H5 : Hid (4 ≤ st2) := h5
                  obtain rfl : c4 = 1 := by have := H4.out; rw [if_pos (by omega)] at this; exact this
                  go_wp2_with fail
                  refine cf.mono ?_
                  rintro _ _ ⟨rfl, rfl⟩
                  go_wp2_with fail
                  go_roundw
                  case rel => exact ⟨i + 1, _, _, _, by omega, by go_num, rfl, by unfold Hid; first | (rw [if_pos (by have := H5.out; omega)]; done) | (rw [if_pos (by have := H5.out; omega)]; omega), hnew⟩
                  case measure => simp [intOf]; omega
                · have H5 : Hid (¬ 4 ≤ st2) := h5
                  obtain rfl : c4 = 0 := by have := H4.out; rw [if_neg (by omega)] at this; exact this
                  go_wp2_with fail
                  refine cf.mono ?_
                  rintro _ _ ⟨rfl, rfl⟩
                  go_wp2_with fail
                  go_roundw
                  case rel => exact ⟨i + 1, _, _, _, by omega, by go_num, rfl, by unfold Hid; first | (rw [if_neg (by have := H5.out; omega)]; done) | (rw [if_neg (by have := H5.out; omega)]; omega), hnew⟩
                  case measure => simp [intOf]; omega
      · have hr := (dueS_run ok.out HI.out.fit).1
        have hp : n ≤ i → need (dueS e x y st lf).st (dueS e x y st lf).lf ≤ need st lf - 1 ∨ 4 ≤ (dueS e x y st lf).st := fun _ => (dueS_run ok.out HI.out.fit).2
        have cc := D.due e x y st lf
        obtain ⟨r, hre⟩ : ∃ r, dueS e x y st lf = r := ⟨_, rfl⟩
        rw [hre] at hr hp cc
        clear hre
        have HR : Hid (RunOk e x y st lf r ∧ (n ≤ i → need r.st r.lf ≤ need st lf - 1 ∨ 4 ≤ r.st)) := ⟨hr, hp⟩
        clear hr hp
        obtain ⟨st2, lf2, l2, at2, n2⟩ := r
        obtain rfl : n2 = 0 := HR.out.1.n
        go_wp2_with fail
        refine (cc _ (HV.out.1.below ((HI.out.bel.alloc HI.out.bel.size _).alloc (by have := HI.out.bel.size; first | omega | (simp; omega)) _))).mono ?_
        rintro _ w5 ⟨v5, ev5, rfl, r5, g5, b5⟩
        obtain rfl := g5.nil
        have HB5 : Hid (Below w.heap.size w w5) := below_then ((HI.out.bel.alloc HI.out.bel.size _).alloc (by have := HI.out.bel.size; first | omega | (simp; omega)) _) b5
        have X5 : Hid (Box w5 C #[.bool e, .int .i64 x, .int .i64 y]) := ((HI.out.box.alloc _).alloc _).below b5
        have Y5 : Hid (Box w5 Wb #[.int .i64 st, .int .i64 lf]) := ((HI.out.wbox.alloc _).alloc _).below b5
        have Z5 : Hid (Box w5 (wr.heap.size + 1) #[.int .i64 st, .int .i64 lf]) := (Box.new' (wr.alloc _) #[.int .i64 st, .int .i64 lf] 50 (wr.heap.size + 1) (by simp)).below b5
        have K5 : Hid (ActRow w5 0 v5 l2 ∧ (∀ g, v5.ownBlock = some g → g ≠ Wb) ∧ wr.heap.size + 1 ≠ Wb) := ⟨r5.mono (Nat.zero_le _), fun g hg => by have := r5.ne hg; simp at this; omega, by omega⟩
        have S5 : Hid (Stps w5 _ xs) := ((HI.out.stps.below ((Below.refl _ _).alloc (Nat.le_refl _) _)).below ((Below.refl _ _).alloc (Nat.le_refl _) _)).below b5
        clear r5 g5 b5 cc lC kC fC lW kW fW
        obtain ⟨lC, kC, fC⟩ := X5.out
        obtain ⟨lW, kW, fW⟩ := Y5.out
        obtain ⟨lZ, kZ, fZ⟩ := Z5.out
        have P5 : Hid (Box ((w5.setCell ⟨Wb, 0, none⟩ (.int .i64 st2)).setCell ⟨Wb, 1, none⟩ (.int .i64 lf2)) C #[.bool e, .int .i64 x, .int .i64 y] ∧ Box ((w5.setCell ⟨Wb, 0, none⟩ (.int .i64 st2)).setCell ⟨Wb, 1, none⟩ (.int .i64 lf2)) Wb #[.int .i64 st2, .int .i64 lf2] ∧ Box ((w5.setCell ⟨Wb, 0, none⟩ (.int .i64 st2)).setCell ⟨Wb, 1, none⟩ (.int .i64 lf2)) (wr.heap.size + 1) #[.int .i64 st, .int .i64 lf] ∧ ActRow ((w5.setCell ⟨Wb, 0, none⟩ (.int .i64 st2)).setCell ⟨Wb, 1, none⟩ (.int .i64 lf2)) 0 v5 l2 ∧ Below w.heap.size w ((w5.setCell ⟨Wb, 0, none⟩ (.int .i64 st2)).setCell ⟨Wb, 1, none⟩ (.int .i64 lf2)) ∧ Stps ((w5.setCell ⟨Wb, 0, none⟩ (.int .i64 st2)).setCell ⟨Wb, 1, none⟩ (.int .i64 lf2)) _ xs) :=
          ⟨(X5.out.off _ hCW').off _ hCW', Y5.out.put2 _ _, (Z5.out.off _ K5.out.2.2.symm).off _ K5.out.2.2.symm, (K5.out.1.set K5.out.2.1).set K5.out.2.1, (HB5.out.setCell HI.out.old.1 _).setCell HI.out.old.1 _, S5.out.put HV.out.2 HI.out.old.1⟩
        go_wp2_with fail
        obtain ⟨W, hW⟩ : ∃ W, ((w5.setCell ⟨Wb, 0, none⟩ (.int .i64 st2)).setCell ⟨Wb, 1, none⟩ (.int .i64 lf2)) = W := ⟨_, rfl⟩
        obtain ⟨Zb, hZb⟩ : ∃ Zb, wr.heap.size + 1 = Zb := ⟨_, rfl⟩
        rw [hW, hZb] at P5
        simp only [hW, hZb]
        clear hW hZb lC kC fC lW kW fW lZ kZ fZ X5 Y5 Z5 K5 S5 HB5
        obtain ⟨ao5, c5, rfl, hc5⟩ := P5.out.2.2.2.1.isSlice
        obtain ⟨m, hm⟩ : ∃ m, l2.length = m := ⟨_, rfl⟩
        have HM : Hid (l2.length = m) := hm
        have m3 : m ≤ 3 := by rw [← hm]; exact HR.out.1.len
        rw [hm] at P5 hc5
        simp only [hm]
        clear hm
        obtain ⟨lC, kC, fC⟩ := P5.out.1
        obtain ⟨lW, kW, fW⟩ := P5.out.2.1
        obtain ⟨lZ, kZ, fZ⟩ := P5.out.2.2.1
        go_loop [19, 20] (fun tn ti => ∃ j : Nat, j ≤ m ∧ ti = .int .i64 j ∧ tn = .int .i64 (cnt 1 (l2.take j))) (fun _ ti => m - (intOf ti).toNat)
        case atStart => exact ⟨0, Nat.zero_le _, rfl, rfl⟩
        case round =>
          obtain ⟨j, hj, rfl, rfl⟩ := hrel
          have hb := cnt_bd 1 (l2.take j)
          have hb2 : (l2.take j).length ≤ 3 := by rw [List.length_take]; omega
          obtain ⟨q1, hq1⟩ : ∃ q, cnt 1 (l2.take j) = q := ⟨_, rfl⟩
          rw [hq1] at hb
          by_cases hjl : j < m
          · obtain ⟨⟨k, s⟩, hy⟩ : ∃ y, l2[j]? = some y := ⟨_, List.getElem?_eq_getElem (by rw [HM.out]; exact hjl)⟩
            obtain ⟨ap, cp, hv, hcp, hca⟩ := P5.out.2.2.2.1.acts
            obtain ⟨ab, aof, hap, _, hal, ka0, ka1⟩ := hca j _ hy
            obtain ⟨rfl, _, _⟩ : ao5 = ap ∧ _ ∧ _ := by simpa using hv
            subst hap
            have HS : Hid (cnt 1 (l2.take (j + 1)) = q1 + (if k = 1 then 1 else 0)) := by unfold Hid; rw [List.take_add_one, hy, ← hq1]; exact cnt_snoc 1 (l2.take j) (k, s)
            have hlt1 : (j : Int) < m := by omega
            have q0 : 0 ≤ q1 := hb.1
            have q3 : q1 ≤ 3 := by omega
            simp only at ka0 ka1
            rw [hq1]
            clear hy hq1 hb hb2 hv hcp hca
            by_cases h4 : k = 1
            · subst h4
              go_wp2_with fail
              go_round
              case rel => exact ⟨j + 1, hjl, by go_num, by rw [HS.out]; go_num⟩
              case measure => simp [intOf]; omega
            · have h5 : (k == 1) = false := by simpa using h4
              have HS2 : Hid (cnt 1 (l2.take (j + 1)) = q1) := by unfold Hid; rw [HS.out, if_neg h4]; omega
              clear h4
              go_wp2_with fail
              go_round
              case rel => exact ⟨j + 1, hjl, by go_num, by rw [HS2.out]⟩
              case measure => simp [intOf]; omega
          · have hlt1 : ¬ ((j : Int) < m) := by omega
            have HQ1 : Hid (cnt 1 l2 = q1) := by unfold Hid; rw [← hq1, List.take_of_length_le (by rw [HM.out]; omega)]
            rw [hq1]
            have q0 : 0 ≤ q1 := hb.1
            have q3 : q1 ≤ 3 := by omega
            clear hq1 hb hb2
            have hnew : Hid (EI w e x y lf0 _ xs n C Wb (i + 1) st2 lf2 W) := HI.out.step HR.out.1 P5.out.1 P5.out.2.1 P5.out.2.2.2.2.1 P5.out.2.2.2.2.2 HR.out.2 T0 hlt
            obtain ⟨z1, z2, z3, z4⟩ := hnew.out.st
            obtain ⟨c4, hc4⟩ : ∃ c4, cnt 4 l2 = c4 := ⟨_, rfl⟩
            have H4 : Hid (c4 = (if st < 4 ∧ 4 ≤ st2 then 1 else 0)) := by unfold Hid; rw [← hc4]; exact HR.out.1.fin
            have cf : Calls Tryd.prog 38 #[.slice ao5 m c5] W fun r w' => r = .returned (.int .i64 c4) ∧ w' = W := by
              have := finals_any P5.out.2.2.2.1.acts HR.out.1.len
              rw [hc4] at this
              exact this
            have hs : lf2 = lf - q1 := by have h1 : lf2 = lf - cnt 1 l2 := HR.out.1.sends; rw [HQ1.out] at h1; exact h1
            clear hc4
            by_cases h4 : 4 ≤ st
            · have H5 : Hid (4 ≤ st) := h4
              obtain ⟨g1, g2⟩ := HR.out.1.stays h4
              simp only at g1 g2
              subst g1 g2
              obtain rfl : q1 = 0 := by omega
              clear hs
              obtain rfl : c4 = 0 := by have := H4.out; rw [if_neg (by omega)] at this; exact this
              obtain rfl : En = 1 := by have := HEn.out; rw [if_pos h4] at this; exact this
              go_wp2_with fail
              refine cf.mono ?_
              rintro _ _ ⟨rfl, rfl⟩
              go_wp2_with fail
              go_roundw
              case rel => exact ⟨i + 1, _, _, _, by omega, by go_num, rfl, by unfold Hid; first | (rw [if_pos (by have := H5.out; omega)]; done) | (rw [if_pos (by have := H5.out; omega)]; omega), hnew⟩
              case measure => simp [intOf]; omega
            · obtain rfl : En = 0 := by have := HEn.out; rw [if_neg h4] at this; exact this
              subst hs
              by_cases h5 : 4 ≤ st2
              · have H5 : Hid (4 ≤ st2) := h5
                obtain rfl : c4 = 1 := by have := H4.out; rw [if_pos (by omega)] at this; exact this
                go_wp2_with fail
                refine cf.mono ?_
                rintro _ _ ⟨rfl, rfl⟩
                go_wp2_with fail
                go_roundw
                case rel => exact ⟨i + 1, _, _, _, by omega, by go_num, rfl, by unfold Hid; first | (rw [if_pos (by have := H5.out; omega)]; done) | (rw [if_pos (by have := H5.out; omega)]; omega), hnew⟩
                case measure => simp [intOf]; omega
              · have H5 : Hid (¬ 4 ≤ st2) := h5
                obtain rfl : c4 = 0 := by have := H4.out; rw [if_neg (by omega)] at this; exact this
                go_wp2_with fail
                refine cf.mono ?_
                rintro _ _ ⟨rfl, rfl⟩
                go_wp2_with fail
                go_roundw
                case rel => exact ⟨i + 1, _, _, _, by omega, by go_num, rfl, by unfold Hid; first | (rw [if_neg (by have := H5.out; omega)]; done) | (rw [if_neg (by have := H5.out; omega)]; omega), hnew⟩
                case measure => simp [intOf]; omega

    · have hie : (i : Int) = n + lf0 + 2 := by omega
      have h4 : 4 ≤ st := (need_bd HI.out.fit).2.2 (by have := HI.out.prog (by omega); omega)
      obtain rfl : En = 1 := by have := HEn.out; rw [if_pos h4] at this; exact this
      clear hst
      go_wp2_with fail
      go_ret
      exact ⟨rfl, HI.out.bel⟩
end Go.Proofs.YtjmjimbhoncidaaDoor
