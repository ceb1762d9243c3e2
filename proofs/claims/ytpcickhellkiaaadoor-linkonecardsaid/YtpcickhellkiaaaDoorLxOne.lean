/-
  LinkOne, walked.
-/
import Derived.Test.YtpcickhellkiaaaDoorLxOne0
import Derived.BigQuiet
import Derived.Deep.CutBlock
import Derived.Deep.DeepCutAuto
namespace Go.Proofs.YtpcickhellkiaaaDoor
open Go.RowKit

/-- A told list stays where only the link's own block is written. -/
theorem FlL.up {X Y : World} {n₀ lb : Nat} {v : Value} {ls : List Pc} {t : List (List Int)} (h : FlL X n₀ v ls t) (o : Off (fun q => (some ⟨lb, 0, none⟩ : Option Addr) = some ⟨q, 0, none⟩) X Y) (hl : lb < n₀) : FlL Y n₀ v ls t := by
  have hP : ∀ q, (some ⟨lb, 0, none⟩ : Option Addr) = some ⟨q, 0, none⟩ → q = lb := fun q e => by injection e with e; injection e with e; exact e.symm
  exact ⟨ERow.off h.row o fun g hg e => by have := (ERow.lt h.row hg).1; have := hP g e; omega, h.bs, fun p hp => ⟨⟨ERow.off (h.pcs p hp).1.1 o fun g hg e => by have := (ERow.lt (h.pcs p hp).1.1 hg).1; have := hP g e; omega, (h.pcs p hp).1.2⟩, (h.pcs p hp).2⟩, h.ap⟩
/-- The link between two rounds. -/
def OI (W : World) (lb : Nat) (X : World) : Prop := ∃ σ, PS W (some ⟨lb, 0, none⟩) σ X ∧ SOk σ
set_option maxRecDepth 100000 in
set_option maxHeartbeats 16000000 in
theorem one_law (ao : Option Addr) (cap n : Nat) (W : World) (hE : ErrType W) (hO : Ops W ao n) : Calls Tryd.prog 5 #[.slice ao n cap] W fun e w' => e = .returned (.bool true) ∧ Below W.heap.size W w' := by
  have HE : Hid (ErrType W ∧ Ops W ao n) := ⟨hE, hO⟩
  have hn := hO.len
  have HN := kNew W
  obtain ⟨lb, hlb⟩ : ∃ lb, W.heap.size = lb := ⟨_, rfl⟩
  rw [hlb] at HN
  clear hE hO hlb
  go_enter Tryd.func5, Tryd.ntmps5
  go_wp2_with fail
  refine HN.mono ?_
  rintro _ w1 ⟨rfl, H1⟩
  have H5 : Hid (OI W lb w1) := ⟨sg0, H1.out.1, sg0_ok⟩
  clear HN H1
  go_wp2_with fail
  go_loopw [4] (fun t4 wx => ∃ i : Nat, i ≤ n ∧ t4 = .int .i64 i ∧ Hid (OI W lb wx)) (fun t4 _ => n - (intOf t4).toNat)
  case atStart => exact ⟨0, Nat.zero_le _, rfl, H5⟩
  case round =>
    obtain ⟨i, hi, rfl, HI⟩ := hrel
    by_cases hlt : i < n
    · have hlt1 : (i : Int) < n := by omega
      obtain ⟨b, o, kd, sd, ix, nn, po, m, c, bs, ea, hbl, hat, hby, hm⟩ := HE.out.2.at_ i hlt
      subst ea
      obtain ⟨σ, hp, hok⟩ := HI.out
      have HY0 : Hid (Byts W po m bs) := hby
      have HJ : Hid (type_of% (OJ.start hp hok #[.int .i64 kd, .int .i64 sd, .int .i64 ix, .int .i64 nn, .slice po m c])) := OJ.start hp hok #[.int .i64 kd, .int .i64 sd, .int .i64 ix, .int .i64 nn, .slice po m c]
      obtain ⟨c0, c1, c2, c3, c4⟩ := hat.below hbl hp.b
      clear hby hat hbl HI hp hok H5
      go_wp2_with fail
      have HHf := oHalf HJ.out sd
      obtain ⟨hf, ehf⟩ : ∃ hf, hfS σ sd = hf := ⟨_, rfl⟩
      have HF : Hid (hfS σ sd = hf) := ehf
      obtain ⟨nB, enB⟩ : ∃ nB, (flS σ sd).length = nB := ⟨_, rfl⟩
      have HNB : Hid ((flS σ sd).length = nB) := enB
      have hnB : nB ≤ 256 := by rw [← enB]; exact (half_ok HJ.out.ok sd).2.2
      have hh1 := (half_ok HJ.out.ok sd).1
      have hh2 := (half_ok HJ.out.ok sd).2.1
      rw [ehf] at HHf hh1 hh2
      rw [enB] at hh2
      clear ehf
      refine HHf.mono ?_
      rintro _ w2 ⟨rfl, H2⟩
      have o2 := H2.out.1.o
      have HFl := oFlight H2.out.1 sd
      rw [enB] at HFl
      have hl2 : lb < w2.heap.size := by
        obtain ⟨F, k1, _⟩ := H2.out.1.ps
        exact (k1.lt.2 lb rfl).1
      have HL2 : Hid (lb < w2.heap.size) := hl2
      clear enB HHf HJ c0 c1 c2 c3 c4 hl2
      go_wp2_with fail
      refine HFl.mono ?_
      rintro _ w3 ⟨a3, c3, rfl, H3'⟩
      have o3 := H3'.out.1.o
      have H3 : Hid (OJ W lb σ wr.heap.size #[.int .i64 kd, .int .i64 sd, .int .i64 ix, .int .i64 nn, .slice po m c] w3) := H3'.out.1
      have HB3 : Hid ((∃ ls, FlL w3 w2.heap.size (.slice a3 nB c3) ls (flS σ sd)) ∧ lb < w2.heap.size) := ⟨H3'.out.2.1, HL2.out⟩
      clear H3' HFl o2 H2 HL2
      go_upto_block 2 with fail
      go_cut [] (fun wx => Hid (∃ σ', OJ W lb σ' wr.heap.size #[.int .i64 kd, .int .i64 sd, .int .i64 ix, .int .i64 nn, .slice po m c] wx))
      case rest =>
        obtain ⟨σ4, h4⟩ := hcut.out
        have H4' : Hid (OJ W lb σ4 wr.heap.size #[.int .i64 kd, .int .i64 sd, .int .i64 ix, .int .i64 nn, .slice po m c] wc) := h4
        clear h4 hcut H3 HB3 o3
        generalize wc = wq at *
        have oq := H4'.out.o
        obtain ⟨q1, q2, q3⟩ := half_ok H4'.out.ok sd
        have HA := oHalf H4'.out sd
        have HLn : Hid (∀ z, OJ W lb σ4 wr.heap.size #[.int .i64 kd, .int .i64 sd, .int .i64 ix, .int .i64 nn, .slice po m c] z → Calls Tryd.prog 17 #[.pointer (some ⟨lb, 0, none⟩), .int .i64 sd] z fun e w' => e = .returned (.int .i64 ((flS σ4 sd).length : Int)) ∧ Hid (OJ W lb σ4 wr.heap.size #[.int .i64 kd, .int .i64 sd, .int .i64 ix, .int .i64 nn, .slice po m c] w')) := fun z hz => oLen hz sd
        clear H4'
        generalize hfS σ4 sd = hq at HA q1 q2
        generalize (flS σ4 sd).length = Lq at HLn q2 q3
        have g1 : ¬ hq < -1 := by omega
        have g2 : ¬ hq ≥ (Lq : Int) := by omega
        clear q1 q2
        go_wp2_with fail
        refine HA.mono ?_
        rintro _ wa ⟨rfl, HA2⟩
        have oa := HA2.out.1.o
        clear oq HA
        go_wp2_with fail
        refine (HLn.out wa HA2.out.1).mono ?_
        rintro _ wb ⟨rfl, HB⟩
        clear oa HA2 HLn
        go_wp2_with fail
        go_roundw
        case rel => exact ⟨i + 1, hlt, by go_num, σ4, HB.out.ps, HB.out.ok⟩
        case measure => simp [intOf]; omega
      case first =>
        by_cases h1 : kd = 1
        · as_aux_lemma =>
          have e1 : (kd == 1) = true := by simp; exact h1
          clear h1
          clear HB3
          go_wp2_with fail
          refine (oSend H3.out HY0.out sd).mono ?_
          rintro _ w4 ⟨v4, rfl, H4⟩
          obtain ⟨σ4, h4⟩ := H4.out
          have H4' : Hid (OJ W lb σ4 wr.heap.size #[.int .i64 kd, .int .i64 sd, .int .i64 ix, .int .i64 nn, .slice po m c] w4) := h4
          clear h4 H4 H3 o3
          go_wp2_with fail
          go_meet
          exact ⟨σ4, H4'.out⟩
        by_cases h2 : kd = 2
        · as_aux_lemma =>
          have e1 : (kd == 1) = false := by simp; exact h1
          have e2 : (kd == 2) = true := by simp; exact h2
          clear h1 h2
          go_wp2_with fail
          refine (oCarry H3.out sd ix nn).mono ?_
          rintro _ w4 ⟨a4, m4, c4', v4, rfl, H4⟩
          obtain ⟨σ4, hσ4⟩ : ∃ σ4, cS (fun c => carC c ix nn) σ sd = σ4 := ⟨_, rfl⟩
          rw [hσ4] at H4
          clear hσ4
          rcases H4.out.1 with ⟨rfl, b4, rfl⟩ | ⟨rfl, k, R, rfl, hD, hR⟩
          · have H4' : Hid (OJ W lb σ4 wr.heap.size #[.int .i64 kd, .int .i64 sd, .int .i64 ix, .int .i64 nn, .slice po m c] w4) := H4.out.2.1
            clear H4 H3 o3 HB3
            go_wp2_with fail
            go_meet
            exact ⟨σ4, H4'.out⟩
          · have hm4 : m4 = R.length := ERow.len hR
            obtain ⟨ls, hfl⟩ := HB3.out.1
            have h4 := hfl.up H4.out.2.2 HB3.out.2
            have hkn : k < nB := by rw [← HNB.out]; exact hD.lt
            obtain ⟨g, pb, pn, pc, ea, hg1, hg2, hgc, hpr, hp1, hp2, hp3, hp4⟩ := h4.at_ (k := k) hkn
            subst ea
            have hpl : pn = ((flS σ sd).getD k []).length := ERow.len hpr
            have hr1 := hD.r1
            have hr2 := hD.r2
            rw [← hm4] at hr1 hr2
            rw [← hpl] at hr2
            have HY : Hid (Byts w4 a4 m4 R ∧ Byts w4 (some ⟨pb, 0, none⟩) m4 R ∧ (m4 ≤ pn)) := by
              refine ⟨BRow.byts hR, ?_, hr2⟩
              have := BRow.part hpr (i := 0) (m := m4) (by omega)
              rw [List.drop_zero] at this
              have e : ((flS σ sd).getD k []).take m4 = R := by rw [hm4]; exact hD.r3.symm
              rwa [e] at this
            have H4' : Hid (OJ W lb σ4 wr.heap.size #[.int .i64 kd, .int .i64 sd, .int .i64 (k : Int), .int .i64 nn, .slice po m c] w4 ∧ CarD σ σ4 sd k R ∧ BRow w4 w2.heap.size (.slice (some ⟨pb, 0, none⟩) pn pc) ((flS σ sd).getD k []) ∧ R.length = m4 ∧ w4.cell? ⟨g, k, none⟩ = some (.slice (some ⟨pb, 0, none⟩) pn pc) ∧ g < w4.heap.size) := ⟨H4.out.2.1, hD, hpr, hm4.symm, hgc, hg1⟩
            have o4 := H4.out.2.1.o
            have hhf : ¬ (0 ≤ hf ∧ hf ≠ (k : Int)) := by rw [← HF.out]; exact hD.h
            have x1 : ¬ (k : Int) < 0 := by omega
            have x2 : ¬ (k : Int) ≥ (nB : Int) := by omega
            have x3 : ¬ (m4 : Int) > (pn : Int) := by omega
            have x4 : ((m4 : Int) == 0) = false := by simp; omega
            have x5 : m4 ≤ pc := by omega
            have x6 : (k : Int) < (nB : Int) := by omega
            have x7 : (m4 : Int) ≤ (pc : Int) := by omega
            have HSM := same_true (ac := c4') (bc := pc) HY.out.1 HY.out.2.1 (by omega)
            clear hm4 hfl h4 hg1 hg2 hpr hpl hD hR H4 H3 o3 HB3 hr1
            go_upto_region 18 with fail
            go_cut [111] (fun t111 wx => t111 = .bool false ∧ Hid (∃ kk, wx = w4.drewN kk))
            case first =>
              rcases (by omega : (hf ≥ 0 ∧ hf = (k : Int)) ∨ ¬ hf ≥ 0) with ⟨y1, y2⟩ | y1
              · have y3 : (hf != (k : Int)) = false := by simp; exact y2
                clear hhf y2
                go_wp2_with fail
                refine HSM.mono ?_
                rintro _ w5 ⟨rfl, k5, rfl⟩
                go_wp2_with fail
                go_meet
                exact ⟨by first | rfl | (simp; omega), ⟨k5, rfl⟩⟩
              · clear hhf
                go_wp2_with fail
                refine HSM.mono ?_
                rintro _ w5 ⟨rfl, k5, rfl⟩
                go_wp2_with fail
                go_meet
                exact ⟨by first | rfl | (simp; omega), ⟨k5, rfl⟩⟩
            case rest =>
              obtain ⟨e111, hcut⟩ := hcut
              subst e111
              obtain ⟨k5, ew⟩ := hcut.out
              rw [ew]
              clear ew hcut hhf
              have b5 : Below w4.heap.size w4 (w4.drewN k5) := below_drewN (Below.refl _ _) k5
              have H5 : Hid (OJ W lb σ4 wr.heap.size #[.int .i64 kd, .int .i64 sd, .int .i64 (k : Int), .int .i64 nn, .slice po m c] (w4.drewN k5)) := H4'.out.1.below b5
              have HP5 : Hid (BRow (w4.drewN k5) w2.heap.size (.slice (some ⟨pb, 0, none⟩) pn pc) ((flS σ sd).getD k []) ∧ (w4.drewN k5).cell? ⟨g, k, none⟩ = some (.slice (some ⟨pb, 0, none⟩) pn pc) ∧ g < (w4.drewN k5).heap.size ∧ CarD σ σ4 sd k R ∧ R.length = m4) := ⟨ERow.below H4'.out.2.2.1 b5, (b5.cell (p := ⟨g, k, none⟩) H4'.out.2.2.2.2.2).trans H4'.out.2.2.2.2.1, Nat.lt_of_lt_of_le H4'.out.2.2.2.2.2 b5.size, H4'.out.2.1, H4'.out.2.2.2.1⟩
              clear b5 H4' HSM hgc o4 HY
              generalize w4.drewN k5 = v5 at *
              have o5 := H5.out.o
              have hc5 := HP5.out.2.1
              go_wp2_with fail
              have HFl := oFlight H5.out sd
              obtain ⟨n6, hn6⟩ : ∃ n6, (flS σ4 sd).length = n6 := ⟨_, rfl⟩
              rw [hn6] at HFl
              have HN6 : Hid ((flS σ4 sd).length = n6) := hn6
              have hn6' : n6 ≤ 256 := by rw [← hn6]; exact (half_ok H5.out.ok sd).2.2
              clear hn6
              refine HFl.mono ?_
              rintro _ w6 ⟨a6, c6, rfl, H6⟩
              have o6 := H6.out.1.o
              have HP6 : Hid (BRow w6 w2.heap.size (.slice (some ⟨pb, 0, none⟩) pn pc) ((flS σ sd).getD k []) ∧ w6.cell? ⟨g, k, none⟩ = some (.slice (some ⟨pb, 0, none⟩) pn pc) ∧ g < w6.heap.size ∧ CarD σ σ4 sd k R ∧ R.length = m4) := ⟨ERow.below HP5.out.1 H6.out.2.2, (H6.out.2.2.cell (p := ⟨g, k, none⟩) HP5.out.2.2.1).trans HP5.out.2.1, Nat.lt_of_lt_of_le HP5.out.2.2.1 H6.out.2.2.size, HP5.out.2.2.2⟩
              have hln : pn = ((flS σ sd).getD k []).length := ERow.len HP6.out.1
              clear HFl H5 HP5 o5 hc5
              by_cases hpt : m4 < pn
              · obtain ⟨p1, p2, p3⟩ := HP6.out.2.2.2.1.part (by rw [HP6.out.2.2.2.2, ← hln]; exact hpt)
                have en : n6 = nB := by rw [← HN6.out, p2]; exact HNB.out
                obtain ⟨ls6, hfl6⟩ := H6.out.2.1
                obtain ⟨g6, pb6, pn6, pc6, ea6, hg61, hg62, hgc6, hpr6, hp61, hp62, hp63, hp64⟩ := hfl6.at_ (k := k) (by rw [en]; exact hkn)
                have ep6 : pn6 = pn - m4 := by
                  have := ERow.len hpr6
                  rw [this, p3, List.length_drop, HP6.out.2.2.2.2, ← hln]
                subst ep6
                subst ea6
                haveI hne : Nonempty (Sub w6) := ⟨⟨w6, Below.refl _ _⟩⟩
                have lz : ∀ (x : Sub w6) (j : Nat), x.1.cell? ⟨wr.heap.size, j, none⟩ = (#[.int .i64 kd, .int .i64 sd, .int .i64 (k : Int), .int .i64 nn, .slice po m c] : Array Value)[j]? := fun x j => (x.2.cell (p := ⟨wr.heap.size, j, none⟩) H6.out.1.z).trans (o6 j)
                have lg : ∀ x : Sub w6, x.1.cell? ⟨g, k, none⟩ = some (.slice (some ⟨pb, 0, none⟩) pn pc) := fun x => (x.2.cell (p := ⟨g, k, none⟩) HP6.out.2.2.1).trans HP6.out.2.1
                have l6 : ∀ x : Sub w6, x.1.cell? ⟨g6, k, none⟩ = some (.slice (some ⟨pb6, 0, none⟩) (pn - m4) pc6) := fun x => (x.2.cell (p := ⟨g6, k, none⟩) hg61).trans hgc6
                have hH : ∀ x : Sub w6, Calls Tryd.prog 14 #[.pointer (some ⟨lb, 0, none⟩), .int .i64 sd] x.1 fun r x' => r = .returned (.int .i64 (k : Int)) ∧ ∃ y : Sub w6, x' = y.1 := fun x => (oHalf (H6.out.1.below x.2) sd).mono fun r x' ⟨e1, e2⟩ => ⟨by rw [e1, p1], ⟨x', below_then x.2 e2.out.2⟩, rfl⟩
                have hS : ∀ x : Sub w6, Calls Tryd.prog 13 #[.slice (some ⟨pb6, 0, none⟩) (pn - m4) pc6, .slice (some ⟨pb, m4, none⟩) (pn - m4) (pc - m4)] x.1 fun r x' => r = .returned (.bool true) ∧ ∃ y : Sub w6, x' = y.1 := fun x => by
                  have y1 := (BRow.byts hpr6).below x.2
                  have y2 := (BRow.part HP6.out.1 (i := m4) (m := pn - m4) (by omega)).below x.2
                  have e : (((flS σ sd).getD k []).drop m4).take (pn - m4) = (flS σ4 sd).getD k [] := by
                    rw [p3, HP6.out.2.2.2.2, List.take_of_length_le (by rw [List.length_drop, ← hln]; exact Nat.le_refl _)]
                  rw [e] at y2
                  exact (same_true (ac := pc6) (bc := pc - m4) y1 y2 (by omega)).mono fun r x' ⟨e1, kk, e2⟩ => ⟨e1, ⟨x', by rw [e2]; exact below_drewN x.2 kk⟩, rfl⟩
                have H6' : Hid (OJ W lb σ4 wr.heap.size #[.int .i64 kd, .int .i64 sd, .int .i64 (k : Int), .int .i64 nn, .slice po m c] w6) := H6.out.1
                have z1 : (pn : Int) - (m4 : Int) > 0 := by omega
                have z2 : ((pn : Int) - (m4 : Int) == 0) = false := by simp; omega
                have z3 : m4 ≤ pn := by omega
                have z4 : ¬ pc = m4 := by omega
                have z5 : (m4 : Int) ≤ (pn : Int) := by omega
                have z6 : (0 : Int) ≤ (m4 : Int) := by omega
                subst en
                clear p1 p2 p3 hfl6 hpr6 hg61 hg62 hgc6 HP6 HN6 H6 hln hp63 hp64 hp62 hp61
                generalize hlf : (pn : Int) - (m4 : Int) = lf at *
                clear hlf
                go_wp2_with fail
                refine wp_region_class (V := w6) (Below.refl _ _) (by kernel_rfl) (by kernel_rfl) ?_
                repeat (go_big_quiet_step ((first | (go_at_call 14; exact hH _) | (go_at_call 13; exact hS _))))
                refine wpQuiet_nil ?_
                rintro wc ⟨xwc, hwc⟩
                have H7 : Hid (OJ W lb σ4 wr.heap.size #[.int .i64 kd, .int .i64 sd, .int .i64 (k : Int), .int .i64 nn, .slice po m c] wc) := by rw [hwc]; exact H6'.out.below xwc.2
                clear hwc xwc hH hS lz lg l6 hne H6' o6
                go_wp2_with fail
                go_meet
                exact ⟨σ4, H7.out⟩
              · obtain rfl : m4 = pn := by omega
                obtain ⟨p1, p2⟩ := HP6.out.2.2.2.1.whole (by rw [HP6.out.2.2.2.2, ← hln])
                have en : ((n6 : Int) != (nB : Int) - 1) = false := by
                  have h1 := HN6.out
                  have h2 := HNB.out
                  simp
                  omega
                have H6' : Hid (OJ W lb σ4 wr.heap.size #[.int .i64 kd, .int .i64 sd, .int .i64 (k : Int), .int .i64 nn, .slice po m c] w6) := H6.out.1
                have HP1 : Hid (hfS σ4 sd = -1) := p1
                clear p1 p2 HP6 HN6 H6 hln hpt
                go_wp2_with fail
                go_quiet (fail)
                have H7 : Hid (OJ W lb σ4 wr.heap.size #[.int .i64 kd, .int .i64 sd, .int .i64 (k : Int), .int .i64 nn, .slice po m c] (w6.drewN nq)) := H6'.out.below (below_drewN (Below.refl _ _) nq)
                generalize w6.drewN nq = w7 at *
                have o7 := H7.out.o
                have HH := oHalf H7.out sd
                rw [HP1.out] at HH
                clear H6' o6 HP1
                go_wp2_with fail
                refine HH.mono ?_
                rintro _ w8 ⟨rfl, H8⟩
                have H8' : Hid (OJ W lb σ4 wr.heap.size #[.int .i64 kd, .int .i64 sd, .int .i64 (k : Int), .int .i64 nn, .slice po m c] w8) := H8.out.1
                clear H8 H7 o7 HH
                go_wp2_with fail
                go_meet
                exact ⟨σ4, H8'.out⟩
        by_cases h3 : kd = 3
        · as_aux_lemma =>
          have e1 : (kd == 1) = false := by simp; exact h1
          have e2 : (kd == 2) = false := by simp; exact h2
          have e3 : (kd == 3) = true := by simp; exact h3
          clear h1 h2 h3
          clear HB3
          go_wp2_with fail
          refine (oDrop H3.out sd ix).mono ?_
          rintro _ w4 ⟨v4, rfl, H4⟩
          obtain ⟨σ4, h4⟩ := H4.out
          have H4' : Hid (OJ W lb σ4 wr.heap.size #[.int .i64 kd, .int .i64 sd, .int .i64 ix, .int .i64 nn, .slice po m c] w4) := h4
          clear h4 H4 H3 o3
          go_wp2_with fail
          go_meet
          exact ⟨σ4, H4'.out⟩
        by_cases h4 : kd = 4
        · as_aux_lemma =>
          have e1 : (kd == 1) = false := by simp; exact h1
          have e2 : (kd == 2) = false := by simp; exact h2
          have e3 : (kd == 3) = false := by simp; exact h3
          have e4 : (kd == 4) = true := by simp; exact h4
          clear h1 h2 h3 h4
          clear HB3
          by_cases hd : 0 ≤ hf ∧ hf = ix
          · obtain ⟨hd1, rfl⟩ := hd
            have hd2 : hf ≥ 0 := hd1
            clear hd1
            go_wp2_with fail
            refine (oDouble H3.out sd hf).mono ?_
            rintro _ w4 ⟨v4, rfl, H4⟩
            have o4 := H4.out.2.choose_spec.o
            have HI4 := is_any (H4.out.1 (by rw [HF.out]; exact hd2) HF.out) (errType_below HE.out.1 H4.out.2.choose_spec.ps.b)
            clear H3 o3
            go_wp2_with fail
            refine HI4.mono ?_
            rintro _ w5 ⟨rfl, hb5⟩
            obtain ⟨σ4, h4⟩ := H4.out.2
            have H5 : Hid (OJ W lb σ4 wr.heap.size #[.int .i64 kd, .int .i64 sd, .int .i64 hf, .int .i64 nn, .slice po m c] w5) := h4.below hb5
            clear h4 H4 o4 HI4 hb5
            go_wp2_with fail
            go_meet
            exact ⟨σ4, H5.out⟩
          · have HD : Hid (¬ (0 ≤ hf ∧ hf = ix)) := hd
            by_cases hd2 : hf ≥ 0
            · have hd3 : (hf == ix) = false := by
                have := HD.out
                simp
                omega
              clear hd
              go_wp2_with fail
              refine (oDouble H3.out sd ix).mono ?_
              rintro _ w4 ⟨v4, rfl, H4⟩
              obtain ⟨σ4, h4⟩ := H4.out.2
              have H4' : Hid (OJ W lb σ4 wr.heap.size #[.int .i64 kd, .int .i64 sd, .int .i64 ix, .int .i64 nn, .slice po m c] w4) := h4
              have o4 := h4.o
              clear h4 H4 H3 o3
              go_wp2_with fail
              go_meet
              exact ⟨σ4, H4'.out⟩
            · clear hd
              go_wp2_with fail
              refine (oDouble H3.out sd ix).mono ?_
              rintro _ w4 ⟨v4, rfl, H4⟩
              obtain ⟨σ4, h4⟩ := H4.out.2
              have H4' : Hid (OJ W lb σ4 wr.heap.size #[.int .i64 kd, .int .i64 sd, .int .i64 ix, .int .i64 nn, .slice po m c] w4) := h4
              have o4 := h4.o
              clear h4 H4 H3 o3
              go_wp2_with fail
              go_meet
              exact ⟨σ4, H4'.out⟩
        by_cases h5 : kd = 5
        · as_aux_lemma =>
          have e1 : (kd == 1) = false := by simp; exact h1
          have e2 : (kd == 2) = false := by simp; exact h2
          have e3 : (kd == 3) = false := by simp; exact h3
          have e4 : (kd == 4) = false := by simp; exact h4
          have e5 : (kd == 5) = true := by simp; exact h5
          clear h1 h2 h3 h4 h5
          clear HB3
          go_wp2_with fail
          refine (oClip H3.out sd ix nn).mono ?_
          rintro _ w4 ⟨v4, rfl, H4⟩
          obtain ⟨σ4, h4⟩ := H4.out
          have H4' : Hid (OJ W lb σ4 wr.heap.size #[.int .i64 kd, .int .i64 sd, .int .i64 ix, .int .i64 nn, .slice po m c] w4) := h4
          clear h4 H4 H3 o3
          go_wp2_with fail
          go_meet
          exact ⟨σ4, H4'.out⟩
        by_cases h6 : kd = 6
        · as_aux_lemma =>
          have e1 : (kd == 1) = false := by simp; exact h1
          have e2 : (kd == 2) = false := by simp; exact h2
          have e3 : (kd == 3) = false := by simp; exact h3
          have e4 : (kd == 4) = false := by simp; exact h4
          have e5 : (kd == 5) = false := by simp; exact h5
          have e6 : (kd == 6) = true := by simp; exact h6
          clear h1 h2 h3 h4 h5 h6
          clear HB3
          go_wp2_with fail
          refine (oNoise H3.out HY0.out sd).mono ?_
          rintro _ w4 ⟨v4, rfl, H4⟩
          obtain ⟨σ4, h4⟩ := H4.out
          have H4' : Hid (OJ W lb σ4 wr.heap.size #[.int .i64 kd, .int .i64 sd, .int .i64 ix, .int .i64 nn, .slice po m c] w4) := h4
          clear h4 H4 H3 o3
          go_wp2_with fail
          go_meet
          exact ⟨σ4, H4'.out⟩
        by_cases h7 : kd = 7
        · as_aux_lemma =>
          have e1 : (kd == 1) = false := by simp; exact h1
          have e2 : (kd == 2) = false := by simp; exact h2
          have e3 : (kd == 3) = false := by simp; exact h3
          have e4 : (kd == 4) = false := by simp; exact h4
          have e5 : (kd == 5) = false := by simp; exact h5
          have e6 : (kd == 6) = false := by simp; exact h6
          have e7 : (kd == 7) = true := by simp; exact h7
          clear h1 h2 h3 h4 h5 h6 h7
          clear HB3
          go_wp2_with fail
          refine (oRaw H3.out HY0.out sd).mono ?_
          rintro _ w4 ⟨v4, rfl, H4⟩
          obtain ⟨σ4, h4⟩ := H4.out
          have H4' : Hid (OJ W lb σ4 wr.heap.size #[.int .i64 kd, .int .i64 sd, .int .i64 ix, .int .i64 nn, .slice po m c] w4) := h4
          clear h4 H4 H3 o3
          go_wp2_with fail
          go_meet
          exact ⟨σ4, H4'.out⟩
        · as_aux_lemma =>
          have e1 : (kd == 1) = false := by simp; exact h1
          have e2 : (kd == 2) = false := by simp; exact h2
          have e3 : (kd == 3) = false := by simp; exact h3
          have e4 : (kd == 4) = false := by simp; exact h4
          have e5 : (kd == 5) = false := by simp; exact h5
          have e6 : (kd == 6) = false := by simp; exact h6
          have e7 : (kd == 7) = false := by simp; exact h7
          clear h1 h2 h3 h4 h5 h6 h7 HB3
          go_wp2_with fail
          go_meet
          exact ⟨σ, H3.out⟩
    · have hlt1 : ¬ (i : Int) < n := by omega
      have hbx : Below W.heap.size W wr := by
        obtain ⟨σ, hp, _⟩ := HI.out
        exact hp.b
      have HBX : Hid (Below W.heap.size W wr) := hbx
      clear hbx HI H5
      go_wp2_with fail
      refine (anchor_true _ (errType_below HE.out.1 HBX.out)).mono ?_
      rintro _ w6 ⟨rfl, hb6⟩
      have H6 : Hid (Below W.heap.size W w6) := below_then HBX.out hb6
      clear hb6 HBX
      go_wp2_with fail
      go_ret
      exact ⟨rfl, H6.out⟩
end Go.Proofs.YtpcickhellkiaaaDoor
