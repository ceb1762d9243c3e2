/-
  InboxKeeps, walked.
-/
import Derived.Test.YtnpndbehbcaghaaDoorIbKeepL
namespace Go.Proofs.YtnpndbehbcaghaaDoor
open Go.RowKit

section
variable {K R : Int} {ao : Option Addr} {n cap : Nat} {xs : List Stv}
theorem Bx.book2 {w w' : World} {B B' b sb M : Nat} {v u : Value} {K R : Int} {es : List Ent} {l : List Bk} (h : Bx w B b sb M v K R es) (hk : KRow w B' u l) (ho : Off (fun q => u.ownBlock = some q) w w') : Bx w' B b sb M v K R es := by
  have hk2 := hk
  unfold KRow ERow at hk2
  rcases hk2.2 with ⟨rfl, _⟩ | ⟨g1, c1, u1, rfl, _, b1, _⟩
  · exact h.below (ho.below (Nat.le_refl _) fun q hq => by cases hq)
  · exact h.book hk (ho.mono fun q hq => by
      have : some g1 = some q := hq
      cases this; rfl)
/-- Behind the step's call: what went is not yet told. -/
structure KM (w : World) (b sb M : Nat) (K R : Int) (i : Nat) (u : Value) (tick : Int) (ug : Value) (wx : World) : Prop where
  ex : ∃ es l v, Bx wx w.heap.size b sb M v K R (shedS K es) ∧ Below w.heap.size w wx ∧ KRow wx w.heap.size u l ∧ TRow wx 0 ug (goneS K es) ∧ Kin K l es ∧ (nDc es : Int) ≤ K + 2 ∧ tick = lastT (shedS K es) ∧ l.length ≤ i + 1 ∧ 1 ≤ l.length
set_option maxRecDepth 100000 in
set_option maxHeartbeats 16000000 in
theorem keeps_law (w : World) (k1 : 1 ≤ K) (k2 : K ≤ 64) (r1 : 1 ≤ R) (r2 : R ≤ 32) (hP : PVk w) (hO : Sts w ao xs) (hx : ∀ y ∈ xs, KeyS y.e.ct) (hn : xs.length = n) (hm : n ≤ 4000) : Calls Tryd.prog 3 #[.int .i64 K, .int .i64 R, .slice ao n cap] w fun r w' => r = .returned (.bool true) ∧ Below w.heap.size w w' := by
  have hnw := li_new w w (Below.refl _ _) k1 k2 r1 r2
  have g1 : K ≥ 1 := k1
  have g2 : K ≤ 64 := k2
  have g3 : R ≥ 1 := r1
  have g4 : R ≤ 32 := r2
  have g5 : ¬ (n : Int) > 4000 := by omega
  have HG : Hid (0 < w.heap.size) := cell_lt (hP 0 (by decide))
  have HO : Hid (Sts w ao xs ∧ (∀ y ∈ xs, KeyS y.e.ct) ∧ xs.length = n ∧ PVk w) := ⟨hO, hx, hn, hP⟩
  have HK : Hid (0 ≤ K ∧ 1 ≤ R) := by unfold Hid; omega
  clear k1 k2 r1 r2 hO hx hn hP
  go_enter Tryd.func3, Tryd.ntmps3
  go_wp2_with fail
  refine hnw.mono ?_
  rintro _ w1 ⟨b, sb, M, rfl, H1⟩
  have hlv := lives_any w1
  clear hnw
  go_wp2_with fail
  refine hlv.mono ?_
  rintro _ w2 ⟨rfl, hb2⟩
  have H2 : Hid (Li w w2 b sb M K R []) := H1.out.1.below hb2
  clear hlv hb2 H1
  go_wp2_with fail
  go_loopw [10, 11, 12] (fun t10 t11 t12 wx => ∃ (i : Nat) (tick : Int), i ≤ n ∧ t12 = .int .i64 i ∧ t11 = .int .i64 tick ∧ Hid (KpI w b sb M K R i t10 tick wx)) (fun _ _ t12 _ => n - (intOf t12).toNat)
  case atStart => exact ⟨0, 0, Nat.zero_le _, rfl, rfl, ⟨[], [], H2.out, ERow.nil _ _ _ _ _, Kin.nil K, rfl, Nat.le_refl _⟩⟩
  case round =>
    obtain ⟨i, tick, hi, rfl, rfl, HI⟩ := hrel
    by_cases hlt : i < n
    · have hlt1 : (i : Int) < n := by omega
      obtain ⟨es, l, ⟨⟨v, hbx⟩, hbel⟩, hkr, hkin, htick, hli⟩ := HI.out.ex
      obtain ⟨y, hy⟩ : ∃ y, xs[i]? = some y := ⟨_, List.getElem?_eq_getElem (by rw [HO.out.2.2.1]; exact hlt)⟩
      obtain ⟨ob, off, rfl, hbl, hat0⟩ := HO.out.1 i y hy
      have hat := hat0.below hbl hbel
      have cc := hat.cell
      have c0 := cc 0 (by decide)
      have c1 := cc 1 (by decide)
      have c2 := cc 2 (by decide)
      have c3 := cc 3 (by decide)
      have c4 := cc 4 (by decide)
      have c5 := cc 5 (by decide)
      have c6 := cc 6 (by decide)
      have c7 := cc 7 (by decide)
      have c8 := cc 8 (by decide)
      have c9 := cc 9 (by decide)
      simp [encT] at c0 c1 c2 c3 c4 c5 c6 c7 c8 c9
      have HY : Hid (KeyS y.e.ct ∧ Lies w y.e) := ⟨HO.out.2.1 y (List.mem_of_getElem? hy), hat0.lies⟩
      have hbl2 : ob < wr.heap.size := Nat.lt_of_lt_of_le hbl hbel.size
      have bv : Below wr.heap.size wr (wr.alloc (.cells (encT y).toArray 34)) := (Below.refl _ _).alloc (Nat.le_refl _) _
      have bx := Box.new wr (encT y).toArray 34
      have hV0 : ∃ V, wr.alloc (.cells (encT y).toArray 34) = V := ⟨_, rfl⟩
      obtain ⟨V, hV⟩ := hV0
      rw [hV] at bv bx
      simp only [encT] at hV bx
      obtain ⟨yb, hyb⟩ : ∃ yb, wr.heap.size = yb := ⟨_, rfl⟩
      have HF : Hid (∀ q, Ft sb M v q → q < yb) := fun q hq => by
        rw [← hyb]
        rcases hq with rfl | rfl | hq
        · exact hbx.sh.lt
        · exact hbx.sh.map.lt
        · exact (hbx.sh.row.lt hq).2
      obtain ⟨al, cl, el, _⟩ := ERow.isSlice hkr
      obtain ⟨nl, hnl⟩ : ∃ nl, l.length = nl := ⟨_, rfl⟩
      rw [hnl] at el
      subst el
      have HV : Hid (Bx V w.heap.size b sb M v K R es ∧ Below w.heap.size w V ∧ Box V yb #[.bool y.de, .int .i64 y.n, .int .i64 y.cd, .string y.e.ct, .slice y.e.tp y.e.tn y.e.tc, .int .i64 y.e.nu, .int .i64 y.e.tk, .slice y.e.cp y.e.cn y.e.cc, .string y.e.cd, .slice y.e.ap y.e.an y.e.ac] ∧ KRow V w.heap.size (.slice al nl cl) l ∧ yb ≤ V.heap.size) := ⟨hbx.below bv, below_then hbel bv, by rw [← hyb]; exact bx, hkr.below bv, by rw [← hyb]; exact bv.size⟩
      have HLN : Hid (l.length = nl ∧ nl ≤ i ∧ Kin K l es ∧ tick = lastT es ∧ w.heap.size ≤ yb) := ⟨hnl, by omega, hkin, htick, by rw [← hyb]; exact hbel.size⟩
      have hnl6 : nl ≤ 1000000 := by omega
      have hop := lopen_any HV.out.2.2.2.1 hnl6
      have HIB : Hid (KpI w b sb M K R i (.slice al nl cl) tick V) := HI.out.below bv (Nat.le_refl _)
      clear hbx hbel hkr hkin htick hli hy hat0 hat cc bv bx HI hnl
      go_wp2_with fail
      clear hV hyb c0 c1 c2 c3 c4 c5 c6 c7 c8 c9 hbl hbl2
      refine hop.mono ?_
      rintro _ w3 ⟨u3, rfl, i3, b3⟩
      obtain ⟨a3, k3, e3, _⟩ := ERow.isSlice i3
      obtain ⟨no, hno⟩ : ∃ no, (opN l).length = no := ⟨_, rfl⟩
      rw [hno] at e3
      subst e3
      have hno2 : no = nOp es := by rw [← hno, opN_len]; exact HLN.out.2.2.1.op
      have H3 : Hid (Bx w3 w.heap.size b sb M v K R es ∧ Below w.heap.size w w3 ∧ Box w3 yb #[.bool y.de, .int .i64 y.n, .int .i64 y.cd, .string y.e.ct, .slice y.e.tp y.e.tn y.e.tc, .int .i64 y.e.nu, .int .i64 y.e.tk, .slice y.e.cp y.e.cn y.e.cc, .string y.e.cd, .slice y.e.ap y.e.an y.e.ac] ∧ KRow w3 w.heap.size (.slice al nl cl) l ∧ IRow w3 V.heap.size (.slice a3 no k3) (opN l) ∧ Below V.heap.size V w3 ∧ yb ≤ V.heap.size) := ⟨HV.out.1.below b3, below_then HV.out.2.1 b3, HV.out.2.2.1.below b3, HV.out.2.2.2.1.below b3, i3, b3, HV.out.2.2.2.2⟩
      have HNO : Hid (no = nOp es ∧ no ≤ 1000) := ⟨hno2, by have := H3.out.1.inv.len; have := nOp_le es; omega⟩
      have cy := H3.out.2.2.1.cell
      clear hop i3 b3 hno hno2 HV
      go_upto_if 70 with fail
      go_cut [8, 10, 11, 15] from 57 to 185 (fun t8 t10 t11 t15 wx => ∃ tk : Int, t11 = .int .i64 tk ∧ Hid (KM w b sb M K R i t10 tk t15 wx))
      case first =>
        cases hde : y.de with
        | true =>
          rw [hde] at cy
          clear hde
          rcases Nat.eq_zero_or_pos no with h0 | h0
          · have q0 : ((no : Int) == 0) = true := by rw [h0]; rfl
            have HI9 : Hid (KpI w b sb M K R (i + 1) (.slice al nl cl) tick w3) := HIB.out.below H3.out.2.2.2.2.2.1 (by omega)
            clear h0
            go_wp2_with fail
            go_roundw
            case rel => exact ⟨i + 1, tick, hlt, by go_num, rfl, HI9⟩
            case measure => (simp [intOf]; try omega)
          · have q0 : ((no : Int) == 0) = false := by rw [beq_eq_false_iff_ne]; omega
            obtain ⟨jj, hjj⟩ : ∃ jj, wiN y.n no = jj := ⟨_, rfl⟩
            have hjn : jj < no := by rw [← hjj]; exact wiN_lt _ h0
            have hno6 : no ≤ 1000000 := by have := HNO.out.2; omega
            have hw1 := within_eq y.n w3 h0 hno6 hjj
            obtain ⟨k, hk⟩ : ∃ k, (opN l)[jj]? = some k := ⟨_, List.getElem?_eq_getElem (by rw [← ERow.len H3.out.2.2.2.2.1]; exact hjn)⟩
            obtain ⟨gi, eg, hgi, hci⟩ := ERow.at_ encI_len H3.out.2.2.2.2.1 hk
            have hci0 := hci 0 (by decide)
            rw [Nat.mul_one, Nat.add_zero] at hci0
            simp only [encI, List.getElem?_cons_zero] at hci0
            subst eg
            obtain ⟨bk, hbk, hbd⟩ := opN_at hk
            have hkl : k < nl := by rw [← HLN.out.1]; exact (List.getElem?_eq_some_iff.1 hbk).1
            obtain ⟨gl, el, hgl, e0, e1, e2⟩ := krow_at H3.out.2.2.2.1 hbk
            subst el
            have q1 : (jj : Int) < no := by omega
            have q2 : (k : Int) < nl := by omega
            obtain ⟨j3, hj3⟩ : ∃ j3, wiN y.cd 3 = j3 := ⟨_, rfl⟩
            have hj33 : j3 < 3 := by rw [← hj3]; exact wiN_lt _ (by decide)
            have q3 : (j3 : Int) < 3 := by omega
            have hw2 : Hid (∀ z, Calls Tryd.prog 10 #[.int .i64 y.cd, .int .i64 3] z fun r z' => r = .returned (.int .i64 (j3 : Int)) ∧ z' = z) := fun z => within_eq y.cd (n := 3) z (by decide) (by decide) hj3
            have cG : w3.cell? ⟨0, j3, none⟩ = some (.string (cdS j3)) := (HO.out.2.2.2.below H3.out.2.1 HG.out) j3 hj33
            obtain ⟨kc, hkc⟩ : ∃ kc, cdS j3 = kc := ⟨_, rfl⟩
            have hkv : vdB kc = true := by rw [← hkc]; exact cdS_vd j3
            rw [hkc] at cG
            obtain ⟨A, C, eAC, hAl⟩ := part_at hbk
            have hbg : bk.go = false := by
              cases hg : bk.go with
              | false => rfl
              | true => have := HLN.out.2.2.1.gd bk (List.mem_of_getElem? hbk) hg; rw [hbd] at this; cases this
            have hkin := HLN.out.2.2.1
            rw [eAC] at hkin
            obtain ⟨x, hx1, hx2, hx3⟩ := hkin.at_ hbg
            have hop2 : opB x = true := by unfold opB; rw [hbd] at hx3; unfold dcB at hx3; simpa using hx3
            have hfi : fi bk.ct es = some (kp A).length := by rw [← hx2]; exact H3.out.1.sh.dis.fi hx1
            have hks : KeyS bk.ct := by rw [← hx2]; exact keyS_of (H3.out.1.sh.ok x (List.mem_of_getElem? hx1))
            have hdy : Hid (∀ z, Below w3.heap.size w3 z → Calls Tryd.prog 11 #[.pointer (some ⟨b, 0, none⟩), .string bk.ct, .string kc, .slice none 0 0] z fun r z' => ∃ u, r = .returned (.tuple #[u, .nilIface]) ∧ Hid (DcQ w3 w.heap.size b sb M v K R es (kp A).length x kc 0 [] u z')) := fun z hz =>
              (dec_yes (H3.out.1.below hz) hks (Byts.nil _ _) hkv (by decide) hfi hx1 hop2).mono fun r z' ⟨u, h1, h2⟩ => ⟨u, h1, by
                obtain ⟨p9, c9, h3, h4⟩ := h2.out
                exact ⟨p9, c9, ERow.base h3 hz.size, BxQ.of_below hz h4⟩⟩
            have HD : Hid (l = A ++ bk :: C ∧ A.length = k ∧ bk.de = false ∧ es[(kp A).length]? = some x ∧ x.ct = bk.ct ∧ opB x = true ∧ mayB x = true ∧ vdB kc = true ∧ l[k]? = some bk) := ⟨eAC, hAl, hbd, hx1, hx2, hop2, H3.out.1.sh.ok x (List.mem_of_getElem? hx1), hkv, hbk⟩
            have lG : 0 < w3.heap.size := Nat.lt_of_lt_of_le HG.out H3.out.2.1.size
            have ly := H3.out.2.2.1.lt
            clear h0 hjj hk hci hgi hbk hbd hj3 hj33 hkc hkv eAC hAl hbg hkin hx1 hx2 hx3 hop2 hfi hks
            go_upto_region 18 with (go_at_call 10; refine hw1.mono ?_; rintro _ w9 ⟨rfl, h9⟩; subst w9)
            clear hw1
            go_cut [8, 15] from 57 to 185 (fun t8 t15 wx => t8 = .nilIface ∧ Hid (DcQ w3 w.heap.size b sb M v K R es (kp A).length x kc 0 [] t15 wx))
            case first =>
              go_region_law (first | (go_simp; go_at_call 10; refine (hw2.out _).mono ?_; rintro _ w9 ⟨rfl, h9⟩; subst w9; go_wp2_with fail) | (go_simp; go_at_call 11; refine (hdy.out _ ?_).mono ?_; (repeat' (first | exact Below.refl _ _ | refine Below.drew ?_)); rintro _ w6 ⟨u6, rfl, hh6⟩; go_wp2_with fail))
              all_goals
                go_wp2_with fail
                go_meet
                exact ⟨rfl, hh6⟩
            case rest =>
              obtain ⟨rfl, hh6⟩ := hcut
              obtain ⟨w6, hw6⟩ : ∃ w6, wc = w6 := ⟨_, rfl⟩
              obtain ⟨u6, hu6⟩ : ∃ u6, u15 = u6 := ⟨_, rfl⟩
              rw [hw6, hu6] at hh6
              rw [hw6, hu6]
              clear hw6 hu6 hw2 hdy cG lG ly e0 e1 e2 hci0
              obtain ⟨pp, pc, t6, q6⟩ := hh6.out
              obtain ⟨ag, kg, eg6, _⟩ := ERow.isSlice t6
              have hkr6 := krow_bx H3.out.1 q6 H3.out.2.2.2.1
              obtain ⟨v6, hbx6, o6, _⟩ := q6
              have hbel6 : Below w.heap.size w w6 := H3.out.2.1.trans (o6.below H3.out.2.1.size fun q hq => H3.out.1.ft hq)
              have hrow7 := ks_set hkr6 HD.out.2.2.2.2.2.2.2.2 1 (Or.inl rfl) true
              rw [if_pos rfl] at hrow7
              obtain ⟨g6, eq6, _, f0, f1, f2⟩ := krow_at hkr6 HD.out.2.2.2.2.2.2.2.2
              obtain rfl : gl = g6 := by simpa using eq6
              have fz := ERow.thaw hkr6 (k * 3 + 1)
              have o7 : Off (fun q => q = gl) w6 (w6.setCell ⟨gl, k * 3 + 1, none⟩ (.bool true)) := Off.setCell (P := fun q => q = gl) (Off.refl _ _) (p := ⟨gl, k * 3 + 1, none⟩) rfl _
              have hbx7 := hbx6.book hkr6 o7
              have hgw : w.heap.size ≤ gl := (ERow.lt hkr6 (g := gl) rfl).1
              have hbel7 : Below w.heap.size w (w6.setCell ⟨gl, k * 3 + 1, none⟩ (.bool true)) := hbel6.trans (o7.below hbel6.size fun q hq => by omega)
              have t7 : TRow (w6.setCell ⟨gl, k * 3 + 1, none⟩ (.bool true)) 0 u6 (goneS K (es.set (kp A).length (x.vd kc pp 0 pc []))) := ERow.base (ERow.off t6 o7 fun q hq e => own_ne t6 hkr6 (by decide) q hq (by rw [e]; rfl)) (Nat.zero_le _)
              have hset : l.set k { bk with de := true } = A ++ { bk with de := true } :: C := by
                rw [HD.out.1, ← HD.out.2.1, List.set_append_right _ _ (Nat.le_refl _), Nat.sub_self, List.set_cons_zero]
              rw [hset] at hrow7
              have hmv := may_vd HD.out.2.2.2.2.2.2.1 pp pc [] HD.out.2.2.2.2.2.2.2.1 (show 0 ≤ 2048 by decide)
              have hkin1 : Kin K (A ++ { bk with de := true } :: C) (es.set (kp A).length (x.vd kc pp 0 pc [])) := by
                have h1 := HLN.out.2.2.1
                rw [HD.out.1] at h1
                exact h1.dcd HD.out.2.2.1 (y := x.vd kc pp 0 pc []) HD.out.2.2.2.2.1 (by have := hmv.2; unfold opB at this; unfold dcB; simpa using this)
              have hdc1 : (nDc (es.set (kp A).length (x.vd kc pp 0 pc [])) : Int) ≤ K + 2 := by
                have h1 := nOp_set HD.out.2.2.2.1 HD.out.2.2.2.2.2.1 hmv.2
                have h2 := nOp_add es
                have h3 := nOp_add (es.set (kp A).length (x.vd kc pp 0 pc []))
                rw [List.length_set] at h3
                have h4 := H3.out.1.inv.dc
                omega
              have hlt7 : lastT (shedS K (es.set (kp A).length (x.vd kc pp 0 pc []))) = lastT es := by rw [lastT_shed HK.out.1, lastT_set (y := x.vd kc pp 0 pc []) HD.out.2.2.2.1 rfl]
              obtain ⟨V7, hV7⟩ : ∃ V7, w6.setCell ⟨gl, k * 3 + 1, none⟩ (.bool true) = V7 := ⟨_, rfl⟩
              rw [hV7] at hrow7 hbx7 hbel7 t7
              have H7 : Hid (Bx V7 w.heap.size b sb M v6 K R (shedS K (es.set (kp A).length (x.vd kc pp 0 pc []))) ∧ Below w.heap.size w V7 ∧ KRow V7 w.heap.size (.slice (some ⟨gl, 0, none⟩) nl cl) (A ++ { bk with de := true } :: C) ∧ TRow V7 0 u6 (goneS K (es.set (kp A).length (x.vd kc pp 0 pc []))) ∧ Kin K (A ++ { bk with de := true } :: C) (es.set (kp A).length (x.vd kc pp 0 pc [])) ∧ (nDc (es.set (kp A).length (x.vd kc pp 0 pc [])) : Int) ≤ K + 2 ∧ tick = lastT (shedS K (es.set (kp A).length (x.vd kc pp 0 pc [])))) := ⟨hbx7, hbel7, hrow7, t7, hkin1, hdc1, by rw [hlt7]; exact HLN.out.2.2.2.1⟩
              have hn1 : 1 ≤ nl := by omega
              have HTK : Hid (tick = lastT (shedS K (es.set (kp A).length (x.vd kc pp 0 pc [])))) := H7.out.2.2.2.2.2.2
              clear hh6 hkr6 hbx6 o6 hbel6 hrow7 eq6 o7 hbx7 hgw hbel7 hset hmv hkin1 hdc1 hlt7
              subst eg6
              clear t6 t7
              have HKM : Hid (KM w b sb M K R i (.slice (some ⟨gl, 0, none⟩) nl cl) tick (.slice ag (goneS K (es.set (kp A).length (x.vd kc pp 0 pc []))).length kg) V7) := by
                refine ⟨_, _, v6, H7.out.1, H7.out.2.1, H7.out.2.2.1, H7.out.2.2.2.1, H7.out.2.2.2.2.1, H7.out.2.2.2.2.2.1, H7.out.2.2.2.2.2.2, ?_, ?_⟩
                · rw [← ERow.len H7.out.2.2.1]; have := HLN.out.2.1; omega
                · rw [← ERow.len H7.out.2.2.1]; omega
              clear H7 HTK
              go_wp2_with fail
              go_meet
              exact ⟨tick, rfl, HKM⟩
        | false =>
          rw [hde] at cy
          clear hde
          obtain ⟨tk5, htk5⟩ : ∃ tk5, (if y.e.tk < tick then tick else y.e.tk) = tk5 := ⟨_, rfl⟩
          have bv4 : Below w3.heap.size w3 (w3.alloc (.cells #[.string y.e.ct, .slice y.e.tp y.e.tn y.e.tc, .int .i64 y.e.nu, .int .i64 y.e.tk, .slice y.e.cp y.e.cn y.e.cc, .string y.e.cd, .slice y.e.ap y.e.an y.e.ac] 32)) := (Below.refl _ _).alloc (Nat.le_refl _) _
          have bx4 := Box.new w3 #[.string y.e.ct, .slice y.e.tp y.e.tn y.e.tc, .int .i64 y.e.nu, .int .i64 y.e.tk, .slice y.e.cp y.e.cn y.e.cc, .string y.e.cd, .slice y.e.ap y.e.an y.e.ac] 32
          obtain ⟨W4, hW4⟩ : ∃ W4, w3.alloc (.cells #[.string y.e.ct, .slice y.e.tp y.e.tn y.e.tc, .int .i64 y.e.nu, .int .i64 y.e.tk, .slice y.e.cp y.e.cn y.e.cc, .string y.e.cd, .slice y.e.ap y.e.an y.e.ac] 32) = W4 := ⟨_, rfl⟩
          rw [hW4] at bv4 bx4
          obtain ⟨xb, hxb⟩ : ∃ xb, w3.heap.size = xb := ⟨_, rfl⟩
          rw [hxb] at bx4
          have cx4 := bx4.cell
          have fx4 := bx4.free
          have HX : Hid (w3.heap.size = xb) := hxb
          go_upto_if 108 with fail
          clear hW4 hxb cy
          go_cut [] from 57 to 185 (fun wx => Hid (Box wx xb #[.string y.e.ct, .slice y.e.tp y.e.tn y.e.tc, .int .i64 y.e.nu, .int .i64 tk5, .slice y.e.cp y.e.cn y.e.cc, .string y.e.cd, .slice y.e.ap y.e.an y.e.ac] ∧ Off (fun q => q = xb) W4 wx))
          case first =>
            by_cases hlt5 : y.e.tk < tick
            · rw [if_pos hlt5] at htk5
              subst htk5
              have hb5 := bx4.pPut (j := 3) (by simp) (.int .i64 tick)
              have ho5 : Off (fun q => q = xb) W4 (W4.setCell ⟨xb, 3, none⟩ (.int .i64 tick)) := Off.setCell (P := fun q => q = xb) (Off.refl _ _) (p := ⟨xb, 3, none⟩) rfl _
              go_wp2_with fail
              go_meet
              exact ⟨hb5, ho5⟩
            · rw [if_neg hlt5] at htk5
              subst htk5
              go_wp2_with fail
              go_meet
              exact ⟨bx4, Off.refl _ _⟩
          case rest =>
            obtain ⟨W5, hW5⟩ : ∃ W5, wc = W5 := ⟨_, rfl⟩
            rw [hW5] at hcut
            rw [hW5]
            clear hW5 cx4 fx4
            obtain ⟨e5, he5⟩ : ∃ e5 : Ent, { y.e with tk := tk5 } = e5 := ⟨_, rfl⟩
            have bx5 : Box W5 xb #[.string e5.ct, .slice e5.tp e5.tn e5.tc, .int .i64 e5.nu, .int .i64 e5.tk, .slice e5.cp e5.cn e5.cc, .string e5.cd, .slice e5.ap e5.an e5.ac] := by rw [← he5]; exact hcut.out.1
            have b35 : Below w3.heap.size w3 W5 := bv4.trans (hcut.out.2.below bv4.size fun q hq => by rw [hq, ← HX.out]; exact Nat.le_refl _)
            have hw5 : Below w.heap.size w W5 := below_then H3.out.2.1 b35
            have ls5 : Lies W5 e5 := by
              have h1 := HY.out.2.below hw5
              rw [← he5]
              exact ⟨h1.t, h1.c, h1.a⟩
            have kc5 : KeyS e5.ct := by rw [← he5]; exact HY.out.1
            have lt5 : lastT es ≤ e5.tk := by
              rw [← he5, ← HLN.out.2.2.2.1]
              show tick ≤ tk5
              rw [← htk5]
              split <;> omega
            have hmb := rMayBe_any e5 W5
            have c5 := bx5.cell
            have H5 : Hid (Bx W5 w.heap.size b sb M v K R es ∧ Below w.heap.size w W5 ∧ KRow W5 w.heap.size (.slice al nl cl) l ∧ Box W5 xb #[.string e5.ct, .slice e5.tp e5.tn e5.tc, .int .i64 e5.nu, .int .i64 e5.tk, .slice e5.cp e5.cn e5.cc, .string e5.cd, .slice e5.ap e5.an e5.ac] ∧ Lies W5 e5 ∧ KeyS e5.ct ∧ lastT es ≤ e5.tk ∧ KpI w b sb M K R (i + 1) (.slice al nl cl) tick W5 ∧ yb ≤ xb) := ⟨H3.out.1.below b35, hw5, H3.out.2.2.2.1.below b35, bx5, ls5, kc5, lt5, HIB.out.below (below_then H3.out.2.2.2.2.2.1 b35) (by omega), by have h1 := H3.out.2.2.2.2.2.2; have h2 := H3.out.2.2.2.2.2.1.size; have h3 := HX.out; omega⟩
            clear bv4 bx4 hcut he5 bx5 b35 hw5 ls5 kc5 lt5 htk5 HIB H3 HX
            go_wp2_with fail
            refine hmb.mono ?_
            rintro _ W6 ⟨rfl, b6⟩
            have H6 : Hid (Bx W6 w.heap.size b sb M v K R es ∧ Below w.heap.size w W6 ∧ KRow W6 w.heap.size (.slice al nl cl) l ∧ Box W6 xb #[.string e5.ct, .slice e5.tp e5.tn e5.tc, .int .i64 e5.nu, .int .i64 e5.tk, .slice e5.cp e5.cn e5.cc, .string e5.cd, .slice e5.ap e5.an e5.ac] ∧ Lies W6 e5 ∧ KeyS e5.ct ∧ lastT es ≤ e5.tk ∧ KpI w b sb M K R (i + 1) (.slice al nl cl) tick W6 ∧ yb ≤ xb) := ⟨H5.out.1.below b6, below_then H5.out.2.1 b6, H5.out.2.2.1.below b6, H5.out.2.2.2.1.below b6, H5.out.2.2.2.2.1.below b6, H5.out.2.2.2.2.2.1, H5.out.2.2.2.2.2.2.1, H5.out.2.2.2.2.2.2.2.1.below b6 (Nat.le_refl _), H5.out.2.2.2.2.2.2.2.2⟩
            have HI6 : Hid (KpI w b sb M K R (i + 1) (.slice al nl cl) tick W6) := H6.out.2.2.2.2.2.2.2.1
            have c6 := H6.out.2.2.2.1.cell
            have hkn := known_any H6.out.2.2.1 hnl6 e5.ct
            clear hmb c5 b6 H5
            cases hmy : mayB e5 with
            | false =>
              clear hkn
              go_wp2_with fail
              go_roundw
              case rel => exact ⟨i + 1, tick, hlt, by go_num, rfl, HI6⟩
              case measure => (simp [intOf]; try omega)
            | true =>
              cases hcd : e5.cd.toList.isEmpty with
              | false =>
                clear hkn
                go_wp2_with fail
                go_roundw
                case rel => exact ⟨i + 1, tick, hlt, by go_num, rfl, HI6⟩
                case measure => (simp [intOf]; try omega)
              | true =>
                cases hk : l.any (knB e5.ct) with
                | true =>
                  rw [hk] at hkn
                  clear hk
                  go_wp2_with fail
                  refine hkn.mono ?_
                  rintro _ W7 ⟨rfl, hW7⟩
                  subst hW7
                  clear hkn
                  go_wp2_with fail
                  go_roundw
                  case rel => exact ⟨i + 1, tick, hlt, by go_num, rfl, HI6⟩
                  case measure => (simp [intOf]; try omega)
                | false =>
                  rw [hk] at hkn
                  have hfi : fi e5.ct es = none := by
                    have h1 := kin_known HLN.out.2.2.1 e5.ct
                    rw [hk] at h1
                    cases h2 : fi e5.ct es with
                    | none => rfl
                    | some j => rw [h2] at h1; cases h1
                  have hdc : dcB e5 = false := by unfold dcB; rw [hcd]; rfl
                  have hop5 : opB e5 = true := hcd
                  have hge := H6.out.2.2.2.2.2.2.1
                  have hle1 : (nOp es : Int) ≤ R := H6.out.1.inv.op
                  clear hk
                  by_cases hR : (nOp es : Int) = R
                  · have hz : accC R es e5 = 7 := by
                      unfold accC refS
                      rw [hdc, hmy, hfi, hop5, decide_eq_true hR, decide_eq_false (show ¬ e5.tk < lastT es by omega)]
                      rfl
                    have hac := acc_no H6.out.1 e5 H6.out.2.2.2.2.2.1 hz (by decide)
                    have qR : ¬ (no : Int) < R := by rw [HNO.out.1]; omega
                    have HL1 : Hid (1 ≤ l.length) := by
                      rcases Nat.eq_zero_or_pos l.length with h0 | h0
                      · have h1 := HLN.out.2.2.1.op
                        rw [List.eq_nil_of_length_eq_zero h0] at h1
                        have h2 := HK.out.2
                        simp at h1
                        omega
                      · exact h0
                    clear hz hR hfi hdc hop5 hge hle1
                    go_wp2_with fail
                    refine hkn.mono ?_
                    rintro _ W7 ⟨rfl, hW7⟩
                    subst hW7
                    clear hkn
                    go_wp2_with fail
                    refine hac.mono ?_
                    rintro _ W8 ⟨ev, rfl, _, _, b8⟩
                    have HKM : Hid (KM w b sb M K R i (.slice al nl cl) tick (.slice none 0 0) W8) := by
                      obtain ⟨s1, s2⟩ := shed_id (K := K) (es := es) H6.out.1.inv.dc
                      refine ⟨es, l, v, by rw [s1]; exact H6.out.1.below b8, below_then H6.out.2.1 b8, H6.out.2.2.1.below b8, by rw [s2]; exact ERow.nil _ _ _ _ _, HLN.out.2.2.1, by have := H6.out.1.inv.dc; omega, by rw [s1]; exact HLN.out.2.2.2.1, by rw [HLN.out.1]; have := HLN.out.2.1; omega, HL1.out⟩
                    clear hac b8 H6 HL1 c6
                    go_wp2_with fail
                    go_meet
                    exact ⟨tick, rfl, HKM⟩
                  · have hz : accC R es e5 = 0 := by
                      unfold accC refS
                      rw [hdc, hmy, hfi, decide_eq_false hR, decide_eq_false (show ¬ e5.tk < lastT es by omega), Bool.and_false]
                      rfl
                    have hac := acc_yes H6.out.1 e5 H6.out.2.2.2.2.2.1 H6.out.2.2.2.2.1 hz
                    have qR : (no : Int) < R := by rw [HNO.out.1]; omega
                    have HDC : Hid (dcB e5 = false) := hdc
                    clear hz hR hfi hdc hop5 hge hle1
                    go_wp2_with fail
                    refine hkn.mono ?_
                    rintro _ W7 ⟨rfl, hW7⟩
                    subst hW7
                    clear hkn
                    go_wp2_with fail
                    refine hac.mono ?_
                    rintro _ W8 ⟨rfl, hq8⟩
                    obtain ⟨p1, c1, p2, c2, p3, c3, q8⟩ := hq8.out
                    have hkr8 := krow_bx H6.out.1 q8 H6.out.2.2.1
                    obtain ⟨v8, hbx8, o8, _⟩ := q8
                    have hbel8 : Below w.heap.size w W8 := H6.out.2.1.trans (o8.below H6.out.2.1.size fun q hq => H6.out.1.ft hq)
                    have bx8 : Box W8 xb #[.string e5.ct, .slice e5.tp e5.tn e5.tc, .int .i64 e5.nu, .int .i64 e5.tk, .slice e5.cp e5.cn e5.cc, .string e5.cd, .slice e5.ap e5.an e5.ac] := H6.out.2.2.2.1.off o8 fun hq => by have h1 := HF.out _ hq; have h2 := H6.out.2.2.2.2.2.2.2.2; omega
                    have c8 := bx8.cell
                    obtain ⟨a9, k9, W9, hap, r9, o9, _⟩ := run_epush (P := Tryd.prog) (t := 29) Tryd.underlying29 celK encK_len encK_one (w := W8) hkr8 ⟨e5.ct, false, false⟩ #[.string e5.ct, .bool false, .bool false] rfl (by have h1 := HLN.out.1; omega) (by decide) hbel8.size
                    rw [HLN.out.1] at hap r9
                    have HKM : Hid (KM w b sb M K R i (.slice a9 (nl + 1) k9) e5.tk (.slice none 0 0) W9) := by
                      have hd8 : dcB (e5.wi p1 c1 p2 c2 p3 c3) = false := HDC.out
                      have hn8 : nDc (es ++ [e5.wi p1 c1 p2 c2 p3 c3]) = nDc es := by
                        unfold nDc
                        rw [List.countP_append]
                        simp [hd8]
                      have hn9 : (nDc (es ++ [e5.wi p1 c1 p2 c2 p3 c3]) : Int) ≤ K + 1 := by rw [hn8]; exact H6.out.1.inv.dc
                      obtain ⟨s1, s2⟩ := shed_id (K := K) (es := es ++ [e5.wi p1 c1 p2 c2 p3 c3]) hn9
                      refine ⟨es ++ [e5.wi p1 c1 p2 c2 p3 c3], l ++ [⟨e5.ct, false, false⟩], v8, by rw [s1]; exact hbx8.book2 hkr8 o9, hbel8.trans (o9.below hbel8.size fun q hq => (ERow.lt hkr8 hq).1), r9, by rw [s2]; exact ERow.nil _ _ _ _ _, HLN.out.2.2.1.snoc hd8, by omega, ?_, ?_, ?_⟩
                      · rw [s1, lastT_at (m := es.length) (x := e5.wi p1 c1 p2 c2 p3 c3) (by simp) (by simp)]
                      · rw [List.length_append, HLN.out.1]
                        have := HLN.out.2.1
                        simp
                        try omega
                      · rw [List.length_append]
                        simp
                    clear hac hq8 hkr8 hbx8 o8 hbel8 bx8 r9 o9 H6 HDC c6
                    go_wp2_with (at_builtin; refine wpList_append_run rfl (.tmp 140) (.tmp 144) 29 _ rfl hap ?_)
                    go_meet
                    exact ⟨e5.tk, rfl, HKM⟩
      case rest =>
        obtain ⟨tk9, rfl, hkm⟩ := hcut
        clear H3 HIB HNO cy HO HY
        obtain ⟨V7, hV7⟩ : ∃ V7, wc = V7 := ⟨_, rfl⟩
        obtain ⟨uA, hA⟩ : ∃ uA, u10 = uA := ⟨_, rfl⟩
        obtain ⟨uG, hG⟩ : ∃ uG, u15 = uG := ⟨_, rfl⟩
        rw [hV7, hA, hG] at hkm
        rw [hV7, hA, hG]
        clear hV7 hA hG
        obtain ⟨ES, LX, v6, h7⟩ := hkm.out.ex
        have H7 : Hid _ := h7
        clear hkm h7
        obtain ⟨al7, cl2, e7, _⟩ := ERow.isSlice H7.out.2.2.1
        obtain ⟨nl2, hnl2⟩ : ∃ nl2, LX.length = nl2 := ⟨_, rfl⟩
        rw [hnl2] at e7
        have hn1 : 1 ≤ nl2 := by rw [← hnl2]; exact H7.out.2.2.2.2.2.2.2.2
        have hn2 : nl2 ≤ i + 1 := by rw [← hnl2]; exact H7.out.2.2.2.2.2.2.2.1
        have hnl6b : nl2 ≤ 1000000 := by omega
        subst e7
        obtain ⟨b0, hb0⟩ : ∃ b0, LX[0]? = some b0 := ⟨_, List.getElem?_eq_getElem (by omega)⟩
        obtain ⟨gl, eg7, _⟩ := krow_at H7.out.2.2.1 hb0
        subst eg7
        obtain ⟨ag, kg, eg6, _⟩ := ERow.isSlice H7.out.2.2.2.1
        subst eg6
        have HTK : Hid (tk9 = lastT (shedS K ES)) := H7.out.2.2.2.2.2.2.1
        clear hb0 hnl2
        have hst := (H7.out.2.2.2.2.1).step HK.out.1 H7.out.2.2.2.2.2.1
        obtain ⟨f, hf1, hf2, hf3⟩ := hst
        have hgo := goes_any H7.out.2.2.1 hnl6b hf1
        have HKin : Hid (goneS K (ES) = goW (LX) f ∧ Kin K (gset (LX) f) (shedS K (ES))) := ⟨hf2, hf3⟩
        clear hf1 hf2 hf3
        go_wp2_with fail

        refine hgo.mono ?_
        rintro _ w8 ⟨u8, rfl, t8, k8, o8⟩
        obtain ⟨a8, c8, e8, _⟩ := ERow.isSlice t8
        have t80 : TRow w8 0 u8 (goneS K (ES)) := by rw [HKin.out.1]; exact ERow.base t8 (Nat.zero_le _)
        have hgl8 : w.heap.size ≤ gl := (ERow.lt H7.out.2.2.1 (g := gl) rfl).1
        have hlen8 : (goW (LX) f).length = (goneS K (ES)).length := by rw [HKin.out.1]
        rw [hlen8] at e8
        subst e8
        have H8 : Hid (Bx w8 w.heap.size b sb M v6 K R (shedS K (ES)) ∧ Below w.heap.size w w8 ∧ KRow w8 w.heap.size (.slice (some ⟨gl, 0, none⟩) nl2 cl2) (gset (LX) f) ∧ TRow w8 0 (.slice ag (goneS K (ES)).length kg) (goneS K (ES)) ∧ TRow w8 0 (.slice a8 (goneS K (ES)).length c8) (goneS K (ES))) := by
          refine ⟨H7.out.1.book H7.out.2.2.1 o8, H7.out.2.1.trans (o8.below H7.out.2.1.size fun q hq => by omega), k8, ?_, t80⟩
          exact ERow.off H7.out.2.2.2.1 o8 fun q hq e => own_ne H7.out.2.2.2.1 H7.out.2.2.1 (by decide) q hq (by rw [e]; rfl)
        obtain ⟨le, hle⟩ : ∃ le, lasE (shedS K (ES)) = le := ⟨_, rfl⟩
        obtain ⟨n1, HN1⟩ : ∃ n1, Hid (nl2 = n1 + 1) := ⟨nl2 - 1, by unfold Hid; omega⟩
        have hlg : (gset (LX) f).length = n1 + 1 := by rw [← HN1.out]; exact (ERow.len H8.out.2.2.1).symm
        obtain ⟨bl, hbl9⟩ : ∃ bl, (gset (LX) f)[n1]? = some bl := ⟨_, List.getElem?_eq_getElem (by omega)⟩
        have hlast := HKin.out.2.last HK.out.1 hlg hbl9
        rw [hle] at hlast
        have hls := blast_any H8.out.1 hle (t := true) (decide_eq_true hlast.1)
        have HLA : Hid (le.ct = bl.ct) := hlast.2
        clear hgo t8 t80 k8 o8 hgl8 hlen8 H7 hlast
        go_wp2_with fail
        refine hls.mono ?_
        rintro _ w9 ⟨p1, c1, p2, c2, p3, c3, rfl, o9, b9⟩
        have bv9 : Below w9.heap.size w9 (w9.alloc (.cells #[.string le.ct, .slice p1 le.tn c1, .int .i64 le.nu, .int .i64 le.tk, .slice p2 le.cn c2, .string le.cd, .slice p3 le.an c3] 32)) := (Below.refl _ _).alloc (Nat.le_refl _) _
        have bx9 := Box.new w9 #[.string le.ct, .slice p1 le.tn c1, .int .i64 le.nu, .int .i64 le.tk, .slice p2 le.cn c2, .string le.cd, .slice p3 le.an c3] 32
        clear hls o9
        go_wp2_with fail
        generalize w9.alloc (.cells #[.string le.ct, .slice p1 le.tn c1, .int .i64 le.nu, .int .i64 le.tk, .slice p2 le.cn c2, .string le.cd, .slice p3 le.an c3] 32) = V9 at bv9 bx9 ⊢
        obtain ⟨xb9, hxb9⟩ : ∃ xb9, w9.heap.size = xb9 := ⟨_, rfl⟩
        rw [hxb9] at bx9 ⊢
        have b89 := below_then b9 bv9
        have hK9 := ERow.below H8.out.2.2.1 b89
        obtain ⟨g9, eg9, _, d9, _, _⟩ := krow_at hK9 hbl9
        obtain rfl : gl = g9 := by simpa using eg9
        have hL9 : Li w V9 b sb M K R (shedS K (ES)) := ⟨⟨_, H8.out.1.below b89⟩, below_then H8.out.2.1 b89⟩
        have hth := HKin.out.2.there hL9.dis hL9.ok
        have HSub : Hid (∀ x : Sub V9, KpI w b sb M K R (i + 1) (.slice (some ⟨gl, 0, none⟩) nl2 cl2) (tk9) x.1) := fun x => ⟨_, _, hL9.below x.2, hK9.below x.2, HKin.out.2, HTK.out, by rw [hlg, ← HN1.out]; exact hn2⟩
        have cst : ∀ x : Sub V9, Calls Tryd.prog 17 #[.slice ag (goneS K (ES)).length kg, .slice a8 (goneS K (ES)).length c8] x.1 fun r x' => r = .returned (.bool true) ∧ ∃ z : Sub V9, x' = z.1 := fun x =>
          (sameTexts_true ((H8.out.2.2.2.1.below b89).below x.2) ((H8.out.2.2.2.2.below b89).below x.2)).mono fun r x' ⟨h1, m1, h2⟩ => ⟨h1, ⟨x', by rw [h2]; exact below_drewN x.2 m1⟩, rfl⟩
        have cth : ∀ x : Sub V9, Calls Tryd.prog 18 #[.pointer (some ⟨b, 0, none⟩), .slice (some ⟨gl, 0, none⟩) nl2 cl2] x.1 fun r x' => r = .returned (.bool true) ∧ ∃ z : Sub V9, x' = z.1 := fun x =>
          (there_true (hL9.below x.2) (hK9.below x.2) hnl6b hth.1 hth.2).mono fun r x' ⟨h1, h2⟩ => ⟨h1, ⟨x', below_then x.2 h2⟩, rfl⟩
        have lx9 := sub_box bx9
        have ld9 : ∀ x : Sub V9, x.1.cell? ⟨gl, n1 * 3, none⟩ = some (.string bl.ct) := fun x => by rw [x.2.cell (p := ⟨gl, n1 * 3, none⟩) (cell_lt d9)]; exact d9
        have qa : (nl2 : Int) > 0 := by omega
        have qa2 : 0 < nl2 := by omega
        have qb : IntKind.i64.wrap ((nl2 : Int) - 1) = (n1 : Int) := by have h1 := HN1.out; rw [IntKind.wrap_i64]; omega
        have qc : (n1 : Int) < nl2 := by have h1 := HN1.out; omega
        have qd : (le.ct.toList == bl.ct.toList) = true := by rw [HLA.out]; exact str_same _
        obtain ⟨ngg, hngg⟩ : ∃ ngg, (goneS K (ES)).length = ngg := ⟨_, rfl⟩
        rw [hngg] at cst ⊢
        haveI hne9 : Nonempty (Sub V9) := ⟨⟨V9, Below.refl _ _⟩⟩
        clear hngg hlg hbl9 hle H8 b9 bv9 bx9 hxb9 b89 hK9 eg9 d9 hL9 hth HKin HTK
        refine wp_region_class (V := V9) (Below.refl _ _) (by kernel_rfl) (by kernel_rfl) ?_
        repeat (go_big_quiet_step ((first | (go_at_call 17; exact cst _) | (go_at_call 18; exact cth _))))
        refine wpQuiet_nil ?_
        rintro wc ⟨xwc, rfl⟩
        have HI9 : Hid (KpI w b sb M K R (i + 1) (.slice (some ⟨gl, 0, none⟩) nl2 cl2) (tk9) xwc.1) := HSub.out xwc
        clear cst cth lx9 ld9 hne9 HSub
        go_wp2_with fail
        go_roundw
        case rel => exact ⟨i + 1, _, hlt, by go_num, rfl, HI9⟩
        case measure => (simp [intOf]; try omega)
    · have hlt1 : ¬ (i : Int) < n := by omega
      obtain ⟨es, l, hL, _⟩ := HI.out.ex
      have HB9 : Hid (Below w.heap.size w wr) := hL.2
      clear hL HI
      go_wp2_with fail
      go_ret
      exact ⟨rfl, HB9.out⟩
end
end Go.Proofs.YtnpndbehbcaghaaDoor
