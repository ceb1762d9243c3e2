import Derived.Test.YtplhdgijjckjcaaGreatDoorIcCl
import Derived.Test.YtplhdgijjckjcaaGreatDoorIcHd2
import Derived.Test.YtplhdgijjckjcaaGreatDoorIbCode
/-
  The law's accepts.
-/
namespace Go.Proofs.YtplhdgijjckjcaaGreatDoor
open Go.RowKit

theorem blk_below {w w' : World} {q : Nat} {x : Obj} (h : w.heap[q]? = some x) (hb : Below w.heap.size w w') : w'.heap[q]? = some x := (hb.block q (blk_lt h)).trans h
theorem num_any (c : Int) (w : World) : Calls Tryz.prog 9 #[.int .i64 c] w fun r w' => r = .returned (.int .i64 c) ∧ w' = w := by
  go_enter Tryz.func9, Tryz.ntmps9
  go_wp2
  go_ret
  exact ⟨rfl, rfl⟩
theorem mkd_type {w : World} {B g n : Nat} {bs : List Int} (h : Mkd w B g n bs) : ∃ cs, w.heap[g]? = some (.cells cs 5 (0, 0)) := by
  rcases h.1.2 with ⟨e, _⟩ | ⟨g1, c1, u1, e, _, b1, _⟩
  · cases e
  · simp only [Value.slice.injEq, Option.some.injEq, Addr.mk.injEq] at e
    rw [e.1.1]
    exact ⟨_, b1⟩
section
variable {W w w' : World} {X K n C D E : Nat} {bv mk ke rm L : Value} {o : Option (Int × Int)} {A A' : List Ent}
theorem LS.within {P : Nat → Prop} (h : LS W X K bv mk ke rm L C D E o A A' n w) (ho : Off P w w') (hP : ∀ q, P q → (C ≤ q ∧ q < D ∧ q < E) ∧ ∃ cs, w.heap[q]? = some (.cells cs 5 (0, 0))) (hC : W.heap.size ≤ C) : LS W X K bv mk ke rm L C D E o A A' n w' :=
  ⟨h.offT ho fun q cs t hc ht hp => by
    obtain ⟨cs', hc'⟩ := (hP q hp).2
    rw [hc] at hc'
    simp only [Option.some.injEq, Obj.cells.injEq] at hc'
    exact nLB (hc'.2.1 ▸ ht), h.sd.within ho fun q hp => (hP q hp).1, h.bel.trans (ho.below h.bel.size fun q hp => Nat.le_trans hC (hP q hp).1.1), h.lX, h.lK⟩
theorem ev_keep {B : Nat} {ev : Value} {c : Int} (h : OEv w B ev 0 c) {N : Nat} (hN : w.heap.size = N) (hk : ∀ q, B ≤ q → q < N → w'.heap[q]? = w.heap[q]?) : OEv w' B ev 0 c :=
  h.keep fun b o' hl hB => World.cell?_of_block (w := w) (hk b hB (by rw [← hN]; exact hl))
set_option maxRecDepth 100000 in
set_option maxHeartbeats 8000000 in
theorem accepts_any (h : LS W X K bv mk ke rm L C D E o A A n w) (hE : ErrType W) (e : Ent) (hl : Lies W e) (hk : KeyS e.ct) (n1 : e.tn + 90 ≤ 140737488355328) (n2 : e.cn + 90 ≤ 140737488355328) (n3 : e.an + 90 ≤ 140737488355328) :
    Calls Tryz.prog 11 #[.pointer (some ⟨X, 0, none⟩), .agg #[.string e.ct, .slice e.tp e.tn e.tc, .int .i64 e.nu, .int .i64 e.tk, .slice e.cp e.cn e.cc, .string e.cd, .slice e.ap e.an e.ac]] w fun r w' => r = .returned (.bool true) ∧ Hid (∃ L', LS W X K bv mk ke rm L' 0 0 0 o (accSo o A e) (accSo o A e) n w') := by
  have HI : Hid (ErrType W ∧ Lies W e ∧ KeyS e.ct ∧ e.tn + 90 ≤ 140737488355328 ∧ e.cn + 90 ≤ 140737488355328 ∧ e.an + 90 ≤ 140737488355328 ∧ LS W X K bv mk ke rm L C D E o A A n w) := ⟨hE, hl, hk, n1, n2, n3, h⟩
  obtain ⟨eb, heb⟩ : ∃ b, w.heap.size = b := ⟨_, rfl⟩
  have bv0 : Below w.heap.size w (w.alloc (.cells #[.string e.ct, .slice e.tp e.tn e.tc, .int .i64 e.nu, .int .i64 e.tk, .slice e.cp e.cn e.cc, .string e.cd, .slice e.ap e.an e.ac] 29)) := (Below.refl _ _).alloc (Nat.le_refl _) _
  have hb0 : (w.alloc (.cells #[.string e.ct, .slice e.tp e.tn e.tc, .int .i64 e.nu, .int .i64 e.tk, .slice e.cp e.cn e.cc, .string e.cd, .slice e.ap e.an e.ac] 29)).heap[w.heap.size]? = some (.cells #[.string e.ct, .slice e.tp e.tn e.tc, .int .i64 e.nu, .int .i64 e.tk, .slice e.cp e.cn e.cc, .string e.cd, .slice e.ap e.an e.ac] 29 (0, 0)) := heap_alloc_new _ _
  obtain ⟨V0, hV0⟩ : ∃ V, w.alloc (.cells #[.string e.ct, .slice e.tp e.tn e.tc, .int .i64 e.nu, .int .i64 e.tk, .slice e.cp e.cn e.cc, .string e.cd, .slice e.ap e.an e.ac] 29) = V := ⟨_, rfl⟩
  rw [hV0] at bv0 hb0
  rw [heb] at hb0
  have HV0 : Hid (Below w.heap.size w V0 ∧ V0.heap[eb]? = some (.cells #[.string e.ct, .slice e.tp e.tn e.tc, .int .i64 e.nu, .int .i64 e.tk, .slice e.cp e.cn e.cc, .string e.cd, .slice e.ap e.an e.ac] 29 (0, 0)) ∧ w.heap.size = eb) := ⟨bv0, hb0, heb⟩
  have hd := handed_full e V0 (hl.below (below_then h.bel bv0)) n1 n2 n3
  have cx := hcell hb0
  clear h hE hl hk n1 n2 n3 bv0 hb0
  go_enter Tryz.func11, Tryz.ntmps11
  go_wp2_with fail
  clear hV0
  refine hd.mono ?_
  rintro _ w1 ⟨g1, g2, g3, rfl, hh1, b1⟩
  clear hd cx
  have HH1 : Hid (Hd w1 V0.heap.size g1 g2 g3 e ∧ Below V0.heap.size V0 w1) := ⟨hh1, b1⟩
  clear hh1 b1
  go_upto_region 2 with fail
  have HV1 : Hid (Below w1.heap.size w1 (w1.alloc (.cells #[.string e.ct, .slice (some ⟨g1, 0, none⟩) e.tn (e.tn + 90), .int .i64 e.nu, .int .i64 e.tk, .slice (some ⟨g2, 0, none⟩) e.cn (e.cn + 90), .string e.cd, .slice (some ⟨g3, 0, none⟩) e.an (e.an + 90)] 29)) ∧ (w1.alloc (.cells #[.string e.ct, .slice (some ⟨g1, 0, none⟩) e.tn (e.tn + 90), .int .i64 e.nu, .int .i64 e.tk, .slice (some ⟨g2, 0, none⟩) e.cn (e.cn + 90), .string e.cd, .slice (some ⟨g3, 0, none⟩) e.an (e.an + 90)] 29)).heap[w1.heap.size]? = some (.cells #[.string e.ct, .slice (some ⟨g1, 0, none⟩) e.tn (e.tn + 90), .int .i64 e.nu, .int .i64 e.tk, .slice (some ⟨g2, 0, none⟩) e.cn (e.cn + 90), .string e.cd, .slice (some ⟨g3, 0, none⟩) e.an (e.an + 90)] 29 (0, 0))) := ⟨(Below.refl _ _).alloc (Nat.le_refl _) _, heap_alloc_new _ _⟩
  obtain ⟨V1, hV1⟩ : ∃ V, w1.alloc (.cells #[.string e.ct, .slice (some ⟨g1, 0, none⟩) e.tn (e.tn + 90), .int .i64 e.nu, .int .i64 e.tk, .slice (some ⟨g2, 0, none⟩) e.cn (e.cn + 90), .string e.cd, .slice (some ⟨g3, 0, none⟩) e.an (e.an + 90)] 29) = V := ⟨_, rfl⟩
  rw [hV1] at HV1 ⊢
  clear hV1
  obtain ⟨hb, hhb⟩ : ∃ b, w1.heap.size = b := ⟨_, rfl⟩
  have HS : Hid (w1.heap.size = hb) := hhb
  rw [hhb] at HV1 ⊢
  clear hhb
  have HVW : Hid (Below w.heap.size w V1 ∧ V1.heap[eb]? = some (.cells #[.string e.ct, .slice e.tp e.tn e.tc, .int .i64 e.nu, .int .i64 e.tk, .slice e.cp e.cn e.cc, .string e.cd, .slice e.ap e.an e.ac] 29 (0, 0)) ∧ V1.heap[hb]? = some (.cells #[.string e.ct, .slice (some ⟨g1, 0, none⟩) e.tn (e.tn + 90), .int .i64 e.nu, .int .i64 e.tk, .slice (some ⟨g2, 0, none⟩) e.cn (e.cn + 90), .string e.cd, .slice (some ⟨g3, 0, none⟩) e.an (e.an + 90)] 29 (0, 0)) ∧ Hd V1 w.heap.size g1 g2 g3 e ∧ w.heap.size ≤ eb ∧ eb < V1.heap.size ∧ w.heap.size ≤ hb ∧ hb < V1.heap.size ∧ w.heap.size ≤ V1.heap.size) := by
    have q1 := HV0.out.1
    have q2 := below_then q1 HH1.out.2
    have hbl : Below w1.heap.size w1 V1 := by rw [HS.out]; exact HV1.out.1
    have q3 := below_then q2 hbl
    have q4 : V1.heap[eb]? = some (.cells #[.string e.ct, .slice e.tp e.tn e.tc, .int .i64 e.nu, .int .i64 e.tk, .slice e.cp e.cn e.cc, .string e.cd, .slice e.ap e.an e.ac] 29 (0, 0)) := ((below_then HH1.out.2 hbl).block eb (blk_lt HV0.out.2.1)).trans HV0.out.2.1
    have q5 : Hd V1 V0.heap.size g1 g2 g3 e := HH1.out.1.below hbl
    have q6 := q1.size
    have q7 := q2.size
    exact ⟨q3, q4, HV1.out.2, ⟨q5.t.base q6, q5.c.base q6, q5.a.base q6, q5.n1, q5.n2⟩, by rw [HV0.out.2.2]; exact Nat.le_refl _, blk_lt q4, by rw [← HS.out]; exact q7, blk_lt HV1.out.2, q3.size⟩
  have HU : Hid (∀ z, Below V1.heap.size V1 z → Calls Tryz.prog 20 #[bv, .agg #[.string e.ct, .slice (some ⟨g1, 0, none⟩) e.tn (e.tn + 90), .int .i64 e.nu, .int .i64 e.tk, .slice (some ⟨g2, 0, none⟩) e.cn (e.cn + 90), .string e.cd, .slice (some ⟨g3, 0, none⟩) e.an (e.an + 90)]] z fun r z' => ∃ ev, r = .returned ev ∧ Hid (LS W X K bv mk ke rm L w.heap.size V1.heap.size z'.heap.size o (accSo o A e) A n z' ∧ OEv z' V1.heap.size ev 0 (accCo o A e) ∧ (∀ q, w.heap.size ≤ q → q < V1.heap.size → z'.heap[q]? = V1.heap[q]?) ∧ V1.heap.size ≤ z'.heap.size)) := fun z hz => by
    have hls := HI.out.2.2.2.2.2.2.hole (below_then HVW.out.1 hz) V1.heap.size z.heap.size
    refine (u_acc hls hz.size rfl (e.hd g1 g2 g3) e (Tw.symm ⟨_, _, _, _, _, _, rfl⟩) HI.out.2.2.1 (HVW.out.2.2.2.1.lies.below hz)).mono ?_
    rintro r z' ⟨ev, hr, hq⟩
    obtain ⟨p1, p2, p3, p4⟩ := hq.out
    exact ⟨ev, hr, p1, p2.mono hz.size, fun q h1 h2 => (p3 q h1 h2).trans (hz.block q h2), Nat.le_trans hz.size p4⟩
  have x0 : V1.cell? ⟨X, 0, none⟩ = some bv := (HI.out.2.2.2.2.2.2.below HVW.out.1).cells.1
  have lx : X < V1.heap.size := (HI.out.2.2.2.2.2.2.below HVW.out.1).cells.2.2.2.2
  have cy := hcell HVW.out.2.2.1
  have lh := HVW.out.2.2.2.2.2.2.2.1
  clear HV0 HH1 HV1 HS
  go_cut [6] (fun t6 wx => Hid (LS W X K bv mk ke rm L w.heap.size V1.heap.size wx.heap.size o (accSo o A e) A n wx ∧ OEv wx V1.heap.size t6 0 (accCo o A e) ∧ (∀ q, w.heap.size ≤ q → q < V1.heap.size → wx.heap[q]? = V1.heap[q]?) ∧ V1.heap.size ≤ wx.heap.size))
  case first =>
    clear HI HVW
    go_region_law (go_simp; go_at_call 20; refine (HU.out _ ?_).mono ?_; (first | exact Below.refl _ _ | exact Below.drew (Below.refl _ _)); rintro _ y1 ⟨ev, rfl, H1⟩)
    all_goals
      have H2 : Hid (LS W X K bv mk ke rm L w.heap.size V1.heap.size y1.drew.heap.size o (accSo o A e) A n y1.drew ∧ OEv y1.drew V1.heap.size ev 0 (accCo o A e) ∧ (∀ q, w.heap.size ≤ q → q < V1.heap.size → y1.drew.heap[q]? = V1.heap[q]?) ∧ V1.heap.size ≤ y1.drew.heap.size) := by
        obtain ⟨p1, p2, p3, p4⟩ := H1.out
        exact ⟨p1.below (Below.refl _ _).drew, p2.below (Below.refl _ _).drew, p3, p4⟩
      go_wp2_with fail
      go_meet
      first | exact H1 | exact H2
  case rest =>
    obtain ⟨w3, rfl⟩ : ∃ U, U = wc := ⟨_, rfl⟩
    have H1 := hcut
    clear hcut HU x0 cy
    have he1 : w3.heap[eb]? = some (.cells #[.string e.ct, .slice e.tp e.tn e.tc, .int .i64 e.nu, .int .i64 e.tk, .slice e.cp e.cn e.cc, .string e.cd, .slice e.ap e.an e.ac] 29 (0, 0)) := (H1.out.2.2.1 eb HVW.out.2.2.2.2.1 HVW.out.2.2.2.2.2.1).trans HVW.out.2.1
    have cx := hcell he1
    have le := blk_lt he1
    have lx2 : X < w3.heap.size := H1.out.1.cells.2.2.2.2
    clear lx lh
    have HR : Hid (∀ z, Below w3.heap.size w3 z → Calls Tryz.prog 21 #[.pointer (some ⟨X, 1, none⟩), .agg #[.string e.ct, .slice e.tp e.tn e.tc, .int .i64 e.nu, .int .i64 e.tk, .slice e.cp e.cn e.cc, .string e.cd, .slice e.ap e.an e.ac]] z fun r z' => r = .returned (.int .i64 (accCo o A e)) ∧ Hid (∃ L', LS W X K bv mk ke rm L' w.heap.size V1.heap.size w3.heap.size o (accSo o A e) (accSo o A e) n z' ∧ (∀ q, w.heap.size ≤ q → q < w3.heap.size → z'.heap[q]? = w3.heap[q]?) ∧ w3.heap.size ≤ z'.heap.size)) := fun z hz => by
      refine (r_acc (H1.out.1.below hz) hz.size e e (Tw.refl e) (HI.out.2.1.below (below_then H1.out.1.bel hz))).mono ?_
      rintro r z' ⟨hr, hq⟩
      obtain ⟨L', p1, p2, p3⟩ := hq.out
      exact ⟨hr, L', p1, fun q h1 h2 => (p2 q h1 h2).trans (hz.block q h2), Nat.le_trans hz.size p3⟩
    go_upto_region 3 with fail
    go_cut [7] (fun t7 wx => t7 = .int .i64 (accCo o A e) ∧ Hid (∃ L', LS W X K bv mk ke rm L' w.heap.size V1.heap.size w3.heap.size o (accSo o A e) (accSo o A e) n wx ∧ (∀ q, w.heap.size ≤ q → q < w3.heap.size → wx.heap[q]? = w3.heap[q]?) ∧ w3.heap.size ≤ wx.heap.size))
    case first =>
      clear HI HVW H1
      go_region_law (go_simp; go_at_call 21; refine (HR.out _ ?_).mono ?_; (first | exact Below.refl _ _ | exact Below.drew (Below.refl _ _)); rintro _ y1 ⟨rfl, H2⟩)
      all_goals
        have H3 : Hid (∃ L', LS W X K bv mk ke rm L' w.heap.size V1.heap.size w3.heap.size o (accSo o A e) (accSo o A e) n y1.drew ∧ (∀ q, w.heap.size ≤ q → q < w3.heap.size → y1.drew.heap[q]? = w3.heap[q]?) ∧ w3.heap.size ≤ y1.drew.heap.size) := by
          obtain ⟨L', p1, p2, p3⟩ := H2.out
          exact ⟨L', p1.below (Below.refl _ _).drew, p2, p3⟩
        go_wp2_with fail
        go_meet
        first | exact ⟨rfl, H2⟩ | exact ⟨rfl, H3⟩
    case rest =>
      obtain ⟨w4, rfl⟩ : ∃ U, U = wc := ⟨_, rfl⟩
      obtain ⟨rfl, H2⟩ := hcut
      clear HR cx le lx2
      obtain ⟨L', p1, p2, p3⟩ := H2.out
      have HP : Hid (LS W X K bv mk ke rm L' w.heap.size V1.heap.size w3.heap.size o (accSo o A e) (accSo o A e) n w4 ∧ OEv w4 V1.heap.size u6 0 (accCo o A e) ∧ Hd w4 w.heap.size g1 g2 g3 e) := ⟨p1, ev_keep H1.out.2.1 rfl fun q h1 h2 => p2 q (Nat.le_trans HVW.out.2.2.2.2.2.2.2.2 h1) h2, (HVW.out.2.2.2.1.keep fun q h1 h2 => H1.out.2.2.1 q h1 h2).keep fun q h1 h2 => p2 q h1 h2⟩
      have HC : Hid (w4.heap[eb]? = some (.cells #[.string e.ct, .slice e.tp e.tn e.tc, .int .i64 e.nu, .int .i64 e.tk, .slice e.cp e.cn e.cc, .string e.cd, .slice e.ap e.an e.ac] 29 (0, 0)) ∧ w4.heap[hb]? = some (.cells #[.string e.ct, .slice (some ⟨g1, 0, none⟩) e.tn (e.tn + 90), .int .i64 e.nu, .int .i64 e.tk, .slice (some ⟨g2, 0, none⟩) e.cn (e.cn + 90), .string e.cd, .slice (some ⟨g3, 0, none⟩) e.an (e.an + 90)] 29 (0, 0))) := ⟨(p2 eb HVW.out.2.2.2.2.1 (blk_lt he1)).trans he1, (p2 hb HVW.out.2.2.2.2.2.2.1 (Nat.lt_of_lt_of_le HVW.out.2.2.2.2.2.2.2.1 H1.out.2.2.2)).trans ((H1.out.2.2.1 hb HVW.out.2.2.2.2.2.2.1 HVW.out.2.2.2.2.2.2.2.1).trans HVW.out.2.2.1)⟩
      have HG : Hid (w.heap.size ≤ V1.heap.size ∧ V1.heap.size ≤ w3.heap.size ∧ g1 < V1.heap.size ∧ g2 < V1.heap.size ∧ g3 < V1.heap.size ∧ W.heap.size ≤ w.heap.size) := ⟨HVW.out.2.2.2.2.2.2.2.2, H1.out.2.2.2, HVW.out.2.2.2.1.t.lt.2, HVW.out.2.2.2.1.c.lt.2, HVW.out.2.2.2.1.a.lt.2, HI.out.2.2.2.2.2.2.bel.size⟩
      clear he1 H1 H2 p1 p2 p3 HVW
      obtain ⟨cc, hcc⟩ : ∃ c, accCo o A e = c := ⟨_, rfl⟩
      have hcd := code_any HP.out.2.1 (errType_below HI.out.1 HP.out.1.bel)
      rw [hcc] at hcd ⊢
      clear hcc
      go_wp2_with fail
      refine hcd.mono ?_
      rintro _ w5 ⟨rfl, b5⟩
      clear hcd
      go_wp2_with fail
      refine (num_any _ _).mono ?_
      rintro _ w9 ⟨rfl, h9⟩
      subst w9
      have HP5 : Hid (LS W X K bv mk ke rm L' w.heap.size V1.heap.size w3.heap.size o (accSo o A e) (accSo o A e) n w5 ∧ Hd w5 w.heap.size g1 g2 g3 e) := ⟨HP.out.1.below b5, HP.out.2.2.below b5⟩
      have cx5 := hcell (blk_below HC.out.1 b5)
      have cy5 := hcell (blk_below HC.out.2 b5)
      have HC5 : Hid (w5.heap[hb]? = some (.cells #[.string e.ct, .slice (some ⟨g1, 0, none⟩) e.tn (e.tn + 90), .int .i64 e.nu, .int .i64 e.tk, .slice (some ⟨g2, 0, none⟩) e.cn (e.cn + 90), .string e.cd, .slice (some ⟨g3, 0, none⟩) e.an (e.an + 90)] 29 (0, 0))) := blk_below HC.out.2 b5
      have hkp := kept_any e HP5.out.2 (HI.out.2.1.below HP5.out.1.bel) HI.out.2.2.2.1 HI.out.2.2.2.2.1 HI.out.2.2.2.2.2.1
      clear b5 HC HP
      go_wp2_with fail
      refine hkp.mono ?_
      rintro _ w6 ⟨rfl, b6⟩
      have HP6 : Hid (LS W X K bv mk ke rm L' w.heap.size V1.heap.size w3.heap.size o (accSo o A e) (accSo o A e) n w6 ∧ Hd w6 w.heap.size g1 g2 g3 e) := ⟨HP5.out.1.below b6, HP5.out.2.below b6⟩
      have cy6 := hcell (blk_below HC5.out b6)
      have htu := turned_any e HP6.out.2
      clear b6 HC5 HP5 cx5 cy5 hkp
      go_wp2_with fail
      refine htu.mono ?_
      rintro _ w7 ⟨rfl, O7⟩
      have HZ : Hid (∃ L', LS W X K bv mk ke rm L' 0 0 0 o (accSo o A e) (accSo o A e) n w7) := ⟨L', (HP6.out.1.within O7.out (fun q hq => by
        obtain ⟨r1, r2, r3, r4, r5, r6⟩ := HG.out
        rcases hq with rfl | rfl | rfl
        · exact ⟨⟨HP6.out.2.t.lt.1, r3, by omega⟩, mkd_type HP6.out.2.t⟩
        · exact ⟨⟨HP6.out.2.c.lt.1, r4, by omega⟩, mkd_type HP6.out.2.c⟩
        · exact ⟨⟨HP6.out.2.a.lt.1, r5, by omega⟩, mkd_type HP6.out.2.a⟩) HG.out.2.2.2.2.2).free⟩
      clear htu cy6
      go_wp2_with fail
      go_ret
      exact ⟨rfl, HZ⟩
end
end Go.Proofs.YtplhdgijjckjcaaGreatDoor

/-
  The law's decides.
-/
namespace Go.Proofs.YtplhdgijjckjcaaGreatDoor
open Go.RowKit

section
variable {W w w' : World} {X K n C D E : Nat} {bv mk ke rm L : Value} {o : Option (Int × Int)} {A A' : List Ent}
set_option maxRecDepth 100000 in
set_option maxHeartbeats 8000000 in
theorem decides_any (h : LS W X K bv mk ke rm L C D E o A A n w) (hn : n ≤ 800000) (hE : ErrType W) {s cd : ByteArray} {po : Option Addr} {m co : Nat} {bs : List Int} (hk : KeyS s) (hb : Byts W po m bs) (hm : m + 90 ≤ 140737488355328) :
    Calls Tryz.prog 13 #[.pointer (some ⟨X, 0, none⟩), .string s, .string cd, .slice po m co] w fun r w' => r = .returned (.bool true) ∧ Hid (∃ L', LS W X K bv mk ke rm L' 0 0 0 o (dcSo o A s cd m bs) (dcSo o A s cd m bs) (n + 1) w') := by
  have hpB : ∀ b of_, po = some ⟨b, of_, none⟩ → 0 < m → b < W.heap.size := fun b of_ e h0 => by
    obtain ⟨b', o', e', hl, _⟩ := hb.cell 0 h0
    rw [e] at e'
    simp only [Option.some.injEq, Addr.mk.injEq] at e'
    omega
  have hd := hand_full (c := co) w (hb.below h.bel) hm
  have HI : Hid (ErrType W ∧ Byts W po m bs ∧ KeyS s ∧ m + 90 ≤ 140737488355328 ∧ LS W X K bv mk ke rm L C D E o A A n w ∧ ∀ b of_, po = some ⟨b, of_, none⟩ → 0 < m → b < W.heap.size) := ⟨hE, hb, hk, hm, h, hpB⟩
  clear h hE hb hk hm hpB
  go_enter Tryz.func13, Tryz.ntmps13
  go_wp2_with fail
  refine hd.mono ?_
  rintro _ w1 ⟨g, rfl, hh1, b1⟩
  clear hd
  have hls := HI.out.2.2.2.2.1.hole b1 w1.heap.size w1.heap.size
  have hud := u_dec (cd := cd) hls (Nat.le_refl _) rfl HI.out.2.2.1 (hh1.byts) (co := m + 90) (by have := HI.out.2.2.2.1; omega)
  have x0 := hls.cells.1
  have H1 : Hid (Mkd w1 w.heap.size g m bs ∧ w.heap.size ≤ w1.heap.size ∧ g < w1.heap.size) := ⟨hh1, b1.size, hh1.lt.2⟩
  clear hh1 b1 hls
  go_wp2_with fail
  refine hud.mono ?_
  rintro _ w2 ⟨a, q, k, ev, rfl, H2⟩
  have hrd := r_dec (cd := cd) (s := s) (co := co) H2.out.1 (Nat.le_refl _) (HI.out.2.1.below H2.out.1.bel) HI.out.2.2.2.2.2
  clear hud x0
  go_wp2_with fail
  refine hrd.mono ?_
  rintro _ w3 ⟨a', q', k', rfl, H3⟩
  clear hrd
  obtain ⟨L', p1, p2, p3, p4⟩ := H3.out
  obtain ⟨q1, q2, q3, q4, q5⟩ := H2.out
  have hsz : ∀ l : List ByteArray, ∀ u u' : Option Addr, ∀ i j i' j' : Nat, ∀ z z' : World, ∀ B B' : Nat, TRow z B (.slice u i j) l → TRow z' B' (.slice u' i' j') l → i = i' := fun l u u' i j i' j' z z' B B' h1 h2 => by rw [ERow.len h1, ERow.len h2]
  obtain rfl : q = q' := hsz _ _ _ _ _ _ _ _ _ _ _ q3 p2
  have ht3 : TRow w3 w1.heap.size (.slice a q k) (gnSo o A s cd m bs) := ERow.keep q3 fun g' hg' => p3 g' (Nat.le_trans H1.out.2.1 (ERow.lt q3 hg').1) (ERow.lt q3 hg').2
  have hqb : q ≤ 1000000 := by
    rw [ERow.len q3]
    have : (gnSo o A s cd m bs).length ≤ 1 := by
      unfold gnSo gnS goneS
      rcases o with _ | ⟨K0, R⟩
      · simp
      · simp only
        split
        · cases fi s A with
          | none => simp
          | some i =>
            simp only
            split
            · split <;> simp
            · simp
        · simp
    omega
  have HP : Hid (LS W X K bv mk ke rm L' w.heap.size w1.heap.size w2.heap.size o (dcSo o A s cd m bs) (dcSo o A s cd m bs) n w3 ∧ OEv w3 w1.heap.size ev 0 (decCo o A s cd m) ∧ TRow w3 w1.heap.size (.slice a q k) (gnSo o A s cd m bs) ∧ TRow w3 w2.heap.size (.slice a' q k') (gnSo o A s cd m bs) ∧ Mkd w3 w.heap.size g m bs ∧ w1.heap.size ≤ w2.heap.size) := ⟨p1, ev_keep q2 rfl fun q h1 h2 => p3 q (Nat.le_trans H1.out.2.1 h1) h2, ht3, p2, (H1.out.1.keep (q4 g H1.out.1.lt.1 H1.out.2.2)).keep (p3 g H1.out.1.lt.1 (Nat.lt_of_lt_of_le H1.out.2.2 q5)), q5⟩
  clear H2 H3 p1 p2 p3 p4 q1 q2 q3 q4 q5 ht3 hsz
  obtain ⟨cc, hcc⟩ : ∃ c, decCo o A s cd m = c := ⟨_, rfl⟩
  have hcd := code_any HP.out.2.1 (errType_below HI.out.1 HP.out.1.bel)
  rw [hcc] at hcd ⊢
  clear hcc
  go_wp2_with fail
  refine hcd.mono ?_
  rintro _ w5 ⟨rfl, b5⟩
  clear hcd
  go_wp2_with fail
  refine (num_any _ _).mono ?_
  rintro _ w9 ⟨rfl, h9⟩
  subst w9
  have hst := sameTexts_true (ERow.below HP.out.2.2.1 b5) (ERow.below HP.out.2.2.2.1 b5)
  have HP5 : Hid (LS W X K bv mk ke rm L' w.heap.size w1.heap.size w2.heap.size o (dcSo o A s cd m bs) (dcSo o A s cd m bs) n w5 ∧ TRow w5 w1.heap.size (.slice a q k) (gnSo o A s cd m bs) ∧ Mkd w5 w.heap.size g m bs) := ⟨HP.out.1.below b5, ERow.below HP.out.2.2.1 b5, HP.out.2.2.2.2.1.below b5⟩
  have HG : Hid (w1.heap.size ≤ w2.heap.size) := HP.out.2.2.2.2.2
  clear b5 HP
  go_wp2_with fail
  refine hst.mono ?_
  rintro _ w6 ⟨rfl, m6, rfl⟩
  have b6 := below_drewN (Below.refl w5.heap.size w5) m6
  have hkp := Kept_true (c := co) (w5.drewN m6) (HP5.out.2.2.below b6) (HI.out.2.1.below (HP5.out.1.below b6).bel) HI.out.2.2.2.1
  clear hst b6
  go_wp2_with fail
  refine hkp.mono ?_
  rintro _ w7 ⟨rfl, m7, rfl⟩
  rw [World.drewN_drewN]
  have b7 := below_drewN (Below.refl w5.heap.size w5) (m6 + m7)
  have x5 := (HP5.out.1.below b7).cells.2.2.2.1
  have htx := texts_any (HP5.out.1.below b7) (by omega) (ERow.below HP5.out.2.1 b7) hqb
  have HM7 : Hid (Mkd (w5.drewN (m6 + m7)) w.heap.size g m bs) := HP5.out.2.2.below b7
  clear hkp b7 HP5
  go_wp2_with fail
  refine htx.mono ?_
  rintro _ w8 ⟨rfl, H8⟩
  have hm8 : Mkd w8 w.heap.size g m bs := HM7.out.keep (by
    obtain ⟨cs, hc⟩ := mkd_type HM7.out
    rw [hc]
    exact H8.out.2.2 g cs _ hc nLB)
  have HM8 : Hid (Mkd w8 w.heap.size g m bs) := hm8
  have htu := turn_any (BRow.prefix (m := m) hm8.1 (by omega))
  clear htx x5 hm8 HM7
  go_wp2_with fail
  refine htu.mono ?_
  rintro _ w9 ⟨rfl, O9⟩
  have HZ : Hid (∃ L', LS W X K bv mk ke rm L' 0 0 0 o (dcSo o A s cd m bs) (dcSo o A s cd m bs) (n + 1) w9) := ⟨L', (H8.out.1.within O9.out (fun q hq => by
    subst hq
    exact ⟨⟨HM8.out.lt.1, H1.out.2.2, Nat.lt_of_lt_of_le H1.out.2.2 HG.out⟩, mkd_type HM8.out⟩) HI.out.2.2.2.2.1.bel.size).free⟩
  clear htu
  go_wp2_with fail
  go_ret
  exact ⟨rfl, HZ⟩
end
end Go.Proofs.YtplhdgijjckjcaaGreatDoor
