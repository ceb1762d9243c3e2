/-
  The law's likewise, walked: another box beside it.
-/
import Derived.Test.YtelhiihbgnfpiaaDoorIbLw
import Derived.Deep.RegionHeld3
import Derived.Deep.DeepCutAuto
namespace Go.Proofs.YtelhiihbgnfpiaaDoor
open Go.RowKit

set_option maxRecDepth 100000 in
set_option maxHeartbeats 4000000 in
theorem lw_two {w X : World} {b sb M b' sb' M' : Nat} {K R : Int} {A : List Ent} {y : Opv} (h : Lb2 w b sb M b' sb' M' K R A A X) (hE : ErrType w) (hy : OY w y) :
    Calls Tryd.prog 9 #[.pointer (some ⟨b, 0, none⟩), .pointer (some ⟨b', 0, none⟩), .agg #[.int .i64 y.kd, .int .i64 y.of_, .int .i64 y.n, .string y.e.ct, .slice y.e.tp y.e.tn y.e.tc, .int .i64 y.e.nu, .int .i64 y.e.tk, .slice y.e.cp y.e.cn y.e.cc, .string y.e.cd, .slice y.e.ap y.e.an y.e.ac, .string y.ct, .string y.cd, .slice y.ap y.an y.ac]] X fun e w' => e = .returned (.bool true) ∧ ∃ A1, Lb2 w b sb M b' sb' M' K R A1 A1 w' := by
  have b1 := (Below.refl X.heap.size X).alloc (Nat.le_refl _) (.cells #[.int .i64 y.kd, .int .i64 y.of_, .int .i64 y.n, .string y.e.ct, .slice y.e.tp y.e.tn y.e.tc, .int .i64 y.e.nu, .int .i64 y.e.tk, .slice y.e.cp y.e.cn y.e.cc, .string y.e.cd, .slice y.e.ap y.e.an y.e.ac, .string y.ct, .string y.cd, .slice y.ap y.an y.ac] 37)
  have hob : OB (X.alloc (.cells #[.int .i64 y.kd, .int .i64 y.of_, .int .i64 y.n, .string y.e.ct, .slice y.e.tp y.e.tn y.e.tc, .int .i64 y.e.nu, .int .i64 y.e.tk, .slice y.e.cp y.e.cn y.e.cc, .string y.e.cd, .slice y.e.ap y.e.an y.e.ac, .string y.ct, .string y.cd, .slice y.ap y.an y.ac] 37)) X.heap.size y := by unfold OB; show (X.heap.push _)[X.heap.size]? = _; simp
  have HV : Hid (Lb2 w b sb M b' sb' M' K R A A (X.alloc (.cells #[.int .i64 y.kd, .int .i64 y.of_, .int .i64 y.n, .string y.e.ct, .slice y.e.tp y.e.tn y.e.tc, .int .i64 y.e.nu, .int .i64 y.e.tk, .slice y.e.cp y.e.cn y.e.cc, .string y.e.cd, .slice y.e.ap y.e.an y.e.ac, .string y.ct, .string y.cd, .slice y.ap y.an y.ac] 37)) ∧ OB (X.alloc (.cells #[.int .i64 y.kd, .int .i64 y.of_, .int .i64 y.n, .string y.e.ct, .slice y.e.tp y.e.tn y.e.tc, .int .i64 y.e.nu, .int .i64 y.e.tk, .slice y.e.cp y.e.cn y.e.cc, .string y.e.cd, .slice y.e.ap y.e.an y.e.ac, .string y.ct, .string y.cd, .slice y.ap y.an y.ac] 37)) X.heap.size y ∧ OY w y ∧ w.heap.size ≤ X.heap.size ∧ ErrType w) := ⟨h.below b1, hob, hy, h.one.bel.size, hE⟩
  have co := hcell hob
  clear h hy b1 hob hE
  go_enter Tryd.func9, Tryd.ntmps9
  go_wp2_with fail
  generalize (X.alloc (.cells #[.int .i64 y.kd, .int .i64 y.of_, .int .i64 y.n, .string y.e.ct, .slice y.e.tp y.e.tn y.e.tc, .int .i64 y.e.nu, .int .i64 y.e.tk, .slice y.e.cp y.e.cn y.e.cc, .string y.e.cd, .slice y.e.ap y.e.an y.e.ac, .string y.ct, .string y.cd, .slice y.ap y.an y.ac] 37)) = V at HV co ⊢
  obtain ⟨yb, hyb⟩ : ∃ q, X.heap.size = q := ⟨_, rfl⟩
  rw [hyb] at HV co ⊢
  clear hyb
  refine (lb_open HV.out.1.one).mono ?_
  rintro _ w1 ⟨la, ln, lc, rfl, H1⟩
  have HV1 : Hid (Lb2 w b sb M b' sb' M' K R A A w1 ∧ OB w1 yb y ∧ OY w y ∧ w.heap.size ≤ yb ∧ ErrType w) := ⟨HV.out.1.below H1.out.1, HV.out.2.1.below H1.out.1, HV.out.2.2⟩
  have co1 := hcell HV1.out.2.1
  have fo1 := hfroz HV1.out.2.1
  have hln6 : (ln : Int) ≤ 1000000 := by have := H1.out.2.1; omega
  clear HV co
  obtain ⟨t2, ht2⟩ : ∃ t : Bool, t = decide (y.kd = 2 ∧ 0 < ln) := ⟨_, rfl⟩
  go_upto_region 3 with fail
  go_cut [30] (fun t30 wx => t30 = .bool t2 ∧ wx = w1)
  case first =>
    by_cases h2a : y.kd = 2
    · have e2 : (y.kd == 2) = true := by rw [h2a]; rfl
      by_cases h2b : 0 < ln
      · have e3 : (ln : Int) > 0 := by omega
        rw [decide_eq_true ⟨h2a, h2b⟩] at ht2
        subst ht2
        clear h2a
        go_wp2_with fail
        go_meet
        exact ⟨rfl, rfl⟩
      · have e3 : ¬ (ln : Int) > 0 := by omega
        rw [decide_eq_false (fun h => h2b h.2)] at ht2
        subst ht2
        clear h2a
        go_wp2_with fail
        go_meet
        exact ⟨rfl, rfl⟩
    · have e2 : (y.kd == 2) = false := by simpa using h2a
      rw [decide_eq_false (fun h => h2a h.1)] at ht2
      subst ht2
      clear h2a
      go_wp2_with fail
      go_meet
      exact ⟨rfl, rfl⟩
  case rest =>
  obtain ⟨e30, ew⟩ := hcut
  subst e30
  rw [ew]
  clear ew
  go_upto_if 30 with fail
  go_cut [] (fun wx => Hid (∃ y1 : Opv, y1.kd = y.kd ∧ y1.cd = y.cd ∧ Lb2 w b sb M b' sb' M' K R A A wx ∧ OB wx yb y1 ∧ OY w y1 ∧ w.heap.size ≤ yb ∧ ErrType w))
  case first =>
    cases t2 with
    | true =>
      obtain ⟨hx2, h2b⟩ := of_decide_eq_true ht2.symm
      clear hx2
      have e3 : (ln : Int) > 0 := by omega
      have hwi := within_any y.n (n := ln) w1 h2b H1.out.2.1
      clear ht2
      go_wp2_with fail
      refine hwi.mono ?_
      rintro _ w5 ⟨jj, hjj, rfl, hw5⟩
      subst hw5
      obtain ⟨l, hT, hK⟩ := H1.out.2.2
      obtain ⟨g4, st, rfl, hst, hcs⟩ := trow_at hT hjj
      have q1 : (jj : Int) < ln := by omega
      have HS : Hid (∃ y1 : Opv, y1.kd = y.kd ∧ y1.cd = y.cd ∧ Lb2 w b sb M b' sb' M' K R A A (w5.setCell ⟨yb, 10, none⟩ (.string st)) ∧ OB (w5.setCell ⟨yb, 10, none⟩ (.string st)) yb y1 ∧ OY w y1 ∧ w.heap.size ≤ yb ∧ ErrType w) :=
        ⟨{ y with ct := st }, rfl, rfl, HV1.out.1.put HV1.out.2.1 HV1.out.2.2.2.1 10 _, HV1.out.2.1.ct st, ⟨HV1.out.2.2.1.l, HV1.out.2.2.1.b, ⟨HV1.out.2.2.1.o.k1, hK st (List.mem_of_getElem? hst), HV1.out.2.2.1.o.n1, HV1.out.2.2.1.o.n2, HV1.out.2.2.1.o.n3, HV1.out.2.2.1.o.n4⟩⟩, HV1.out.2.2.2⟩
      clear hT hK hst hjj hwi H1 HV1
      go_wp2_with fail
      go_meet
      exact HS.out
    | false =>
      have HS : Hid (∃ y1 : Opv, y1.kd = y.kd ∧ y1.cd = y.cd ∧ Lb2 w b sb M b' sb' M' K R A A w1 ∧ OB w1 yb y1 ∧ OY w y1 ∧ w.heap.size ≤ yb ∧ ErrType w) := ⟨y, rfl, rfl, HV1.out⟩
      clear H1 HV1 ht2
      go_wp2_with fail
      go_meet
      exact HS.out
  case rest =>
  obtain ⟨W2, hW2⟩ : ∃ q : World, wc = q := ⟨_, rfl⟩
  rw [hW2] at hcut ⊢
  clear hW2 co1 fo1 H1 HV1 hln6 ht2
  obtain ⟨y1, hkd, hcd, hrest⟩ := hcut.out
  have HV2 : Hid (Lb2 w b sb M b' sb' M' K R A A W2 ∧ OB W2 yb y1 ∧ OY w y1 ∧ w.heap.size ≤ yb ∧ ErrType w) := hrest
  have HY : Hid (y1.kd = y.kd ∧ y1.cd = y.cd) := ⟨hkd, hcd⟩
  clear hcut hrest hkd hcd
  go_wp2_with fail
  refine (lb_last HV2.out.1.one).mono ?_
  rintro _ w3 ⟨lm, lt, rfl, H3⟩
  have b3 := (Below.refl w3.heap.size w3).alloc (Nat.le_refl _) (.cells #[.string lm.ct, .slice lm.tp lm.tn lm.tc, .int .i64 lm.nu, .int .i64 lm.tk, .slice lm.cp lm.cn lm.cc, .string lm.cd, .slice lm.ap lm.an lm.ac] 35)
  have HV3 : Hid (Lb2 w b sb M b' sb' M' K R A A (w3.alloc (.cells #[.string lm.ct, .slice lm.tp lm.tn lm.tc, .int .i64 lm.nu, .int .i64 lm.tk, .slice lm.cp lm.cn lm.cc, .string lm.cd, .slice lm.ap lm.an lm.ac] 35)) ∧ OB (w3.alloc (.cells #[.string lm.ct, .slice lm.tp lm.tn lm.tc, .int .i64 lm.nu, .int .i64 lm.tk, .slice lm.cp lm.cn lm.cc, .string lm.cd, .slice lm.ap lm.an lm.ac] 35)) yb y1 ∧ OY w y1 ∧ w.heap.size ≤ yb ∧ ErrType w) := ⟨(HV2.out.1.below H3.out).below b3, (HV2.out.2.1.below H3.out).below b3, HV2.out.2.2⟩
  have cl := (Box.new w3 #[.string lm.ct, .slice lm.tp lm.tn lm.tc, .int .i64 lm.nu, .int .i64 lm.tk, .slice lm.cp lm.cn lm.cc, .string lm.cd, .slice lm.ap lm.an lm.ac] 35).cell
  clear HV2 H3 b3
  obtain ⟨t3, ht3⟩ : ∃ t : Bool, t = (lt && decide (y1.e.tk < lm.tk)) := ⟨_, rfl⟩
  go_upto_region 6 with fail
  generalize (w3.alloc (.cells #[.string lm.ct, .slice lm.tp lm.tn lm.tc, .int .i64 lm.nu, .int .i64 lm.tk, .slice lm.cp lm.cn lm.cc, .string lm.cd, .slice lm.ap lm.an lm.ac] 35)) = W3 at HV3 cl ⊢
  have co3 := hcell HV3.out.2.1
  have fo3 := hfroz HV3.out.2.1
  go_cut [53] (fun t53 wx => t53 = .bool t3 ∧ wx = W3)
  case first =>
    cases lt with
    | true =>
      by_cases h3 : y1.e.tk < lm.tk
      · rw [decide_eq_true h3] at ht3
        subst ht3
        go_wp2_with fail
        go_meet
        exact ⟨rfl, rfl⟩
      · rw [decide_eq_false h3] at ht3
        subst ht3
        go_wp2_with fail
        go_meet
        exact ⟨rfl, rfl⟩
    | false =>
      subst ht3
      go_wp2_with fail
      go_meet
      exact ⟨rfl, rfl⟩
  case rest =>
  obtain ⟨e53, ew⟩ := hcut
  subst e53
  rw [ew]
  clear ew ht3
  go_upto_if 53 with fail
  go_cut [] (fun wx => Hid (∃ y2 : Opv, y2.kd = y.kd ∧ y2.cd = y.cd ∧ Lb2 w b sb M b' sb' M' K R A A wx ∧ OB wx yb y2 ∧ OY w y2 ∧ w.heap.size ≤ yb ∧ ErrType w))
  case first =>
    cases t3 with
    | true =>
      have HS : Hid (∃ y2 : Opv, y2.kd = y.kd ∧ y2.cd = y.cd ∧ Lb2 w b sb M b' sb' M' K R A A (W3.setCell ⟨yb, 6, none⟩ (.int .i64 lm.tk)) ∧ OB (W3.setCell ⟨yb, 6, none⟩ (.int .i64 lm.tk)) yb y2 ∧ OY w y2 ∧ w.heap.size ≤ yb ∧ ErrType w) :=
        ⟨{ y1 with e := { y1.e with tk := lm.tk } }, HY.out.1, HY.out.2, HV3.out.1.put HV3.out.2.1 HV3.out.2.2.2.1 6 _, HV3.out.2.1.tk lm.tk, ⟨⟨HV3.out.2.2.1.l.t, HV3.out.2.2.1.l.c, HV3.out.2.2.1.l.a⟩, HV3.out.2.2.1.b, ⟨HV3.out.2.2.1.o.k1, HV3.out.2.2.1.o.k2, HV3.out.2.2.1.o.n1, HV3.out.2.2.1.o.n2, HV3.out.2.2.1.o.n3, HV3.out.2.2.1.o.n4⟩⟩, HV3.out.2.2.2⟩
      clear HV3 HY
      go_wp2_with fail
      go_meet
      exact HS.out
    | false =>
      have HS : Hid (∃ y2 : Opv, y2.kd = y.kd ∧ y2.cd = y.cd ∧ Lb2 w b sb M b' sb' M' K R A A W3 ∧ OB W3 yb y2 ∧ OY w y2 ∧ w.heap.size ≤ yb ∧ ErrType w) := ⟨y1, HY.out.1, HY.out.2, HV3.out⟩
      clear HV3 HY
      go_wp2_with fail
      go_meet
      exact HS.out
  case rest =>
  obtain ⟨W4, hW4⟩ : ∃ q : World, wc = q := ⟨_, rfl⟩
  rw [hW4] at hcut ⊢
  clear hW4 co3 fo3 cl HV3 HY
  obtain ⟨y2, hkd, hcd, hrest⟩ := hcut.out
  have HV4 : Hid (Lb2 w b sb M b' sb' M' K R A A W4 ∧ OB W4 yb y2 ∧ OY w y2 ∧ w.heap.size ≤ yb ∧ ErrType w) := hrest
  clear hcut hrest hkd hcd
  have co4 := hcell HV4.out.2.1
  obtain ⟨t4, ht4⟩ : ∃ t : Bool, t = decide (y2.kd = 0 ∨ y2.kd = 9) := ⟨_, rfl⟩
  go_upto_region 8 with fail
  go_cut [65] (fun t65 wx => t65 = .bool t4 ∧ wx = W4)
  case first =>
    by_cases h0 : y2.kd = 0
    · have e0 : (y2.kd == 0) = true := by rw [h0]; rfl
      rw [decide_eq_true (Or.inl h0)] at ht4
      subst ht4
      clear h0
      go_wp2_with fail
      go_meet
      exact ⟨rfl, rfl⟩
    · have e0 : (y2.kd == 0) = false := by simpa using h0
      by_cases h9 : y2.kd = 9
      · have e9 : (y2.kd == 9) = true := by rw [h9]; rfl
        rw [decide_eq_true (Or.inr h9)] at ht4
        subst ht4
        clear h0 h9
        go_wp2_with fail
        go_meet
        exact ⟨rfl, rfl⟩
      · have e9 : (y2.kd == 9) = false := by simpa using h9
        rw [decide_eq_false (fun h => h.elim h0 h9)] at ht4
        subst ht4
        clear h0 h9
        go_wp2_with fail
        go_meet
        exact ⟨rfl, rfl⟩
  case rest =>
  obtain ⟨e65, ew⟩ := hcut
  subst e65
  rw [ew]
  clear ew ht4
  obtain ⟨e, he⟩ : ∃ e : Ent, y2.e = e := ⟨_, rfl⟩
  have HO4 : Hid (Lb2 w b sb M b' sb' M' K R A A W4 ∧ OB W4 yb y2 ∧ OY W4 y2 ∧ w.heap.size ≤ yb ∧ ErrType W4 ∧ ErrType w ∧ y2.e = e ∧ Lies w e) := ⟨HV4.out.1, HV4.out.2.1, HV4.out.2.2.1.below HV4.out.1.one.bel, HV4.out.2.2.2.1, errType_below HV4.out.2.2.2.2 HV4.out.1.one.bel, HV4.out.2.2.2.2, he, he ▸ HV4.out.2.2.1.l⟩
  have HN : Hid (e.tn + 90 ≤ 140737488355328 ∧ e.cn + 90 ≤ 140737488355328 ∧ e.an + 90 ≤ 140737488355328 ∧ KeyS e.ct ∧ Lies W4 e) := by
    have h1 := HO4.out.2.2.1
    rw [← he]
    exact ⟨h1.o.n1, h1.o.n2, h1.o.n3, h1.o.k1, h1.l⟩
  have HOW : Hid (OY w y2) := HV4.out.2.2.1
  clear HV4
  cases t4 with
  | true =>
    rw [he] at co4
    clear he
    go_wp2_with fail
    refine (handed_any e W4 HN.out.2.2.2.2 HN.out.1 HN.out.2.1 HN.out.2.2.1).mono ?_
    rintro _ w5 ⟨p1, k1, p2, k2, p3, k3, rfl, ho5, hb5⟩
    have H5 : Hid (Lb2 w b sb M b' sb' M' K R A A w5 ∧ OB w5 yb y2 ∧ ErrType w ∧ Lies w5 (e.wi p1 k1 p2 k2 p3 k3) ∧ KeyS e.ct ∧ Lies w5 e) := ⟨HO4.out.1.below hb5, HO4.out.2.1.below hb5, HO4.out.2.2.2.2.2.1, ho5.lies, HN.out.2.2.2.1, HN.out.2.2.2.2.below hb5⟩
    clear ho5 hb5 co4
    go_wp2_with fail
    refine (lb_acc2 H5.out.1 H5.out.2.1 (e := e.wi p1 k1 p2 k2 p3 k3) (e0 := e) (Tw.symm ⟨p1, k1, p2, k2, p3, k3, rfl⟩) H5.out.2.2.2.2.1 H5.out.2.2.2.1).mono ?_
    rintro _ w6 ⟨ev, rfl, H6⟩
    have HE6 : Hid (ErrType w6) := errType_below H5.out.2.2.1 H6.out.1.one.bel
    clear H5
    go_wp2_with fail
    refine (code_any H6.out.2.2 HE6.out).mono ?_
    rintro _ w7 ⟨rfl, hb7⟩
    obtain ⟨z, hz⟩ : ∃ z, accC R A e = z := ⟨_, rfl⟩
    obtain ⟨A1, hA1⟩ : ∃ q, accS R A e = q := ⟨_, rfl⟩
    have H7 : Hid (Lb2 w b sb M b' sb' M' K R A1 A w7 ∧ OB w7 yb y2 ∧ Lies w7 e) := ⟨hA1 ▸ H6.out.1.below hb7, H6.out.2.1.below hb7, HO4.out.2.2.2.2.2.2.2.below (below_then H6.out.1.one.bel hb7)⟩
    have HZ : Hid (accC R A e = z ∧ accS R A e = A1 ∧ ErrType w ∧ KeyS e.ct) := ⟨hz, hA1, HO4.out.2.2.2.2.2.1, HN.out.2.2.2.1⟩
    have co7 := hcell H7.out.2.1
    rw [HO4.out.2.2.2.2.2.2.1] at co7
    rw [hz]
    clear hb7 H6 HE6 hz hA1
    go_wp2_with fail
    refine (handed_any e w7 H7.out.2.2 HN.out.1 HN.out.2.1 HN.out.2.2.1).mono ?_
    rintro _ w8 ⟨p4, k4, p5, k5, p6, k6, rfl, ho8, hb8⟩
    have H8 : Hid (Lb2 w b sb M b' sb' M' K R A1 A w8 ∧ OB w8 yb y2 ∧ Lies w8 (e.wi p4 k4 p5 k5 p6 k6)) := ⟨H7.out.1.below hb8, H7.out.2.1.below hb8, ho8.lies⟩
    clear ho8 hb8 co7 H7 HO4 HN
    go_wp2_with fail
    refine (lb_acc2 H8.out.1.swap H8.out.2.1 (e := e.wi p4 k4 p5 k5 p6 k6) (e0 := e) (Tw.symm ⟨p4, k4, p5, k5, p6, k6, rfl⟩) HZ.out.2.2.2 H8.out.2.2).mono ?_
    rintro _ w9 ⟨ev2, rfl, H9⟩
    have HE9 : Hid (ErrType w9) := errType_below HZ.out.2.2.1 H9.out.1.one.bel
    clear H8
    go_wp2_with fail
    refine (code_any H9.out.2.2 HE9.out).mono ?_
    rintro _ u1 ⟨rfl, hb1⟩
    have HU1 : Hid (Lb2 w b sb M b' sb' M' K R A1 A1 u1) := by
      have h1 := H9.out.1.swap.below hb1
      rw [HZ.out.2.1] at h1
      exact h1
    rw [HZ.out.1]
    clear hb1 H9 HE9 HZ
    go_wp2_with fail
    refine (lb_list HU1.out.one).mono ?_
    rintro _ u2 ⟨a2, c2, rfl, H2⟩
    have HU2 : Hid (Lb2 w b sb M b' sb' M' K R A1 A1 u2 ∧ Lst u2 A1 (.slice a2 A1.length c2)) := ⟨HU1.out.below H2.out.1, H2.out.2⟩
    clear HU1 H2
    go_wp2_with fail
    refine (lb_list HU2.out.1.swap.one).mono ?_
    rintro _ u3 ⟨a3, c3, rfl, H3⟩
    have HU3 : Hid (Lb2 w b sb M b' sb' M' K R A1 A1 u3 ∧ Lst u3 A1 (.slice a2 A1.length c2) ∧ Lst u3 A1 (.slice a3 A1.length c3)) := ⟨HU2.out.1.below H3.out.1, HU2.out.2.below H3.out.1, H3.out.2⟩
    clear HU2 H3
    go_wp2_with fail
    refine (lst_same HU3.out.2.1 HU3.out.2.2).mono ?_
    rintro _ u4 ⟨rfl, H4⟩
    have HU4 : Hid (∃ A1, Lb2 w b sb M b' sb' M' K R A1 A1 u4) := ⟨A1, HU3.out.1.below H4.out⟩
    clear HU3 H4
    go_wp2_with fail
    go_ret
    exact ⟨rfl, HU4.out⟩
  | false =>
    clear he HN
    obtain ⟨A1, hA1⟩ : ∃ q, dcS K A y2.ct y.cd y2.an y2.ax = q := ⟨_, rfl⟩
    have HH : Hid (∀ z, Below W4.heap.size W4 z → Calls Tryd.prog 29 #[.slice y2.ap y2.an y2.ac] z fun r w' => ∃ g k, r = .returned (.slice (some ⟨g, 0, none⟩) y2.an k) ∧ Hid (Below W4.heap.size W4 w' ∧ Byts w' (some ⟨g, 0, none⟩) y2.an y2.ax) ∧ (∀ o, w'.cell? ⟨yb, o, none⟩ = (#[.int .i64 y2.kd, .int .i64 y2.of_, .int .i64 y2.n, .string y2.e.ct, .slice y2.e.tp y2.e.tn y2.e.tc, .int .i64 y2.e.nu, .int .i64 y2.e.tk, .slice y2.e.cp y2.e.cn y2.e.cc, .string y2.e.cd, .slice y2.e.ap y2.e.an y2.e.ac, .string y2.ct, .string y2.cd, .slice y2.ap y2.an y2.ac] : Array Value)[o]?)) := fun z hz => (hand_byts z (HO4.out.2.2.1.b.below hz) HO4.out.2.2.1.o.n4).mono fun r w' ⟨g, k, hr, hB, hb⟩ => ⟨g, k, hr, ⟨below_then hz hb, BRow.byts hB⟩, hcell (HO4.out.2.1.below (below_then hz hb))⟩
    have HD : Hid (∀ z g k, Below W4.heap.size W4 z → Byts z (some ⟨g, 0, none⟩) y2.an y2.ax → Calls Tryd.prog 12 #[.pointer (some ⟨b, 0, none⟩), .string y2.ct, .string y.cd, .slice (some ⟨g, 0, none⟩) y2.an k] z fun r w' => ∃ a m k ev, r = .returned (.tuple #[.slice a m k, ev]) ∧ Hid (∃ v v' es es', LbG w w' b sb M v b' sb' M' v' K R es A1 es' A ∧ OB w' yb y2 ∧ Tld K A y2.ct y.cd y2.an y2.ax a m k ev w' ∧ (∃ Z, OEv w' Z ev 0 (decC A y2.ct y.cd y2.an) ∧ ∀ q, Ft sb' M' v' q → q < Z)) ∧ (∀ o, w'.cell? ⟨yb, o, none⟩ = (#[.int .i64 y2.kd, .int .i64 y2.of_, .int .i64 y2.n, .string y2.e.ct, .slice y2.e.tp y2.e.tn y2.e.tc, .int .i64 y2.e.nu, .int .i64 y2.e.tk, .slice y2.e.cp y2.e.cn y2.e.cc, .string y2.e.cd, .slice y2.e.ap y2.e.an y2.e.ac, .string y2.ct, .string y2.cd, .slice y2.ap y2.an y2.ac] : Array Value)[o]?)) := fun z g k hz hB => (lb_dec2 (HO4.out.1.below hz) (HO4.out.2.1.below hz) HO4.out.2.2.1.o.k2 hB (by have := HO4.out.2.2.1.o.n4; omega)).mono fun r w' ⟨a, m, k, ev, hr, h1⟩ => by
      obtain ⟨v, v', es, es', g1, g2, g3, g4, g5⟩ := h1.out
      rw [hA1] at g1
      exact ⟨a, m, k, ev, hr, ⟨v, v', es, es', g1, g2, g3, _, g4, g5⟩, hcell g2⟩
    go_wp2_with fail
    go_region_held3 (fun z => (∀ o, z.cell? ⟨yb, o, none⟩ = (#[.int .i64 y2.kd, .int .i64 y2.of_, .int .i64 y2.n, .string y2.e.ct, .slice y2.e.tp y2.e.tn y2.e.tc, .int .i64 y2.e.nu, .int .i64 y2.e.tk, .slice y2.e.cp y2.e.cn y2.e.cc, .string y2.e.cd, .slice y2.e.ap y2.e.an y2.e.ac, .string y2.ct, .string y2.cd, .slice y2.ap y2.an y2.ac] : Array Value)[o]?)) (simp [*]) (first | (go_at_call 29; refine (HH.out _ ?_).mono ?_; (first | (with_reducible exact Below.refl _ _) | exact Below.drew (Below.refl _ _) | exact below_drewN (Below.refl _ _) _); clear HH; rintro _ w5 ⟨g5, k5, rfl, H5, s5⟩) | (go_at_call 12; refine (HD.out _ g5 k5 ?_ ?_).mono ?_; (first | (with_reducible exact Below.refl _ _) | (with_reducible exact H5.out.1) | (with_reducible exact Below.drew H5.out.1) | exact Below.drew (Below.refl _ _) | exact below_drewN (Below.refl _ _) _ | exact below_drewN H5.out.1 _); (first | exact H5.out.2 | exact H5.out.2.below (Below.drew (Below.refl _ _))); clear HD; rintro _ w6 ⟨a6, m6, k6, ev6, rfl, H6, s6⟩))
    have HO6 : Hid (OY w6 y2 ∧ OB w6 yb y2 ∧ ErrType w) := by
      obtain ⟨v, v', es, es', g1, g2, g3, g4⟩ := H6.out
      exact ⟨HOW.out.below g1.p.bel, g2, HO4.out.2.2.2.2.2.1⟩
    clear H5 s5 HO4 co4
    have HH2 : Hid (∀ z, Below w6.heap.size w6 z → Calls Tryd.prog 29 #[.slice y2.ap y2.an y2.ac] z fun r w' => ∃ g k, r = .returned (.slice (some ⟨g, 0, none⟩) y2.an k) ∧ Hid (Below w6.heap.size w6 w' ∧ Byts w' (some ⟨g, 0, none⟩) y2.an y2.ax) ∧ (∀ o, w'.cell? ⟨yb, o, none⟩ = (#[.int .i64 y2.kd, .int .i64 y2.of_, .int .i64 y2.n, .string y2.e.ct, .slice y2.e.tp y2.e.tn y2.e.tc, .int .i64 y2.e.nu, .int .i64 y2.e.tk, .slice y2.e.cp y2.e.cn y2.e.cc, .string y2.e.cd, .slice y2.e.ap y2.e.an y2.e.ac, .string y2.ct, .string y2.cd, .slice y2.ap y2.an y2.ac] : Array Value)[o]?)) := fun z hz => (hand_byts z (HO6.out.1.b.below hz) HO6.out.1.o.n4).mono fun r w' ⟨g, k, hr, hB, hb⟩ => ⟨g, k, hr, ⟨below_then hz hb, BRow.byts hB⟩, hcell (HO6.out.2.1.below (below_then hz hb))⟩
    have HD2 : Hid (∀ z g k, Below w6.heap.size w6 z → Byts z (some ⟨g, 0, none⟩) y2.an y2.ax → Calls Tryd.prog 12 #[.pointer (some ⟨b', 0, none⟩), .string y2.ct, .string y.cd, .slice (some ⟨g, 0, none⟩) y2.an k] z fun r w' => ∃ a m k ev, r = .returned (.tuple #[.slice a m k, ev]) ∧ Hid (Lb2 w b sb M b' sb' M' K R A1 A1 w' ∧ OB w' yb y2 ∧ Tld K A y2.ct y.cd y2.an y2.ax a6 m6 k6 ev6 w' ∧ Tld K A y2.ct y.cd y2.an y2.ax a m k ev w') ∧ (∀ o, w'.cell? ⟨yb, o, none⟩ = (#[.int .i64 y2.kd, .int .i64 y2.of_, .int .i64 y2.n, .string y2.e.ct, .slice y2.e.tp y2.e.tn y2.e.tc, .int .i64 y2.e.nu, .int .i64 y2.e.tk, .slice y2.e.cp y2.e.cn y2.e.cc, .string y2.e.cd, .slice y2.e.ap y2.e.an y2.e.ac, .string y2.ct, .string y2.cd, .slice y2.ap y2.an y2.ac] : Array Value)[o]?)) := fun z g k hz hB => by
      obtain ⟨v, v', es, es', g1, g2, g3, Z, g4, g5⟩ := H6.out
      refine (lb_dec3 (g1.below hz) (g2.below hz) (g3.below hz) (g4.below hz) g5 HO6.out.1.o.k2 hB (by have := HO6.out.1.o.n4; omega)).mono ?_
      rintro r w' ⟨a, m, k, ev, hr, h1⟩
      obtain ⟨q1, q2, q3, q4⟩ := h1.out
      rw [hA1] at q1
      exact ⟨a, m, k, ev, hr, ⟨q1, q2, q3, q4⟩, hcell q2⟩
    go_wp2_with fail
    go_region_held3 (fun z => (∀ o, z.cell? ⟨yb, o, none⟩ = (#[.int .i64 y2.kd, .int .i64 y2.of_, .int .i64 y2.n, .string y2.e.ct, .slice y2.e.tp y2.e.tn y2.e.tc, .int .i64 y2.e.nu, .int .i64 y2.e.tk, .slice y2.e.cp y2.e.cn y2.e.cc, .string y2.e.cd, .slice y2.e.ap y2.e.an y2.e.ac, .string y2.ct, .string y2.cd, .slice y2.ap y2.an y2.ac] : Array Value)[o]?)) (simp [*]) (first | (go_at_call 29; refine (HH2.out _ ?_).mono ?_; (first | (with_reducible exact Below.refl _ _) | exact Below.drew (Below.refl _ _) | exact below_drewN (Below.refl _ _) _); clear HH2; rintro _ w7 ⟨g7, k7, rfl, H7, s7⟩) | (go_at_call 12; refine (HD2.out _ g7 k7 ?_ ?_).mono ?_; (first | (with_reducible exact Below.refl _ _) | (with_reducible exact H7.out.1) | (with_reducible exact Below.drew H7.out.1) | exact Below.drew (Below.refl _ _) | exact below_drewN (Below.refl _ _) _ | exact below_drewN H7.out.1 _); (first | exact H7.out.2 | exact H7.out.2.below (Below.drew (Below.refl _ _))); clear HD2; rintro _ w8 ⟨a8, m8, k8, ev8, rfl, H8, s8⟩))
    have HK2 : Hid (KeyS y2.ct ∧ ErrType w) := ⟨HO6.out.1.o.k2, HO6.out.2.2⟩
    clear H7 s7 H6 s6 HO6 hA1
    obtain ⟨t9, ht9⟩ : ∃ t : Bool, t = (fi y2.ct A1).isSome := ⟨_, rfl⟩
    have HT9 : Hid (t9 = (fi y2.ct A1).isSome) := ht9
    clear ht9
    go_wp2_with fail
    refine (lb_find H8.out.1.one HK2.out.1 HT9.out).mono ?_
    rintro _ u1 ⟨m1, rfl, HF1⟩
    have b1 := (Below.refl u1.heap.size u1).alloc (Nat.le_refl _) (.cells #[.string m1.ct, .slice m1.tp m1.tn m1.tc, .int .i64 m1.nu, .int .i64 m1.tk, .slice m1.cp m1.cn m1.cc, .string m1.cd, .slice m1.ap m1.an m1.ac] 35)
    have HU1 : Hid (Below w8.heap.size w8 (u1.alloc (.cells #[.string m1.ct, .slice m1.tp m1.tn m1.tc, .int .i64 m1.nu, .int .i64 m1.tk, .slice m1.cp m1.cn m1.cc, .string m1.cd, .slice m1.ap m1.an m1.ac] 35)) ∧ Lies (u1.alloc (.cells #[.string m1.ct, .slice m1.tp m1.tn m1.tc, .int .i64 m1.nu, .int .i64 m1.tk, .slice m1.cp m1.cn m1.cc, .string m1.cd, .slice m1.ap m1.an m1.ac] 35)) m1 ∧ Sz m1 ∧ Tw m1 (fdE A1 y2.ct) ∧ u1.heap.size < (u1.alloc (.cells #[.string m1.ct, .slice m1.tp m1.tn m1.tc, .int .i64 m1.nu, .int .i64 m1.tk, .slice m1.cp m1.cn m1.cc, .string m1.cd, .slice m1.ap m1.an m1.ac] 35)).heap.size) := ⟨below_then HF1.out.1 b1, HF1.out.2.1.below b1, HF1.out.2.2.1, HF1.out.2.2.2, by simp⟩
    have cx := (Box.new u1 #[.string m1.ct, .slice m1.tp m1.tn m1.tc, .int .i64 m1.nu, .int .i64 m1.tk, .slice m1.cp m1.cn m1.cc, .string m1.cd, .slice m1.ap m1.an m1.ac] 35).cell
    have co9 : (∀ o, (u1.alloc (.cells #[.string m1.ct, .slice m1.tp m1.tn m1.tc, .int .i64 m1.nu, .int .i64 m1.tk, .slice m1.cp m1.cn m1.cc, .string m1.cd, .slice m1.ap m1.an m1.ac] 35)).cell? ⟨yb, o, none⟩ = (#[.int .i64 y2.kd, .int .i64 y2.of_, .int .i64 y2.n, .string y2.e.ct, .slice y2.e.tp y2.e.tn y2.e.tc, .int .i64 y2.e.nu, .int .i64 y2.e.tk, .slice y2.e.cp y2.e.cn y2.e.cc, .string y2.e.cd, .slice y2.e.ap y2.e.an y2.e.ac, .string y2.ct, .string y2.cd, .slice y2.ap y2.an y2.ac] : Array Value)[o]?) := hcell (H8.out.2.1.below HU1.out.1)
    clear b1 HF1
    go_wp2_with fail
    generalize (u1.alloc (.cells #[.string m1.ct, .slice m1.tp m1.tn m1.tc, .int .i64 m1.nu, .int .i64 m1.tk, .slice m1.cp m1.cn m1.cc, .string m1.cd, .slice m1.ap m1.an m1.ac] 35)) = U1 at HU1 cx co9 ⊢
    obtain ⟨xb, hxb⟩ : ∃ q, u1.heap.size = q := ⟨_, rfl⟩
    rw [hxb] at HU1 cx ⊢
    clear hxb
    refine (lb_find (H8.out.1.below HU1.out.1).swap.one HK2.out.1 HT9.out).mono ?_
    rintro _ u2 ⟨m2, rfl, HF2⟩
    have b2 := (Below.refl u2.heap.size u2).alloc (Nat.le_refl _) (.cells #[.string m2.ct, .slice m2.tp m2.tn m2.tc, .int .i64 m2.nu, .int .i64 m2.tk, .slice m2.cp m2.cn m2.cc, .string m2.cd, .slice m2.ap m2.an m2.ac] 35)
    have HU2 : Hid (Below w8.heap.size w8 (u2.alloc (.cells #[.string m2.ct, .slice m2.tp m2.tn m2.tc, .int .i64 m2.nu, .int .i64 m2.tk, .slice m2.cp m2.cn m2.cc, .string m2.cd, .slice m2.ap m2.an m2.ac] 35)) ∧ Lies (u2.alloc (.cells #[.string m2.ct, .slice m2.tp m2.tn m2.tc, .int .i64 m2.nu, .int .i64 m2.tk, .slice m2.cp m2.cn m2.cc, .string m2.cd, .slice m2.ap m2.an m2.ac] 35)) m1 ∧ Lies (u2.alloc (.cells #[.string m2.ct, .slice m2.tp m2.tn m2.tc, .int .i64 m2.nu, .int .i64 m2.tk, .slice m2.cp m2.cn m2.cc, .string m2.cd, .slice m2.ap m2.an m2.ac] 35)) m2 ∧ Sz m1 ∧ Tw m1 m2 ∧ xb < (u2.alloc (.cells #[.string m2.ct, .slice m2.tp m2.tn m2.tc, .int .i64 m2.nu, .int .i64 m2.tk, .slice m2.cp m2.cn m2.cc, .string m2.cd, .slice m2.ap m2.an m2.ac] 35)).heap.size ∧ u2.heap.size < (u2.alloc (.cells #[.string m2.ct, .slice m2.tp m2.tn m2.tc, .int .i64 m2.nu, .int .i64 m2.tk, .slice m2.cp m2.cn m2.cc, .string m2.cd, .slice m2.ap m2.an m2.ac] 35)).heap.size ∧ Below U1.heap.size U1 (u2.alloc (.cells #[.string m2.ct, .slice m2.tp m2.tn m2.tc, .int .i64 m2.nu, .int .i64 m2.tk, .slice m2.cp m2.cn m2.cc, .string m2.cd, .slice m2.ap m2.an m2.ac] 35))) := by
      have d2 := below_then HF2.out.1 b2
      exact ⟨below_then HU1.out.1 d2, HU1.out.2.1.below d2, HF2.out.2.1.below b2, HU1.out.2.2.1, HU1.out.2.2.2.1.trans HF2.out.2.2.2.symm, Nat.lt_of_lt_of_le HU1.out.2.2.2.2 d2.size, by simp, d2⟩
    have cx2 : ∀ o, (u2.alloc (.cells #[.string m2.ct, .slice m2.tp m2.tn m2.tc, .int .i64 m2.nu, .int .i64 m2.tk, .slice m2.cp m2.cn m2.cc, .string m2.cd, .slice m2.ap m2.an m2.ac] 35)).cell? ⟨xb, o, none⟩ = (#[.string m1.ct, .slice m1.tp m1.tn m1.tc, .int .i64 m1.nu, .int .i64 m1.tk, .slice m1.cp m1.cn m1.cc, .string m1.cd, .slice m1.ap m1.an m1.ac] : Array Value)[o]? := fun o => (HU2.out.2.2.2.2.2.2.2.cell (p := ⟨xb, o, none⟩) HU1.out.2.2.2.2).trans (cx o)
    have cy2 := (Box.new u2 #[.string m2.ct, .slice m2.tp m2.tn m2.tc, .int .i64 m2.nu, .int .i64 m2.tk, .slice m2.cp m2.cn m2.cc, .string m2.cd, .slice m2.ap m2.an m2.ac] 35).cell
    clear b2 HF2 cx co9 HU1
    go_wp2_with fail
    generalize (u2.alloc (.cells #[.string m2.ct, .slice m2.tp m2.tn m2.tc, .int .i64 m2.nu, .int .i64 m2.tk, .slice m2.cp m2.cn m2.cc, .string m2.cd, .slice m2.ap m2.an m2.ac] 35)) = U2 at HU2 cx2 cy2 ⊢
    obtain ⟨yb2, hyb2⟩ : ∃ q, u2.heap.size = q := ⟨_, rfl⟩
    rw [hyb2] at HU2 cy2 ⊢
    clear hyb2
    obtain ⟨l9, hl9⟩ : ∃ q, gnS K A y2.ct y.cd y2.an y2.ax = q := ⟨_, rfl⟩
    obtain ⟨z9, hz9⟩ : ∃ q, decC A y2.ct y.cd y2.an = q := ⟨_, rfl⟩
    have HT1 : Hid ((∃ B, TRow U2 B (.slice a6 m6 k6) l9) ∧ (∃ B, TRow U2 B (.slice a8 m6 k8) l9) ∧ m8 = m6 ∧ (∃ B, OEv U2 B ev6 0 z9) ∧ (∃ B, OEv U2 B ev8 0 z9) ∧ Lb2 w b sb M b' sb' M' K R A1 A1 U2 ∧ ErrType w) := by
      have q3 := H8.out.2.2.1.below HU2.out.1
      have q4 := H8.out.2.2.2.below HU2.out.1
      unfold Tld at q3 q4
      rw [hl9, hz9] at q3 q4
      have hm : m8 = m6 := q4.2.2.trans q3.2.2.symm
      rw [hm] at q4
      exact ⟨q3.2.1, q4.2.1, hm, q3.1, q4.1, H8.out.1.below HU2.out.1, HK2.out.2⟩
    rw [HT1.out.2.2.1]
    clear H8 s8 HK2 HT9 hl9 hz9
    obtain ⟨B1, hB1⟩ := HT1.out.1
    obtain ⟨B2, hB2⟩ := HT1.out.2.1
    refine (sameTexts_true hB1 hB2).mono ?_
    rintro _ u3 ⟨rfl, q3, hw3⟩
    have d3 : Below U2.heap.size U2 u3 := by rw [hw3]; exact below_drewN (Below.refl _ _) q3
    have H3 : Hid (Below U2.heap.size U2 u3) := d3
    clear hB1 hB2 hw3 d3
    go_wp2_with fail
    obtain ⟨B3, hB3⟩ := HT1.out.2.2.2.1
    refine (code_any (hB3.below H3.out) (errType_below HT1.out.2.2.2.2.2.2 (HT1.out.2.2.2.2.2.1.below H3.out).one.bel)).mono ?_
    rintro _ u4 ⟨rfl, hb4⟩
    have H4 : Hid (Below U2.heap.size U2 u4) := below_then H3.out hb4
    clear hB3 hb4 H3
    go_wp2_with fail
    obtain ⟨B4, hB4⟩ := HT1.out.2.2.2.2.1
    refine (code_any (hB4.below H4.out) (errType_below HT1.out.2.2.2.2.2.2 (HT1.out.2.2.2.2.2.1.below H4.out).one.bel)).mono ?_
    rintro _ u5 ⟨rfl, hb5⟩
    have H5 : Hid (Below U2.heap.size U2 u5) := below_then H4.out hb5
    have cx5 : ∀ o, u5.cell? ⟨xb, o, none⟩ = (#[.string m1.ct, .slice m1.tp m1.tn m1.tc, .int .i64 m1.nu, .int .i64 m1.tk, .slice m1.cp m1.cn m1.cc, .string m1.cd, .slice m1.ap m1.an m1.ac] : Array Value)[o]? := fun o => (H5.out.cell (p := ⟨xb, o, none⟩) HU2.out.2.2.2.2.2.1).trans (cx2 o)
    have cy5 : ∀ o, u5.cell? ⟨yb2, o, none⟩ = (#[.string m2.ct, .slice m2.tp m2.tn m2.tc, .int .i64 m2.nu, .int .i64 m2.tk, .slice m2.cp m2.cn m2.cc, .string m2.cd, .slice m2.ap m2.an m2.ac] : Array Value)[o]? := fun o => (H5.out.cell (p := ⟨yb2, o, none⟩) HU2.out.2.2.2.2.2.2.1).trans (cy2 o)
    clear hB4 hb5 H4 cx2 cy2
    go_wp2_with fail
    refine (ent_same ⟨HU2.out.2.1.below H5.out, HU2.out.2.2.2.1⟩ (HU2.out.2.2.1.below H5.out) HU2.out.2.2.2.2.1).mono ?_
    rintro _ u6 ⟨rfl, HB6⟩
    have HU6 : Hid (Lb2 w b sb M b' sb' M' K R A1 A1 u6) := (HT1.out.2.2.2.2.2.1.below H5.out).below HB6.out
    clear HT1 HU2 H5 HB6 cx5 cy5
    go_wp2_with fail
    refine (lb_list HU6.out.one).mono ?_
    rintro _ u7 ⟨a7, c7, rfl, H7⟩
    have HU7 : Hid (Lb2 w b sb M b' sb' M' K R A1 A1 u7 ∧ Lst u7 A1 (.slice a7 A1.length c7)) := ⟨HU6.out.below H7.out.1, H7.out.2⟩
    clear HU6 H7
    go_wp2_with fail
    refine (lb_list HU7.out.1.swap.one).mono ?_
    rintro _ u8 ⟨a9, c9, rfl, H9⟩
    have HU8 : Hid (Lb2 w b sb M b' sb' M' K R A1 A1 u8 ∧ Lst u8 A1 (.slice a7 A1.length c7) ∧ Lst u8 A1 (.slice a9 A1.length c9)) := ⟨HU7.out.1.below H9.out.1, HU7.out.2.below H9.out.1, H9.out.2⟩
    clear HU7 H9
    go_wp2_with fail
    refine (lst_same HU8.out.2.1 HU8.out.2.2).mono ?_
    rintro _ u9 ⟨rfl, H10⟩
    have HU9 : Hid (∃ A1, Lb2 w b sb M b' sb' M' K R A1 A1 u9) := ⟨A1, HU8.out.1.below H10.out⟩
    clear HU8 H10
    go_wp2_with fail
    go_ret
    exact ⟨rfl, HU9.out⟩
end Go.Proofs.YtelhiihbgnfpiaaDoor
