/-
  The law's likewise, walked: no other box.
-/
import Derived.Test.YtelhiihbgnfpiaaDoorIbLk
import Derived.Deep.RegionHeld3
import Derived.Deep.DeepCutAuto
namespace Go.Proofs.YtelhiihbgnfpiaaDoor
open Go.RowKit

/-- The call's lists lie where they came in; its names are no longer than names may be. -/
structure OY (X : World) (y : Opv) : Prop where
  l : Lies X y.e
  b : Byts X y.ap y.an y.ax
  o : OpOk y
theorem OY.below {X Y : World} {y : Opv} (h : OY X y) (hb : Below X.heap.size X Y) : OY Y y := ⟨h.l.below hb, h.b.below hb, h.o⟩
set_option maxRecDepth 100000 in
set_option maxHeartbeats 4000000 in
theorem lw_nil {w X : World} {b sb M : Nat} {K R : Int} {A : List Ent} {y : Opv} (h : Lb1 w b sb M K R A X) (hE : ErrType w) (hy : OY w y) :
    Calls Tryd.prog 9 #[.pointer (some ⟨b, 0, none⟩), .pointer none, .agg #[.int .i64 y.kd, .int .i64 y.of_, .int .i64 y.n, .string y.e.ct, .slice y.e.tp y.e.tn y.e.tc, .int .i64 y.e.nu, .int .i64 y.e.tk, .slice y.e.cp y.e.cn y.e.cc, .string y.e.cd, .slice y.e.ap y.e.an y.e.ac, .string y.ct, .string y.cd, .slice y.ap y.an y.ac]] X fun e w' => e = .returned (.bool true) ∧ ∃ A1, Lb1 w b sb M K R A1 w' := by
  have b1 := (Below.refl X.heap.size X).alloc (Nat.le_refl _) (.cells #[.int .i64 y.kd, .int .i64 y.of_, .int .i64 y.n, .string y.e.ct, .slice y.e.tp y.e.tn y.e.tc, .int .i64 y.e.nu, .int .i64 y.e.tk, .slice y.e.cp y.e.cn y.e.cc, .string y.e.cd, .slice y.e.ap y.e.an y.e.ac, .string y.ct, .string y.cd, .slice y.ap y.an y.ac] 37)
  have hob : OB (X.alloc (.cells #[.int .i64 y.kd, .int .i64 y.of_, .int .i64 y.n, .string y.e.ct, .slice y.e.tp y.e.tn y.e.tc, .int .i64 y.e.nu, .int .i64 y.e.tk, .slice y.e.cp y.e.cn y.e.cc, .string y.e.cd, .slice y.e.ap y.e.an y.e.ac, .string y.ct, .string y.cd, .slice y.ap y.an y.ac] 37)) X.heap.size y := by unfold OB; show (X.heap.push _)[X.heap.size]? = _; simp
  have HV : Hid (Lb1 w b sb M K R A (X.alloc (.cells #[.int .i64 y.kd, .int .i64 y.of_, .int .i64 y.n, .string y.e.ct, .slice y.e.tp y.e.tn y.e.tc, .int .i64 y.e.nu, .int .i64 y.e.tk, .slice y.e.cp y.e.cn y.e.cc, .string y.e.cd, .slice y.e.ap y.e.an y.e.ac, .string y.ct, .string y.cd, .slice y.ap y.an y.ac] 37)) ∧ OB (X.alloc (.cells #[.int .i64 y.kd, .int .i64 y.of_, .int .i64 y.n, .string y.e.ct, .slice y.e.tp y.e.tn y.e.tc, .int .i64 y.e.nu, .int .i64 y.e.tk, .slice y.e.cp y.e.cn y.e.cc, .string y.e.cd, .slice y.e.ap y.e.an y.e.ac, .string y.ct, .string y.cd, .slice y.ap y.an y.ac] 37)) X.heap.size y ∧ OY w y ∧ w.heap.size ≤ X.heap.size ∧ ErrType w) := ⟨h.below b1, hob, hy, h.bel.size, hE⟩
  have co := hcell hob
  clear h hy b1 hob hE
  go_enter Tryd.func9, Tryd.ntmps9
  go_wp2_with fail
  generalize (X.alloc (.cells #[.int .i64 y.kd, .int .i64 y.of_, .int .i64 y.n, .string y.e.ct, .slice y.e.tp y.e.tn y.e.tc, .int .i64 y.e.nu, .int .i64 y.e.tk, .slice y.e.cp y.e.cn y.e.cc, .string y.e.cd, .slice y.e.ap y.e.an y.e.ac, .string y.ct, .string y.cd, .slice y.ap y.an y.ac] 37)) = V at HV co ⊢
  obtain ⟨yb, hyb⟩ : ∃ q, X.heap.size = q := ⟨_, rfl⟩
  rw [hyb] at HV co ⊢
  clear hyb
  refine (lb_open HV.out.1).mono ?_
  rintro _ w1 ⟨la, ln, lc, rfl, H1⟩
  have HV1 : Hid (Lb1 w b sb M K R A w1 ∧ OB w1 yb y ∧ OY w y ∧ w.heap.size ≤ yb ∧ ErrType w) := ⟨HV.out.1.below H1.out.1, HV.out.2.1.below H1.out.1, HV.out.2.2⟩
  have co1 := hcell HV1.out.2.1
  have fo1 := hfroz HV1.out.2.1
  have hln6 : (ln : Int) ≤ 1000000 := by have := H1.out.2.1; omega
  clear HV co
  obtain ⟨t2, ht2⟩ : ∃ t : Bool, t = decide (y.kd = 2 ∧ 0 < ln) := ⟨_, rfl⟩
  go_upto_region 3 with fail
  go_cut [30] (fun t30 wx => t30 = .bool t2 ∧ wx = w1)
  case first =>
    by_cases h2a : y.kd = 2
    · have e2 : (y.kd == 2) = true := by rw [h2a]; rfl
      by_cases h2b : 0 < ln
      · have e3 : (ln : Int) > 0 := by omega
        rw [decide_eq_true ⟨h2a, h2b⟩] at ht2
        subst ht2
        clear h2a
        go_wp2_with fail
        go_meet
        exact ⟨rfl, rfl⟩
      · have e3 : ¬ (ln : Int) > 0 := by omega
        rw [decide_eq_false (fun h => h2b h.2)] at ht2
        subst ht2
        clear h2a
        go_wp2_with fail
        go_meet
        exact ⟨rfl, rfl⟩
    · have e2 : (y.kd == 2) = false := by simpa using h2a
      rw [decide_eq_false (fun h => h2a h.1)] at ht2
      subst ht2
      clear h2a
      go_wp2_with fail
      go_meet
      exact ⟨rfl, rfl⟩
  case rest =>
  obtain ⟨e30, ew⟩ := hcut
  subst e30
  rw [ew]
  clear ew
  go_upto_if 30 with fail
  go_cut [] (fun wx => Hid (∃ y1 : Opv, y1.kd = y.kd ∧ y1.cd = y.cd ∧ Lb1 w b sb M K R A wx ∧ OB wx yb y1 ∧ OY w y1 ∧ w.heap.size ≤ yb ∧ ErrType w))
  case first =>
    cases t2 with
    | true =>
      obtain ⟨hx2, h2b⟩ := of_decide_eq_true ht2.symm
      clear hx2
      have e3 : (ln : Int) > 0 := by omega
      have hwi := within_any y.n (n := ln) w1 h2b H1.out.2.1
      clear ht2
      go_wp2_with fail
      refine hwi.mono ?_
      rintro _ w5 ⟨jj, hjj, rfl, hw5⟩
      subst hw5
      obtain ⟨l, hT, hK⟩ := H1.out.2.2
      obtain ⟨g4, st, rfl, hst, hcs⟩ := trow_at hT hjj
      have q1 : (jj : Int) < ln := by omega
      have HS : Hid (∃ y1 : Opv, y1.kd = y.kd ∧ y1.cd = y.cd ∧ Lb1 w b sb M K R A (w5.setCell ⟨yb, 10, none⟩ (.string st)) ∧ OB (w5.setCell ⟨yb, 10, none⟩ (.string st)) yb y1 ∧ OY w y1 ∧ w.heap.size ≤ yb ∧ ErrType w) :=
        ⟨{ y with ct := st }, rfl, rfl, HV1.out.1.put HV1.out.2.1 HV1.out.2.2.2.1 10 _, HV1.out.2.1.ct st, ⟨HV1.out.2.2.1.l, HV1.out.2.2.1.b, ⟨HV1.out.2.2.1.o.k1, hK st (List.mem_of_getElem? hst), HV1.out.2.2.1.o.n1, HV1.out.2.2.1.o.n2, HV1.out.2.2.1.o.n3, HV1.out.2.2.1.o.n4⟩⟩, HV1.out.2.2.2⟩
      clear hT hK hst hjj hwi H1 HV1
      go_wp2_with fail
      go_meet
      exact HS.out
    | false =>
      have HS : Hid (∃ y1 : Opv, y1.kd = y.kd ∧ y1.cd = y.cd ∧ Lb1 w b sb M K R A w1 ∧ OB w1 yb y1 ∧ OY w y1 ∧ w.heap.size ≤ yb ∧ ErrType w) := ⟨y, rfl, rfl, HV1.out⟩
      clear H1 HV1 ht2
      go_wp2_with fail
      go_meet
      exact HS.out
  case rest =>
  obtain ⟨W2, hW2⟩ : ∃ q : World, wc = q := ⟨_, rfl⟩
  rw [hW2] at hcut ⊢
  clear hW2 co1 fo1 H1 HV1 hln6 ht2
  obtain ⟨y1, hkd, hcd, hrest⟩ := hcut.out
  have HV2 : Hid (Lb1 w b sb M K R A W2 ∧ OB W2 yb y1 ∧ OY w y1 ∧ w.heap.size ≤ yb ∧ ErrType w) := hrest
  have HY : Hid (y1.kd = y.kd ∧ y1.cd = y.cd) := ⟨hkd, hcd⟩
  clear hcut hrest hkd hcd
  go_wp2_with fail
  refine (lb_last HV2.out.1).mono ?_
  rintro _ w3 ⟨lm, lt, rfl, H3⟩
  have b3 := (Below.refl w3.heap.size w3).alloc (Nat.le_refl _) (.cells #[.string lm.ct, .slice lm.tp lm.tn lm.tc, .int .i64 lm.nu, .int .i64 lm.tk, .slice lm.cp lm.cn lm.cc, .string lm.cd, .slice lm.ap lm.an lm.ac] 35)
  have HV3 : Hid (Lb1 w b sb M K R A (w3.alloc (.cells #[.string lm.ct, .slice lm.tp lm.tn lm.tc, .int .i64 lm.nu, .int .i64 lm.tk, .slice lm.cp lm.cn lm.cc, .string lm.cd, .slice lm.ap lm.an lm.ac] 35)) ∧ OB (w3.alloc (.cells #[.string lm.ct, .slice lm.tp lm.tn lm.tc, .int .i64 lm.nu, .int .i64 lm.tk, .slice lm.cp lm.cn lm.cc, .string lm.cd, .slice lm.ap lm.an lm.ac] 35)) yb y1 ∧ OY w y1 ∧ w.heap.size ≤ yb ∧ ErrType w) := ⟨(HV2.out.1.below H3.out).below b3, (HV2.out.2.1.below H3.out).below b3, HV2.out.2.2⟩
  have cl := (Box.new w3 #[.string lm.ct, .slice lm.tp lm.tn lm.tc, .int .i64 lm.nu, .int .i64 lm.tk, .slice lm.cp lm.cn lm.cc, .string lm.cd, .slice lm.ap lm.an lm.ac] 35).cell
  clear HV2 H3 b3
  obtain ⟨t3, ht3⟩ : ∃ t : Bool, t = (lt && decide (y1.e.tk < lm.tk)) := ⟨_, rfl⟩
  go_upto_region 6 with fail
  generalize (w3.alloc (.cells #[.string lm.ct, .slice lm.tp lm.tn lm.tc, .int .i64 lm.nu, .int .i64 lm.tk, .slice lm.cp lm.cn lm.cc, .string lm.cd, .slice lm.ap lm.an lm.ac] 35)) = W3 at HV3 cl ⊢
  have co3 := hcell HV3.out.2.1
  have fo3 := hfroz HV3.out.2.1
  go_cut [53] (fun t53 wx => t53 = .bool t3 ∧ wx = W3)
  case first =>
    cases lt with
    | true =>
      by_cases h3 : y1.e.tk < lm.tk
      · rw [decide_eq_true h3] at ht3
        subst ht3
        go_wp2_with fail
        go_meet
        exact ⟨rfl, rfl⟩
      · rw [decide_eq_false h3] at ht3
        subst ht3
        go_wp2_with fail
        go_meet
        exact ⟨rfl, rfl⟩
    | false =>
      subst ht3
      go_wp2_with fail
      go_meet
      exact ⟨rfl, rfl⟩
  case rest =>
  obtain ⟨e53, ew⟩ := hcut
  subst e53
  rw [ew]
  clear ew ht3
  go_upto_if 53 with fail
  go_cut [] (fun wx => Hid (∃ y2 : Opv, y2.kd = y.kd ∧ y2.cd = y.cd ∧ Lb1 w b sb M K R A wx ∧ OB wx yb y2 ∧ OY w y2 ∧ w.heap.size ≤ yb ∧ ErrType w))
  case first =>
    cases t3 with
    | true =>
      have HS : Hid (∃ y2 : Opv, y2.kd = y.kd ∧ y2.cd = y.cd ∧ Lb1 w b sb M K R A (W3.setCell ⟨yb, 6, none⟩ (.int .i64 lm.tk)) ∧ OB (W3.setCell ⟨yb, 6, none⟩ (.int .i64 lm.tk)) yb y2 ∧ OY w y2 ∧ w.heap.size ≤ yb ∧ ErrType w) :=
        ⟨{ y1 with e := { y1.e with tk := lm.tk } }, HY.out.1, HY.out.2, HV3.out.1.put HV3.out.2.1 HV3.out.2.2.2.1 6 _, HV3.out.2.1.tk lm.tk, ⟨⟨HV3.out.2.2.1.l.t, HV3.out.2.2.1.l.c, HV3.out.2.2.1.l.a⟩, HV3.out.2.2.1.b, ⟨HV3.out.2.2.1.o.k1, HV3.out.2.2.1.o.k2, HV3.out.2.2.1.o.n1, HV3.out.2.2.1.o.n2, HV3.out.2.2.1.o.n3, HV3.out.2.2.1.o.n4⟩⟩, HV3.out.2.2.2⟩
      clear HV3 HY
      go_wp2_with fail
      go_meet
      exact HS.out
    | false =>
      have HS : Hid (∃ y2 : Opv, y2.kd = y.kd ∧ y2.cd = y.cd ∧ Lb1 w b sb M K R A W3 ∧ OB W3 yb y2 ∧ OY w y2 ∧ w.heap.size ≤ yb ∧ ErrType w) := ⟨y1, HY.out.1, HY.out.2, HV3.out⟩
      clear HV3 HY
      go_wp2_with fail
      go_meet
      exact HS.out
  case rest =>
  obtain ⟨W4, hW4⟩ : ∃ q : World, wc = q := ⟨_, rfl⟩
  rw [hW4] at hcut ⊢
  clear hW4 co3 fo3 cl HV3 HY
  obtain ⟨y2, hkd, hcd, hrest⟩ := hcut.out
  have HV4 : Hid (Lb1 w b sb M K R A W4 ∧ OB W4 yb y2 ∧ OY w y2 ∧ w.heap.size ≤ yb ∧ ErrType w) := hrest
  clear hcut hrest hkd hcd
  have co4 := hcell HV4.out.2.1
  obtain ⟨t4, ht4⟩ : ∃ t : Bool, t = decide (y2.kd = 0 ∨ y2.kd = 9) := ⟨_, rfl⟩
  go_upto_region 8 with fail
  go_cut [65] (fun t65 wx => t65 = .bool t4 ∧ wx = W4)
  case first =>
    by_cases h0 : y2.kd = 0
    · have e0 : (y2.kd == 0) = true := by rw [h0]; rfl
      rw [decide_eq_true (Or.inl h0)] at ht4
      subst ht4
      clear h0
      go_wp2_with fail
      go_meet
      exact ⟨rfl, rfl⟩
    · have e0 : (y2.kd == 0) = false := by simpa using h0
      by_cases h9 : y2.kd = 9
      · have e9 : (y2.kd == 9) = true := by rw [h9]; rfl
        rw [decide_eq_true (Or.inr h9)] at ht4
        subst ht4
        clear h0 h9
        go_wp2_with fail
        go_meet
        exact ⟨rfl, rfl⟩
      · have e9 : (y2.kd == 9) = false := by simpa using h9
        rw [decide_eq_false (fun h => h.elim h0 h9)] at ht4
        subst ht4
        clear h0 h9
        go_wp2_with fail
        go_meet
        exact ⟨rfl, rfl⟩
  case rest =>
  obtain ⟨e65, ew⟩ := hcut
  subst e65
  rw [ew]
  clear ew ht4
  obtain ⟨e, he⟩ : ∃ e : Ent, y2.e = e := ⟨_, rfl⟩
  have HO4 : Hid (Lb1 w b sb M K R A W4 ∧ OB W4 yb y2 ∧ OY W4 y2 ∧ w.heap.size ≤ yb ∧ ErrType W4 ∧ ErrType w ∧ y2.e = e ∧ Lies w e) := ⟨HV4.out.1, HV4.out.2.1, HV4.out.2.2.1.below HV4.out.1.bel, HV4.out.2.2.2.1, errType_below HV4.out.2.2.2.2 HV4.out.1.bel, HV4.out.2.2.2.2, he, he ▸ HV4.out.2.2.1.l⟩
  have HN : Hid (e.tn + 90 ≤ 140737488355328 ∧ e.cn + 90 ≤ 140737488355328 ∧ e.an + 90 ≤ 140737488355328 ∧ KeyS e.ct ∧ Lies W4 e) := by
    have h1 := HO4.out.2.2.1
    rw [← he]
    exact ⟨h1.o.n1, h1.o.n2, h1.o.n3, h1.o.k1, h1.l⟩
  clear HV4
  cases t4 with
  | true =>
    rw [he] at co4
    clear he
    go_wp2_with fail
    refine (handed_any e W4 HN.out.2.2.2.2 HN.out.1 HN.out.2.1 HN.out.2.2.1).mono ?_
    rintro _ w5 ⟨p1, k1, p2, k2, p3, k3, rfl, ho5, hb5⟩
    have H5 : Hid (Lb1 w b sb M K R A w5 ∧ OB w5 yb y2 ∧ ErrType w ∧ Lies w5 (e.wi p1 k1 p2 k2 p3 k3) ∧ KeyS e.ct ∧ Lies w5 e) := ⟨HO4.out.1.below hb5, HO4.out.2.1.below hb5, HO4.out.2.2.2.2.2.1, ho5.lies, HN.out.2.2.2.1, HN.out.2.2.2.2.below hb5⟩
    clear ho5 hb5 co4
    go_wp2_with fail
    refine (lb_acc1 H5.out.1 (e := e.wi p1 k1 p2 k2 p3 k3) (e0 := e) (Tw.symm ⟨p1, k1, p2, k2, p3, k3, rfl⟩) H5.out.2.2.2.2.1 H5.out.2.2.2.1).mono ?_
    rintro _ w6 ⟨ev, rfl, H6⟩
    have HE6 : Hid (ErrType w6) := errType_below H5.out.2.2.1 H6.out.1.bel
    clear H5 HO4 HN
    go_wp2_with fail
    refine (code_any H6.out.2 HE6.out).mono ?_
    rintro _ w7 ⟨rfl, hb7⟩
    have H7 : Hid (∃ A1, Lb1 w b sb M K R A1 w7) := ⟨_, H6.out.1.below hb7⟩
    clear hb7 H6 HE6
    go_wp2_with fail
    go_ret
    exact ⟨rfl, H7.out⟩
  | false =>
    clear he HN
    have HH : Hid (∀ z, Below W4.heap.size W4 z → Calls Tryd.prog 29 #[.slice y2.ap y2.an y2.ac] z fun r w' => ∃ g k, r = .returned (.slice (some ⟨g, 0, none⟩) y2.an k) ∧ Hid (Below W4.heap.size W4 w' ∧ Byts w' (some ⟨g, 0, none⟩) y2.an y2.ax) ∧ (∀ o, w'.cell? ⟨yb, o, none⟩ = (#[.int .i64 y2.kd, .int .i64 y2.of_, .int .i64 y2.n, .string y2.e.ct, .slice y2.e.tp y2.e.tn y2.e.tc, .int .i64 y2.e.nu, .int .i64 y2.e.tk, .slice y2.e.cp y2.e.cn y2.e.cc, .string y2.e.cd, .slice y2.e.ap y2.e.an y2.e.ac, .string y2.ct, .string y2.cd, .slice y2.ap y2.an y2.ac] : Array Value)[o]?)) := fun z hz => (hand_byts z (HO4.out.2.2.1.b.below hz) HO4.out.2.2.1.o.n4).mono fun r w' ⟨g, k, hr, hB, hb⟩ => ⟨g, k, hr, ⟨below_then hz hb, BRow.byts hB⟩, hcell (HO4.out.2.1.below (below_then hz hb))⟩
    have HD : Hid (∀ z g k, Below W4.heap.size W4 z → Byts z (some ⟨g, 0, none⟩) y2.an y2.ax → Calls Tryd.prog 12 #[.pointer (some ⟨b, 0, none⟩), .string y2.ct, .string y.cd, .slice (some ⟨g, 0, none⟩) y2.an k] z fun r w' => ∃ a m k ev, r = .returned (.tuple #[.slice a m k, ev]) ∧ Hid (∃ A1, Lb1 w b sb M K R A1 w') ∧ (∀ o, w'.cell? ⟨yb, o, none⟩ = (#[.int .i64 y2.kd, .int .i64 y2.of_, .int .i64 y2.n, .string y2.e.ct, .slice y2.e.tp y2.e.tn y2.e.tc, .int .i64 y2.e.nu, .int .i64 y2.e.tk, .slice y2.e.cp y2.e.cn y2.e.cc, .string y2.e.cd, .slice y2.e.ap y2.e.an y2.e.ac, .string y2.ct, .string y2.cd, .slice y2.ap y2.an y2.ac] : Array Value)[o]?)) := fun z g k hz hB => (lb_dec1 (HO4.out.1.below hz) (HO4.out.2.1.below hz) HO4.out.2.2.1.o.k2 hB (by have := HO4.out.2.2.1.o.n4; omega)).mono fun r w' ⟨a, m, k, ev, hr, h1, h2⟩ => ⟨a, m, k, ev, hr, ⟨_, h1.out⟩, hcell h2⟩
    go_wp2_with fail
    go_region_held3 (fun z => (∀ o, z.cell? ⟨yb, o, none⟩ = (#[.int .i64 y2.kd, .int .i64 y2.of_, .int .i64 y2.n, .string y2.e.ct, .slice y2.e.tp y2.e.tn y2.e.tc, .int .i64 y2.e.nu, .int .i64 y2.e.tk, .slice y2.e.cp y2.e.cn y2.e.cc, .string y2.e.cd, .slice y2.e.ap y2.e.an y2.e.ac, .string y2.ct, .string y2.cd, .slice y2.ap y2.an y2.ac] : Array Value)[o]?)) (simp [*]) (first | (go_at_call 29; refine (HH.out _ ?_).mono ?_; (first | (with_reducible exact Below.refl _ _) | exact Below.drew (Below.refl _ _) | exact below_drewN (Below.refl _ _) _); clear HH; rintro _ w5 ⟨g5, k5, rfl, H5, s5⟩) | (go_at_call 12; refine (HD.out _ g5 k5 ?_ ?_).mono ?_; (first | (with_reducible exact Below.refl _ _) | (with_reducible exact H5.out.1) | (with_reducible exact Below.drew H5.out.1) | exact Below.drew (Below.refl _ _) | exact below_drewN (Below.refl _ _) _ | exact below_drewN H5.out.1 _); (first | exact H5.out.2 | exact H5.out.2.below (Below.drew (Below.refl _ _))); clear HD; rintro _ w6 ⟨a6, m6, k6, ev6, rfl, H6, s6⟩))
    go_wp2_with fail
    go_ret
    exact ⟨rfl, H6.out⟩
end Go.Proofs.YtelhiihbgnfpiaaDoor
