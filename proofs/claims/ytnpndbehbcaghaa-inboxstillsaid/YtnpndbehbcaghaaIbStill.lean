/-
  InboxStill, walked.
-/
import Derived.Test.YtnpndbehbcaghaaIbSt
namespace Go.Proofs.Ytnpndbehbcaghaa
open Go.RowKit

section
variable {K R : Int} {ao : Option Addr} {n cap : Nat} {xs : List Opv}
set_option maxRecDepth 100000 in
set_option maxHeartbeats 2000000 in
theorem still_no (w : World) (h : ¬ (1 ≤ K ∧ K ≤ 64 ∧ 1 ≤ R ∧ R ≤ 32)) : Calls Try.prog 3 #[.int .i64 K, .int .i64 R, .slice ao n cap] w fun r w' => r = .returned (.bool true) ∧ Below w.heap.size w w' := by
  have hnw := new_no K R w h
  by_cases h1 : K < 1
  · have g1 : ¬ K ≥ 1 := by omega
    clear h
    go_enter Try.func3, Try.ntmps3
    go_wp2_with fail
    refine hnw.mono ?_
    rintro _ w1 ⟨rfl, hf1, hb1⟩
    have HB1 : Hid (Below w.heap.size w w1) := hb1
    have hlv := lives_any w1
    clear hnw hf1 hb1
    go_wp2_with fail
    refine hlv.mono ?_
    rintro _ w2 ⟨rfl, hb2⟩
    have HB2 : Hid (Below w.heap.size w w2) := below_then HB1.out hb2
    clear hlv hb2
    go_wp2_with fail
    go_ret
    exact ⟨rfl, HB2.out⟩
  by_cases h2 : K > 64
  · have g1 : K ≥ 1 := by omega
    have g2 : ¬ K ≤ 64 := by omega
    clear h
    go_enter Try.func3, Try.ntmps3
    go_wp2_with fail
    refine hnw.mono ?_
    rintro _ w1 ⟨rfl, hf1, hb1⟩
    have HB1 : Hid (Below w.heap.size w w1) := hb1
    have hlv := lives_any w1
    clear hnw hf1 hb1
    go_wp2_with fail
    refine hlv.mono ?_
    rintro _ w2 ⟨rfl, hb2⟩
    have HB2 : Hid (Below w.heap.size w w2) := below_then HB1.out hb2
    clear hlv hb2
    go_wp2_with fail
    go_ret
    exact ⟨rfl, HB2.out⟩
  by_cases h3 : R < 1
  · have g1 : K ≥ 1 := by omega
    have g2 : K ≤ 64 := by omega
    have g3 : ¬ R ≥ 1 := by omega
    clear h
    go_enter Try.func3, Try.ntmps3
    go_wp2_with fail
    refine hnw.mono ?_
    rintro _ w1 ⟨rfl, hf1, hb1⟩
    have HB1 : Hid (Below w.heap.size w w1) := hb1
    have hlv := lives_any w1
    clear hnw hf1 hb1
    go_wp2_with fail
    refine hlv.mono ?_
    rintro _ w2 ⟨rfl, hb2⟩
    have HB2 : Hid (Below w.heap.size w w2) := below_then HB1.out hb2
    clear hlv hb2
    go_wp2_with fail
    go_ret
    exact ⟨rfl, HB2.out⟩
  have g1 : K ≥ 1 := by omega
  have g2 : K ≤ 64 := by omega
  have g3 : R ≥ 1 := by omega
  have g4 : ¬ R ≤ 32 := by omega
  clear h
  go_enter Try.func3, Try.ntmps3
  go_wp2_with fail
  refine hnw.mono ?_
  rintro _ w1 ⟨rfl, hf1, hb1⟩
  have HB1 : Hid (Below w.heap.size w w1) := hb1
  have hlv := lives_any w1
  clear hnw hf1 hb1
  go_wp2_with fail
  refine hlv.mono ?_
  rintro _ w2 ⟨rfl, hb2⟩
  have HB2 : Hid (Below w.heap.size w w2) := below_then HB1.out hb2
  clear hlv hb2
  go_wp2_with fail
  go_ret
  exact ⟨rfl, HB2.out⟩
set_option maxRecDepth 100000 in
set_option maxHeartbeats 16000000 in
theorem still_law (w : World) (k1 : 1 ≤ K) (k2 : K ≤ 64) (r1 : 1 ≤ R) (r2 : R ≤ 32) (hO : Ops w ao xs) (hx : ∀ y ∈ xs, OpOk y) (hn : xs.length = n) (hm : n ≤ 9223372036854775807) : Calls Try.prog 3 #[.int .i64 K, .int .i64 R, .slice ao n cap] w fun r w' => r = .returned (.bool true) ∧ Below w.heap.size w w' := by
  have hnw := li_new w w (Below.refl _ _) k1 k2 r1 r2
  have g1 : K ≥ 1 := k1
  have g2 : K ≤ 64 := k2
  have g3 : R ≥ 1 := r1
  have g4 : R ≤ 32 := r2
  have HO : Hid (Ops w ao xs ∧ (∀ y ∈ xs, OpOk y) ∧ xs.length = n) := ⟨hO, hx, hn⟩
  have HK : Hid (0 ≤ K) := by unfold Hid; omega
  clear k1 k2 r1 r2 hO hx hn
  go_enter Try.func3, Try.ntmps3
  go_wp2_with fail
  refine hnw.mono ?_
  rintro _ w1 ⟨b, sb, M, rfl, H1⟩
  have hlv := lives_any w1
  clear hnw
  go_wp2_with fail
  refine hlv.mono ?_
  rintro _ w2 ⟨rfl, hb2⟩
  have H2 : Hid (Li w w2 b sb M K R []) := H1.out.1.below hb2
  clear hlv hb2 H1
  go_wp2_with fail
  go_loopw [9] (fun t9 wx => ∃ i : Nat, i ≤ n ∧ t9 = .int .i64 i ∧ Hid (∃ es, Li w wx b sb M K R es)) (fun t9 _ => n - (intOf t9).toNat)
  case atStart => exact ⟨0, Nat.zero_le _, rfl, [], H2.out⟩
  case round =>
    obtain ⟨i, hi, rfl, HI⟩ := hrel
    by_cases hlt : i < n
    · have hlt1 : (i : Int) < n := by omega
      obtain ⟨es, ⟨v, hbx⟩, hbel⟩ := HI.out
      obtain ⟨y, hy⟩ : ∃ y, xs[i]? = some y := ⟨_, List.getElem?_eq_getElem (by rw [HO.out.2.2]; exact hlt)⟩
      obtain ⟨ob, off, rfl, hbl, hat⟩ := HO.out.1.below hbel i y hy
      have hat0 : Lies w y.e ∧ Byts w y.ap y.an y.ax := by
        obtain ⟨_, _, _, _, h9⟩ := HO.out.1 i y hy
        exact ⟨h9.lies, h9.byts⟩
      have hok := HO.out.2.1 y (List.mem_of_getElem? hy)
      have cc := hat.cell
      have c0 := cc 0 (by decide)
      have c1 := cc 1 (by decide)
      have c2 := cc 2 (by decide)
      have c3 := cc 3 (by decide)
      have c4 := cc 4 (by decide)
      have c5 := cc 5 (by decide)
      have c6 := cc 6 (by decide)
      have c7 := cc 7 (by decide)
      have c8 := cc 8 (by decide)
      have c9 := cc 9 (by decide)
      have c10 := cc 10 (by decide)
      have c11 := cc 11 (by decide)
      have c12 := cc 12 (by decide)
      simp at c0 c1 c2 c3 c4 c5 c6 c7 c8 c9 c10 c11 c12
      have HY : Hid (OpOk y ∧ Lies w y.e ∧ Byts w y.ap y.an y.ax) := ⟨hok, hat0.1, hat0.2⟩
      have bv : Below wr.heap.size wr (wr.alloc (.cells #[.int .i64 y.kd, .int .i64 y.of_, .int .i64 y.n, .string y.e.ct, .slice y.e.tp y.e.tn y.e.tc, .int .i64 y.e.nu, .int .i64 y.e.tk, .slice y.e.cp y.e.cn y.e.cc, .string y.e.cd, .slice y.e.ap y.e.an y.e.ac, .string y.ct, .string y.cd, .slice y.ap y.an y.ac] 33)) := (Below.refl _ _).alloc (Nat.le_refl _) _
      obtain ⟨V, hV⟩ : ∃ V, wr.alloc (.cells #[.int .i64 y.kd, .int .i64 y.of_, .int .i64 y.n, .string y.e.ct, .slice y.e.tp y.e.tn y.e.tc, .int .i64 y.e.nu, .int .i64 y.e.tk, .slice y.e.cp y.e.cn y.e.cc, .string y.e.cd, .slice y.e.ap y.e.an y.e.ac, .string y.ct, .string y.cd, .slice y.ap y.an y.ac] 33) = V := ⟨_, rfl⟩
      rw [hV] at bv
      obtain ⟨yb, hyb⟩ : ∃ yb, wr.heap.size = yb := ⟨_, rfl⟩
      have HTY : Hid (w.heap.size ≤ yb) := by unfold Hid; rw [← hyb]; exact hbel.size
      have HF : Hid (∀ q, Ft sb M v q → q < yb) := fun q hq => by
        rw [← hyb]
        rcases hq with rfl | rfl | hq
        · exact hbx.sh.lt
        · exact hbx.sh.map.lt
        · exact (hbx.sh.row.lt hq).2
      have HV : Hid (Bx V w.heap.size b sb M v K R es ∧ Below w.heap.size w V ∧ V.heap[yb]? = some (.cells #[.int .i64 y.kd, .int .i64 y.of_, .int .i64 y.n, .string y.e.ct, .slice y.e.tp y.e.tn y.e.tc, .int .i64 y.e.nu, .int .i64 y.e.tk, .slice y.e.cp y.e.cn y.e.cc, .string y.e.cd, .slice y.e.ap y.e.an y.e.ac, .string y.ct, .string y.cd, .slice y.ap y.an y.ac] 33 (0, 0)) ∧ yb ≤ V.heap.size) := ⟨hbx.below bv, below_then hbel bv, by rw [← hyb, ← hV]; exact heap_alloc_new wr _, by rw [← hyb]; exact bv.size⟩
      have hls := list_any HV.out.1
      clear hbx hbel hy hok cc hat hat0 bv HI
      go_wp2_with fail
      clear hV hyb c0 c1 c2 c3 c4 c5 c6 c7 c8 c9 c10 c11 c12 hbl
      refine hls.mono ?_
      rintro _ w3 ⟨ls, a3, k3, rfl, n3, p3, b3⟩
      obtain ⟨ne, hne⟩ : ∃ ne, es.length = ne := ⟨_, rfl⟩
      rw [hne] at n3 ⊢
      have hln : ne ≤ 97 := by rw [← hne]; exact HV.out.1.inv.len
      have H3 : Hid (St w yb w3 b sb M v K R es yb y y.ct a3 ne k3 ls es) := ⟨HV.out.1.below b3, below_then HV.out.2.1 b3, (b3.block yb (blk_lt HV.out.2.2.1)).trans HV.out.2.2.1, Nat.le_refl _, n3.base HV.out.2.2.2, p3.base HV.out.2.2.2⟩
      have HNE : Hid (es.length = ne) := hne
      have cy := H3.out.box.cell
      clear hls n3 p3 b3 hne HV
      by_cases hk0 : y.kd = 0
      · have e0 : (y.kd == 0) = true := by rw [hk0]; rfl
        clear hk0
        have hd := handed_any y.e w3 (HY.out.2.1.below H3.out.bel) HY.out.1.n1 HY.out.1.n2 HY.out.1.n3
        go_wp2_with fail
        refine hd.mono ?_
        rintro _ w4 ⟨p4, q4, p5, q5, p6, q6, rfl, o4, b4⟩
        have bv5 : Below w4.heap.size w4 (w4.alloc (.cells #[.string y.e.ct, .slice p4 y.e.tn q4, .int .i64 y.e.nu, .int .i64 y.e.tk, .slice p5 y.e.cn q5, .string y.e.cd, .slice p6 y.e.an q6] 31)) := (Below.refl _ _).alloc (Nat.le_refl _) _
        have bx5 := Box.new w4 #[.string y.e.ct, .slice p4 y.e.tn q4, .int .i64 y.e.nu, .int .i64 y.e.tk, .slice p5 y.e.cn q5, .string y.e.cd, .slice p6 y.e.an q6] 31
        obtain ⟨V5, hV5⟩ : ∃ V5, w4.alloc (.cells #[.string y.e.ct, .slice p4 y.e.tn q4, .int .i64 y.e.nu, .int .i64 y.e.tk, .slice p5 y.e.cn q5, .string y.e.cd, .slice p6 y.e.an q6] 31) = V5 := ⟨_, rfl⟩
        rw [hV5] at bv5 bx5
        have H5 : Hid (St w yb V5 b sb M v K R es yb y y.ct a3 ne k3 ls es ∧ Lies V5 (y.e.wi p4 q4 p5 q5 p6 q6)) := ⟨H3.out.below (below_then b4 bv5), o4.lies.below bv5⟩
        have c5 := bx5.cell
        clear hd o4 b4 bv5 bx5 cy
        by_cases hz : accC R es (y.e.wi p4 q4 p5 q5 p6 q6) = 0
        · have hac := acc_yes H5.out.1.bx (y.e.wi p4 q4 p5 q5 p6 q6) HY.out.1.k1 H5.out.2 hz
          clear hz
          go_wp2_with fail
          clear hV5 c5
          refine hac.mono ?_
          rintro _ w6 ⟨rfl, h6⟩
          obtain ⟨p7, q7, p8, q8, p9, q9, h6⟩ := h6.out
          obtain ⟨v6, h6⟩ := H5.out.1.step HF.out h6
          have H6 : Hid (St w yb w6 b sb M v6 K R (es ++ [y.e.wi p7 q7 p8 q8 p9 q9]) yb y y.ct a3 ne k3 ls es) := h6
          have hl2 := list_any H6.out.bx
          clear hac h6
          go_wp2_with fail
          refine hl2.mono ?_
          rintro _ w7 ⟨ms, a7, k7, rfl, n7, p7', b7⟩
          have H7 : Hid (St w yb w7 b sb M v6 K R (es ++ [y.e.wi p7 q7 p8 q8 p9 q9]) yb y y.ct a3 ne k3 ls es) := H6.out.below b7
          have hnl : (es ++ [y.e.wi p7 q7 p8 q8 p9 q9]).length = ne + 1 := by rw [List.length_append, HNE.out]; rfl
          rw [hnl] at n7 ⊢
          have hmay := H7.out.bx.sh.ok
          obtain ⟨l, hl⟩ : ∃ l, ms[ne]? = some l := ⟨_, List.getElem?_eq_getElem (by rw [p7'.1, hnl]; omega)⟩
          obtain ⟨g7, rfl, hg7, hc7⟩ := nrow_cells n7 hl
          obtain ⟨m, hm1, ⟨p10, q10, p11, q11, p12, q12, hm2⟩, hm3⟩ := p7'.at_ hl
          obtain rfl : m = y.e.wi p7 q7 p8 q8 p9 q9 := by
            rw [List.getElem?_append_right (by rw [HNE.out]; exact Nat.le_refl _), HNE.out, Nat.sub_self] at hm1
            simpa using hm1.symm
          subst hm2
          have hsame : ∀ x : Sub w7, Calls Try.prog 9 #[.agg #[.string y.e.ct, .slice p10 y.e.tn q10, .int .i64 y.e.nu, .int .i64 y.e.tk, .slice p11 y.e.cn q11, .string y.e.cd, .slice p12 y.e.an q12], .agg #[.string y.e.ct, .slice y.e.tp y.e.tn y.e.tc, .int .i64 y.e.nu, .int .i64 y.e.tk, .slice y.e.cp y.e.cn y.e.cc, .string y.e.cd, .slice y.e.ap y.e.an y.e.ac]] x.1 fun r x' => r = .returned (.bool true) ∧ ∃ z : Sub w7, x' = z.1 := fun x =>
            (same_true (y.e.wi p10 q10 p11 q11 p12 q12) (p := y.e.tp) (c := y.e.tc) (q := y.e.cp) (d := y.e.cc) (r := y.e.ap) (f := y.e.ac) (hm3.lies.below x.2) ((HY.out.2.1.below H7.out.bel).below x.2) (by have := HY.out.1.n1; show y.e.tn ≤ _; omega) (by have := HY.out.1.n2; show y.e.cn ≤ _; omega) (by have := HY.out.1.n3; show y.e.an ≤ _; omega)).mono fun r x' ⟨g1, g2⟩ => ⟨g1, ⟨x', below_then x.2 g2⟩, rfl⟩
          have hslist : ∀ x : Sub w7, Calls Try.prog 10 #[.slice (some ⟨g7, 0, none⟩) ne k7, .slice a3 ne k3] x.1 fun r x' => r = .returned (.bool true) ∧ ∃ z : Sub w7, x' = z.1 := fun x => by
            have hk1 := cps_k p7' hmay
            have ht := cps_take p7'
            rw [HNE.out] at ht
            refine (sameList_true ((nrow_take n7 (by omega)).below x.2) (H7.out.row.below x.2) (ht.trans H7.out.cps.tws.symm) (fun l hl => (hk1 l (List.mem_of_mem_take hl)).1.below x.2) (fun l hl => ((H7.out.cps.own l hl).lies).below x.2) (fun l hl => (hk1 l (List.mem_of_mem_take hl)).2)).mono fun r x' ⟨g1, g2⟩ => ⟨g1, ⟨x', below_then x.2 g2⟩, rfl⟩
          have ly := sub_box H7.out.box
          have lz0 : ∀ x : Sub w7, x.1.cell? ⟨g7, ne * 7, none⟩ = some (.string y.e.ct) := fun x => (hc7.below x.2).c0
          have lz1 : ∀ x : Sub w7, x.1.cell? ⟨g7, ne * 7 + 1, none⟩ = some (.slice p10 y.e.tn q10) := fun x => (hc7.below x.2).c1
          have lz2 : ∀ x : Sub w7, x.1.cell? ⟨g7, ne * 7 + 2, none⟩ = some (.int .i64 y.e.nu) := fun x => (hc7.below x.2).c2
          have lz3 : ∀ x : Sub w7, x.1.cell? ⟨g7, ne * 7 + 3, none⟩ = some (.int .i64 y.e.tk) := fun x => (hc7.below x.2).c3
          have lz4 : ∀ x : Sub w7, x.1.cell? ⟨g7, ne * 7 + 4, none⟩ = some (.slice p11 y.e.cn q11) := fun x => (hc7.below x.2).c4
          have lz5 : ∀ x : Sub w7, x.1.cell? ⟨g7, ne * 7 + 5, none⟩ = some (.string y.e.cd) := fun x => (hc7.below x.2).c5
          have lz6 : ∀ x : Sub w7, x.1.cell? ⟨g7, ne * 7 + 6, none⟩ = some (.slice p12 y.e.an q12) := fun x => (hc7.below x.2).c6
          have q1 : IntKind.i64.wrap ((ne : Int) + 1) = (ne : Int) + 1 := by rw [IntKind.wrap_i64]; omega
          have q2 : (((ne + 1 : Nat) : Int) == (ne : Int) + 1) = true := by simp
          have q2' : (((ne + 1 : Nat) : Int) != (ne : Int) + 1) = false := by simp
          have q3 : (ne : Int) < ((ne + 1 : Nat) : Int) := by omega
          have q4 : (ne : Int) < (ne : Int) + 1 := by omega
          have q5 : (ne : Int) ≤ ((ne + 1 : Nat) : Int) := by omega
          have q6 : ne + 1 ≤ k7 := by
            rcases ERow.form n7 with ⟨e1, _⟩ | ⟨g', cap', e1, _, _, h3, _⟩
            · cases e1
            · simp only [Value.slice.injEq] at e1
              rw [p7'.1, hnl] at h3
              omega
          have q7 : (ne : Int) ≤ k7 := by omega
          have q8 : ne ≤ k7 := by omega
          haveI hne : Nonempty (Sub w7) := ⟨⟨w7, Below.refl _ _⟩⟩
          clear hl2 n7 p7' b7 hl hm1 hm3 hc7 hg7 hmay hnl H6
          go_wp2_with fail
          refine wp_region_class (V := w7) (Below.refl _ _) (by kernel_rfl) (by kernel_rfl) ?_
          repeat (go_big_quiet_step ((first | (go_at_call 9; exact hsame _) | (go_at_call 10; exact hslist _))))
          refine wpQuiet_nil ?_
          rintro wc ⟨xwc, rfl⟩
          have HI8 : Hid (∃ es, Li w xwc.1 b sb M K R es) := ⟨_, H7.out.li.below xwc.2⟩
          clear hsame hslist ly lz0 lz1 lz2 lz3 lz4 lz5 lz6 hne H7
          go_wp2_with fail
          go_roundw
          case rel => exact ⟨i + 1, hlt, by go_num, HI8⟩
          case measure => simp [intOf]; omega
        · have hac := acc_no H5.out.1.bx (y.e.wi p4 q4 p5 q5 p6 q6) HY.out.1.k1 rfl hz
          clear hz
          go_wp2_with fail
          clear hV5 c5
          refine hac.mono ?_
          rintro _ w6 ⟨ev, rfl, hf6, _, b6⟩
          have H6 : Hid (St w yb w6 b sb M v K R es yb y y.ct a3 ne k3 ls es) := H5.out.1.below b6
          have hl2 := list_any H6.out.bx
          clear hac hf6 b6
          go_wp2_with fail
          refine hl2.mono ?_
          rintro _ w7 ⟨ms, a7, k7, rfl, n7, p7', b7⟩
          rw [HNE.out] at n7 ⊢
          have H7 : Hid (St w yb w7 b sb M v K R es yb y y.ct a3 ne k3 ls es) := H6.out.below b7
          have hk1 := cps_k p7' H7.out.bx.sh.ok
          have hsl := sameList_true n7 H7.out.row (p7'.tws.trans H7.out.cps.tws.symm) (fun l hl => (hk1 l hl).1) (fun l hl => (H7.out.cps.own l hl).lies) (fun l hl => (hk1 l hl).2)
          have hsd : ∀ k, Calls Try.prog 10 #[.slice a7 ne k7, .slice a3 ne k3] (w7.drewN k) fun e w' => e = .returned (.bool true) ∧ Below w7.heap.size w7 w' := fun k =>
            (sameList_true (n7.below (below_drewN (Below.refl _ _) k)) (H7.out.row.below (below_drewN (Below.refl _ _) k)) (p7'.tws.trans H7.out.cps.tws.symm) (fun l hl => (hk1 l hl).1.below (below_drewN (Below.refl _ _) k)) (fun l hl => (H7.out.cps.own l hl).lies.below (below_drewN (Below.refl _ _) k)) (fun l hl => (hk1 l hl).2)).mono fun r x' ⟨g1, g2⟩ => ⟨g1, below_then (below_drewN (Below.refl _ _) k) g2⟩
          clear hl2 n7 p7' b7 hk1 hsl H6
          go_wp2_with fail
          go_quiet (fail)
          have hsd' := hsd nq
          go_wp2_with fail
          refine hsd'.mono ?_
          rintro _ w8 ⟨rfl, b8⟩
          have HI8 : Hid (∃ es, Li w w8 b sb M K R es) := ⟨_, H7.out.li.below b8⟩
          clear hsd hsd' b8 H7
          go_wp2_with fail
          go_roundw
          case rel => exact ⟨i + 1, hlt, by go_num, HI8⟩
          case measure => simp [intOf]; omega
      · have e0 : (y.kd == 0) = false := by rw [beq_eq_false_iff_ne]; exact hk0
        clear hk0
        by_cases hk9 : y.kd = 9
        · have e9 : (y.kd == 9) = true := by rw [hk9]; rfl
          clear hk9
          have hd := handed_any y.e w3 (HY.out.2.1.below H3.out.bel) HY.out.1.n1 HY.out.1.n2 HY.out.1.n3
          go_wp2_with fail
          refine hd.mono ?_
          rintro _ w4 ⟨p4, q4, p5, q5, p6, q6, rfl, o4, b4⟩
          have bv5 : Below w4.heap.size w4 (w4.alloc (.cells #[.string y.e.ct, .slice p4 y.e.tn q4, .int .i64 y.e.nu, .int .i64 y.e.tk, .slice p5 y.e.cn q5, .string y.e.cd, .slice p6 y.e.an q6] 31)) := (Below.refl _ _).alloc (Nat.le_refl _) _
          have bx5 := Box.new w4 #[.string y.e.ct, .slice p4 y.e.tn q4, .int .i64 y.e.nu, .int .i64 y.e.tk, .slice p5 y.e.cn q5, .string y.e.cd, .slice p6 y.e.an q6] 31
          obtain ⟨V5, hV5⟩ : ∃ V5, w4.alloc (.cells #[.string y.e.ct, .slice p4 y.e.tn q4, .int .i64 y.e.nu, .int .i64 y.e.tk, .slice p5 y.e.cn q5, .string y.e.cd, .slice p6 y.e.an q6] 31) = V5 := ⟨_, rfl⟩
          rw [hV5] at bv5 bx5
          have H5 : Hid (St w yb V5 b sb M v K R es yb y y.ct a3 ne k3 ls es ∧ Lies V5 (y.e.wi p4 q4 p5 q5 p6 q6)) := ⟨H3.out.below (below_then b4 bv5), o4.lies.below bv5⟩
          have c5 := bx5.cell
          clear hd o4 b4 bv5 bx5 cy
          by_cases hz : accC R es (y.e.wi p4 q4 p5 q5 p6 q6) = 0
          · have hac := acc_yes H5.out.1.bx (y.e.wi p4 q4 p5 q5 p6 q6) HY.out.1.k1 H5.out.2 hz
            clear hz
            go_wp2_with fail
            clear hV5 c5
            refine hac.mono ?_
            rintro _ w6 ⟨rfl, h6⟩
            obtain ⟨p7, q7, p8, q8, p9, q9, h6⟩ := h6.out
            obtain ⟨v6, h6⟩ := H5.out.1.step HF.out h6
            have H6 : Hid (St w yb w6 b sb M v6 K R (es ++ [y.e.wi p7 q7 p8 q8 p9 q9]) yb y y.ct a3 ne k3 ls es) := h6
            have hl2 := list_any H6.out.bx
            clear hac h6
            go_wp2_with fail
            refine hl2.mono ?_
            rintro _ w7 ⟨ms, a7, k7, rfl, n7, p7', b7⟩
            have H7 : Hid (St w yb w7 b sb M v6 K R (es ++ [y.e.wi p7 q7 p8 q8 p9 q9]) yb y y.ct a3 ne k3 ls es) := H6.out.below b7
            have hnl : (es ++ [y.e.wi p7 q7 p8 q8 p9 q9]).length = ne + 1 := by rw [List.length_append, HNE.out]; rfl
            rw [hnl] at n7 ⊢
            have hmay := H7.out.bx.sh.ok
            obtain ⟨l, hl⟩ : ∃ l, ms[ne]? = some l := ⟨_, List.getElem?_eq_getElem (by rw [p7'.1, hnl]; omega)⟩
            obtain ⟨g7, rfl, hg7, hc7⟩ := nrow_cells n7 hl
            obtain ⟨m, hm1, ⟨p10, q10, p11, q11, p12, q12, hm2⟩, hm3⟩ := p7'.at_ hl
            obtain rfl : m = y.e.wi p7 q7 p8 q8 p9 q9 := by
              rw [List.getElem?_append_right (by rw [HNE.out]; exact Nat.le_refl _), HNE.out, Nat.sub_self] at hm1
              simpa using hm1.symm
            subst hm2
            have hsame : ∀ x : Sub w7, Calls Try.prog 9 #[.agg #[.string y.e.ct, .slice p10 y.e.tn q10, .int .i64 y.e.nu, .int .i64 y.e.tk, .slice p11 y.e.cn q11, .string y.e.cd, .slice p12 y.e.an q12], .agg #[.string y.e.ct, .slice y.e.tp y.e.tn y.e.tc, .int .i64 y.e.nu, .int .i64 y.e.tk, .slice y.e.cp y.e.cn y.e.cc, .string y.e.cd, .slice y.e.ap y.e.an y.e.ac]] x.1 fun r x' => r = .returned (.bool true) ∧ ∃ z : Sub w7, x' = z.1 := fun x =>
              (same_true (y.e.wi p10 q10 p11 q11 p12 q12) (p := y.e.tp) (c := y.e.tc) (q := y.e.cp) (d := y.e.cc) (r := y.e.ap) (f := y.e.ac) (hm3.lies.below x.2) ((HY.out.2.1.below H7.out.bel).below x.2) (by have := HY.out.1.n1; show y.e.tn ≤ _; omega) (by have := HY.out.1.n2; show y.e.cn ≤ _; omega) (by have := HY.out.1.n3; show y.e.an ≤ _; omega)).mono fun r x' ⟨g1, g2⟩ => ⟨g1, ⟨x', below_then x.2 g2⟩, rfl⟩
            have hslist : ∀ x : Sub w7, Calls Try.prog 10 #[.slice (some ⟨g7, 0, none⟩) ne k7, .slice a3 ne k3] x.1 fun r x' => r = .returned (.bool true) ∧ ∃ z : Sub w7, x' = z.1 := fun x => by
              have hk1 := cps_k p7' hmay
              have ht := cps_take p7'
              rw [HNE.out] at ht
              refine (sameList_true ((nrow_take n7 (by omega)).below x.2) (H7.out.row.below x.2) (ht.trans H7.out.cps.tws.symm) (fun l hl => (hk1 l (List.mem_of_mem_take hl)).1.below x.2) (fun l hl => ((H7.out.cps.own l hl).lies).below x.2) (fun l hl => (hk1 l (List.mem_of_mem_take hl)).2)).mono fun r x' ⟨g1, g2⟩ => ⟨g1, ⟨x', below_then x.2 g2⟩, rfl⟩
            have ly := sub_box H7.out.box
            have lz0 : ∀ x : Sub w7, x.1.cell? ⟨g7, ne * 7, none⟩ = some (.string y.e.ct) := fun x => (hc7.below x.2).c0
            have lz1 : ∀ x : Sub w7, x.1.cell? ⟨g7, ne * 7 + 1, none⟩ = some (.slice p10 y.e.tn q10) := fun x => (hc7.below x.2).c1
            have lz2 : ∀ x : Sub w7, x.1.cell? ⟨g7, ne * 7 + 2, none⟩ = some (.int .i64 y.e.nu) := fun x => (hc7.below x.2).c2
            have lz3 : ∀ x : Sub w7, x.1.cell? ⟨g7, ne * 7 + 3, none⟩ = some (.int .i64 y.e.tk) := fun x => (hc7.below x.2).c3
            have lz4 : ∀ x : Sub w7, x.1.cell? ⟨g7, ne * 7 + 4, none⟩ = some (.slice p11 y.e.cn q11) := fun x => (hc7.below x.2).c4
            have lz5 : ∀ x : Sub w7, x.1.cell? ⟨g7, ne * 7 + 5, none⟩ = some (.string y.e.cd) := fun x => (hc7.below x.2).c5
            have lz6 : ∀ x : Sub w7, x.1.cell? ⟨g7, ne * 7 + 6, none⟩ = some (.slice p12 y.e.an q12) := fun x => (hc7.below x.2).c6
            have q1 : IntKind.i64.wrap ((ne : Int) + 1) = (ne : Int) + 1 := by rw [IntKind.wrap_i64]; omega
            have q2 : (((ne + 1 : Nat) : Int) == (ne : Int) + 1) = true := by simp
            have q2' : (((ne + 1 : Nat) : Int) != (ne : Int) + 1) = false := by simp
            have q3 : (ne : Int) < ((ne + 1 : Nat) : Int) := by omega
            have q4 : (ne : Int) < (ne : Int) + 1 := by omega
            have q5 : (ne : Int) ≤ ((ne + 1 : Nat) : Int) := by omega
            have q6 : ne + 1 ≤ k7 := by
              rcases ERow.form n7 with ⟨e1, _⟩ | ⟨g', cap', e1, _, _, h3, _⟩
              · cases e1
              · simp only [Value.slice.injEq] at e1
                rw [p7'.1, hnl] at h3
                omega
            have q7 : (ne : Int) ≤ k7 := by omega
            have q8 : ne ≤ k7 := by omega
            haveI hne : Nonempty (Sub w7) := ⟨⟨w7, Below.refl _ _⟩⟩
            clear hl2 n7 p7' b7 hl hm1 hm3 hc7 hg7 hmay hnl H6
            go_wp2_with fail
            refine wp_region_class (V := w7) (Below.refl _ _) (by kernel_rfl) (by kernel_rfl) ?_
            repeat (go_big_quiet_step ((first | (go_at_call 9; exact hsame _) | (go_at_call 10; exact hslist _))))
            refine wpQuiet_nil ?_
            rintro wc ⟨xwc, rfl⟩
            have HI8 : Hid (∃ es, Li w xwc.1 b sb M K R es) := ⟨_, H7.out.li.below xwc.2⟩
            clear hsame hslist ly lz0 lz1 lz2 lz3 lz4 lz5 lz6 hne H7
            go_wp2_with fail
            go_roundw
            case rel => exact ⟨i + 1, hlt, by go_num, HI8⟩
            case measure => simp [intOf]; omega
          · have hac := acc_no H5.out.1.bx (y.e.wi p4 q4 p5 q5 p6 q6) HY.out.1.k1 rfl hz
            clear hz
            go_wp2_with fail
            clear hV5 c5
            refine hac.mono ?_
            rintro _ w6 ⟨ev, rfl, hf6, _, b6⟩
            have H6 : Hid (St w yb w6 b sb M v K R es yb y y.ct a3 ne k3 ls es) := H5.out.1.below b6
            have hl2 := list_any H6.out.bx
            clear hac hf6 b6
            go_wp2_with fail
            refine hl2.mono ?_
            rintro _ w7 ⟨ms, a7, k7, rfl, n7, p7', b7⟩
            rw [HNE.out] at n7 ⊢
            have H7 : Hid (St w yb w7 b sb M v K R es yb y y.ct a3 ne k3 ls es) := H6.out.below b7
            have hk1 := cps_k p7' H7.out.bx.sh.ok
            have hsl := sameList_true n7 H7.out.row (p7'.tws.trans H7.out.cps.tws.symm) (fun l hl => (hk1 l hl).1) (fun l hl => (H7.out.cps.own l hl).lies) (fun l hl => (hk1 l hl).2)
            have hsd : ∀ k, Calls Try.prog 10 #[.slice a7 ne k7, .slice a3 ne k3] (w7.drewN k) fun e w' => e = .returned (.bool true) ∧ Below w7.heap.size w7 w' := fun k =>
              (sameList_true (n7.below (below_drewN (Below.refl _ _) k)) (H7.out.row.below (below_drewN (Below.refl _ _) k)) (p7'.tws.trans H7.out.cps.tws.symm) (fun l hl => (hk1 l hl).1.below (below_drewN (Below.refl _ _) k)) (fun l hl => (H7.out.cps.own l hl).lies.below (below_drewN (Below.refl _ _) k)) (fun l hl => (hk1 l hl).2)).mono fun r x' ⟨g1, g2⟩ => ⟨g1, below_then (below_drewN (Below.refl _ _) k) g2⟩
            clear hl2 n7 p7' b7 hk1 hsl H6
            go_wp2_with fail
            go_quiet (fail)
            have hsd' := hsd nq
            go_wp2_with fail
            refine hsd'.mono ?_
            rintro _ w8 ⟨rfl, b8⟩
            have HI8 : Hid (∃ es, Li w w8 b sb M K R es) := ⟨_, H7.out.li.below b8⟩
            clear hsd hsd' b8 H7
            go_wp2_with fail
            go_roundw
            case rel => exact ⟨i + 1, hlt, by go_num, HI8⟩
            case measure => simp [intOf]; omega
        · have e9 : (y.kd == 9) = false := by rw [beq_eq_false_iff_ne]; exact hk9
          clear hk9
          have HOK : Hid (∀ e ∈ es, mayB e = true) := H3.out.bx.sh.ok
          have hop := open_any H3.out.bx
          go_wp2_with fail
          refine hop.mono ?_
          rintro _ w4 ⟨u4, rfl, t4, b4⟩
          obtain ⟨a4, k4, e4, _⟩ := ERow.isSlice t4
          obtain ⟨no, hno⟩ : ∃ no, (opS es).length = no := ⟨_, rfl⟩
          rw [hno] at e4
          subst e4
          have H4 : Hid (St w yb w4 b sb M v K R es yb y y.ct a3 ne k3 ls es ∧ TRow w4 0 (.slice a4 no k4) (opS es)) := ⟨H3.out.below b4, ERow.base t4 (Nat.zero_le _)⟩
          have hno6 : no ≤ 1000000 := by
            rw [← hno]
            unfold opS
            rw [List.length_map]
            exact Nat.le_trans (List.length_filter_le _ _) (by rw [HNE.out]; omega)
          have cy4 := H4.out.1.box.cell
          have fy4 := H4.out.1.box.free
          have H41 : Hid (St w yb w4 b sb M v K R es yb y y.ct a3 ne k3 ls es) := H4.out.1
          clear hop t4 b4 hno cy H3
          by_cases h2 : y.kd = 2 ∧ 0 < no
          · obtain ⟨h2a, h2b⟩ := h2
            have e2 : (y.kd == 2) = true := by rw [h2a]; rfl
            have e3 : (no : Int) > 0 := by omega
            have hwi := within_any y.n (n := no) w4 h2b hno6
            clear h2a
            go_wp2_with fail
            refine hwi.mono ?_
            rintro _ w5 ⟨jj, hjj, rfl, hw5⟩
            subst hw5
            obtain ⟨g4, st, rfl, hst, hcs⟩ := trow_at H4.out.2 hjj
            have q1 : (jj : Int) < no := by omega
            have HS : Hid (KeyS st) := by
              obtain ⟨e9, h91, h92⟩ := ops_mem (List.mem_of_getElem? hst)
              unfold Hid
              rw [← h92]
              exact keyS_of (HOK.out e9 h91)
            have H5 : Hid (St w yb (w5.setCell ⟨yb, 10, none⟩ (.string st)) b sb M v K R es yb y st a3 ne k3 ls es) := by
              exact H4.out.1.put HTY.out st
            obtain ⟨V5, hV5⟩ : ∃ V5, w5.setCell ⟨yb, 10, none⟩ (.string st) = V5 := ⟨_, rfl⟩
            rw [hV5] at H5
            have cy5 := H5.out.box.cell
            clear hwi hst
            have hks : KeyS st := HS.out
            by_cases hz : decC es st y.cd y.an = 0
            · obtain ⟨hv, hn4, ix, x, hf, hx, hop⟩ := decC_zero hz
              have hde := dec_yes (co := y.ac) H5.out.bx hks (HY.out.2.2.below H5.out.bel) hv hn4 hf hx hop
              have HX : Hid (es[ix]? = some x ∧ x.ct = st ∧ opB x = true ∧ vdB y.cd = true ∧ Dis es) := ⟨hx, by
                obtain ⟨x', h1, h2, _⟩ := fi_some hf
                rw [hx] at h1
                cases h1
                exact str_of h2, hop, hv, H5.out.bx.sh.dis⟩
              clear hz hv hn4 hf hx hop
              go_wp2_with fail
              refine hde.mono ?_
              rintro _ w6 ⟨u, rfl, h6⟩
              obtain ⟨pp, pc, t6, h6a⟩ := h6.out
              obtain ⟨v6, h6b⟩ := H5.out.step HF.out h6a
              obtain ⟨ag, kg, e6, _⟩ := ERow.isSlice t6
              obtain ⟨mg, hmg⟩ : ∃ mg, (goneS K (es.set ix (x.vd y.cd pp y.an pc y.ax))).length = mg := ⟨_, rfl⟩
              rw [hmg] at e6
              subst e6
              have H6 : Hid (St w yb w6 b sb M v6 K R (shedS K (es.set ix (x.vd y.cd pp y.an pc y.ax))) yb y st a3 ne k3 ls es ∧ TRow w6 0 (.slice ag mg kg) (goneS K (es.set ix (x.vd y.cd pp y.an pc y.ax)))) := ⟨h6b, ERow.base t6 (Nat.zero_le _)⟩
              have hl2 := list_any H6.out.1.bx
              clear hde h6a h6b h6 t6 hmg cy4
              go_wp2_with fail
              refine hl2.mono ?_
              rintro _ w7 ⟨ms, a7, k7, rfl, n7, p7', b7⟩
              obtain ⟨nn, hnn⟩ : ∃ nn, (shedS K (es.set ix (x.vd y.cd pp y.an pc y.ax))).length = nn := ⟨_, rfl⟩
              rw [hnn] at n7 ⊢
              have H7 := H6.out.1.below b7
              have hl97 : es.length ≤ 1000 := by rw [HNE.out]; omega
              have hdd := decided_true (K := K) (i := ix) (x := x) (p := pp) (c := pc) (y := y) (s := st) (es := es) H7.row H7.cps.tws (fun l hl => ⟨(H7.cps.own l hl).lies, may_sz (H7.cps.ok HOK.out l hl)⟩) n7 p7'.tws (cps_k p7' H7.bx.sh.ok) (H6.out.2.below b7) HK.out hl97 HX.out.2.2.2.2 HX.out.1 HX.out.2.1 HX.out.2.2.1 HX.out.2.2.2.1 (HY.out.2.2.below H7.bel) (by have := HY.out.1.n4; omega)
              have cy7 := H7.box.cell
              have HL7 : Hid (Li w w7 b sb M K R (shedS K (es.set ix (x.vd y.cd pp y.an pc y.ax)))) := H7.li
              clear hl2 n7 p7' b7 hnn H7 H6 hl97
              go_wp2_with fail
              refine hdd.mono ?_
              rintro _ w8 ⟨rfl, b8⟩
              have HI8 : Hid (∃ es, Li w w8 b sb M K R es) := ⟨_, HL7.out.below b8⟩
              clear hdd b8 cy7 HL7
              go_wp2_with fail
              go_roundw
              case rel => exact ⟨i + 1, hlt, by go_num, HI8⟩
              case measure => simp [intOf]; omega
            · have hde := dec_no (p := y.ap) (c := y.ac) H5.out.bx hks (by have := HY.out.1.n4; omega) rfl hz
              clear hz
              go_wp2_with fail
              refine hde.mono ?_
              rintro _ w6 ⟨ev, rfl, hf6, _, b6⟩
              have H6 : Hid (St w yb w6 b sb M v K R es yb y st a3 ne k3 ls es) := H5.out.below b6
              have hl2 := list_any H6.out.bx
              clear hde hf6 b6 cy4
              go_wp2_with fail
              refine hl2.mono ?_
              rintro _ w7 ⟨ms, a7, k7, rfl, n7, p7', b7⟩
              rw [HNE.out] at n7 ⊢
              have H7 : Hid (St w yb w7 b sb M v K R es yb y st a3 ne k3 ls es) := H6.out.below b7
              have hk1 := cps_k p7' H7.out.bx.sh.ok
              have hsl := sameList_true n7 H7.out.row (p7'.tws.trans H7.out.cps.tws.symm) (fun l hl => (hk1 l hl).1) (fun l hl => (H7.out.cps.own l hl).lies) (fun l hl => (hk1 l hl).2)
              clear hl2 n7 p7' b7 hk1 H6
              go_wp2_with fail
              refine hsl.mono ?_
              rintro _ w8 ⟨rfl, b8⟩
              have HI8 : Hid (∃ es, Li w w8 b sb M K R es) := ⟨_, H7.out.li.below b8⟩
              clear hsl b8 H7
              go_wp2_with fail
              go_roundw
              case rel => exact ⟨i + 1, hlt, by go_num, HI8⟩
              case measure => simp [intOf]; omega
          · have e2 : (y.kd == 2) = false ∨ ((y.kd == 2) = true ∧ ¬ (no : Int) > 0) := by
              by_cases h3 : y.kd = 2
              · exact Or.inr ⟨by rw [h3]; rfl, fun h4 => h2 ⟨h3, by omega⟩⟩
              · exact Or.inl (by rw [beq_eq_false_iff_ne]; exact h3)
            clear h2
            rcases e2 with e2 | ⟨e2, e3⟩
            · skip
              have hks : KeyS y.ct := HY.out.1.k2
              by_cases hz : decC es y.ct y.cd y.an = 0
              · obtain ⟨hv, hn4, ix, x, hf, hx, hop⟩ := decC_zero hz
                have hde := dec_yes (co := y.ac) H41.out.bx hks (HY.out.2.2.below H41.out.bel) hv hn4 hf hx hop
                have HX : Hid (es[ix]? = some x ∧ x.ct = y.ct ∧ opB x = true ∧ vdB y.cd = true ∧ Dis es) := ⟨hx, by
                  obtain ⟨x', h1, h2, _⟩ := fi_some hf
                  rw [hx] at h1
                  cases h1
                  exact str_of h2, hop, hv, H41.out.bx.sh.dis⟩
                clear hz hv hn4 hf hx hop
                go_wp2_with fail
                refine hde.mono ?_
                rintro _ w6 ⟨u, rfl, h6⟩
                obtain ⟨pp, pc, t6, h6a⟩ := h6.out
                obtain ⟨v6, h6b⟩ := H41.out.step HF.out h6a
                obtain ⟨ag, kg, e6, _⟩ := ERow.isSlice t6
                obtain ⟨mg, hmg⟩ : ∃ mg, (goneS K (es.set ix (x.vd y.cd pp y.an pc y.ax))).length = mg := ⟨_, rfl⟩
                rw [hmg] at e6
                subst e6
                have H6 : Hid (St w yb w6 b sb M v6 K R (shedS K (es.set ix (x.vd y.cd pp y.an pc y.ax))) yb y y.ct a3 ne k3 ls es ∧ TRow w6 0 (.slice ag mg kg) (goneS K (es.set ix (x.vd y.cd pp y.an pc y.ax)))) := ⟨h6b, ERow.base t6 (Nat.zero_le _)⟩
                have hl2 := list_any H6.out.1.bx
                clear hde h6a h6b h6 t6 hmg cy4
                go_wp2_with fail
                refine hl2.mono ?_
                rintro _ w7 ⟨ms, a7, k7, rfl, n7, p7', b7⟩
                obtain ⟨nn, hnn⟩ : ∃ nn, (shedS K (es.set ix (x.vd y.cd pp y.an pc y.ax))).length = nn := ⟨_, rfl⟩
                rw [hnn] at n7 ⊢
                have H7 := H6.out.1.below b7
                have hl97 : es.length ≤ 1000 := by rw [HNE.out]; omega
                have hdd := decided_true (K := K) (i := ix) (x := x) (p := pp) (c := pc) (y := y) (s := y.ct) (es := es) H7.row H7.cps.tws (fun l hl => ⟨(H7.cps.own l hl).lies, may_sz (H7.cps.ok HOK.out l hl)⟩) n7 p7'.tws (cps_k p7' H7.bx.sh.ok) (H6.out.2.below b7) HK.out hl97 HX.out.2.2.2.2 HX.out.1 HX.out.2.1 HX.out.2.2.1 HX.out.2.2.2.1 (HY.out.2.2.below H7.bel) (by have := HY.out.1.n4; omega)
                have cy7 := H7.box.cell
                have HL7 : Hid (Li w w7 b sb M K R (shedS K (es.set ix (x.vd y.cd pp y.an pc y.ax)))) := H7.li
                clear hl2 n7 p7' b7 hnn H7 H6 hl97
                go_wp2_with fail
                refine hdd.mono ?_
                rintro _ w8 ⟨rfl, b8⟩
                have HI8 : Hid (∃ es, Li w w8 b sb M K R es) := ⟨_, HL7.out.below b8⟩
                clear hdd b8 cy7 HL7
                go_wp2_with fail
                go_roundw
                case rel => exact ⟨i + 1, hlt, by go_num, HI8⟩
                case measure => simp [intOf]; omega
              · have hde := dec_no (p := y.ap) (c := y.ac) H41.out.bx hks (by have := HY.out.1.n4; omega) rfl hz
                clear hz
                go_wp2_with fail
                refine hde.mono ?_
                rintro _ w6 ⟨ev, rfl, hf6, _, b6⟩
                have H6 : Hid (St w yb w6 b sb M v K R es yb y y.ct a3 ne k3 ls es) := H41.out.below b6
                have hl2 := list_any H6.out.bx
                clear hde hf6 b6 cy4
                go_wp2_with fail
                refine hl2.mono ?_
                rintro _ w7 ⟨ms, a7, k7, rfl, n7, p7', b7⟩
                rw [HNE.out] at n7 ⊢
                have H7 : Hid (St w yb w7 b sb M v K R es yb y y.ct a3 ne k3 ls es) := H6.out.below b7
                have hk1 := cps_k p7' H7.out.bx.sh.ok
                have hsl := sameList_true n7 H7.out.row (p7'.tws.trans H7.out.cps.tws.symm) (fun l hl => (hk1 l hl).1) (fun l hl => (H7.out.cps.own l hl).lies) (fun l hl => (hk1 l hl).2)
                clear hl2 n7 p7' b7 hk1 H6
                go_wp2_with fail
                refine hsl.mono ?_
                rintro _ w8 ⟨rfl, b8⟩
                have HI8 : Hid (∃ es, Li w w8 b sb M K R es) := ⟨_, H7.out.li.below b8⟩
                clear hsl b8 H7
                go_wp2_with fail
                go_roundw
                case rel => exact ⟨i + 1, hlt, by go_num, HI8⟩
                case measure => simp [intOf]; omega
            · skip
              have hks : KeyS y.ct := HY.out.1.k2
              by_cases hz : decC es y.ct y.cd y.an = 0
              · obtain ⟨hv, hn4, ix, x, hf, hx, hop⟩ := decC_zero hz
                have hde := dec_yes (co := y.ac) H41.out.bx hks (HY.out.2.2.below H41.out.bel) hv hn4 hf hx hop
                have HX : Hid (es[ix]? = some x ∧ x.ct = y.ct ∧ opB x = true ∧ vdB y.cd = true ∧ Dis es) := ⟨hx, by
                  obtain ⟨x', h1, h2, _⟩ := fi_some hf
                  rw [hx] at h1
                  cases h1
                  exact str_of h2, hop, hv, H41.out.bx.sh.dis⟩
                clear hz hv hn4 hf hx hop
                go_wp2_with fail
                refine hde.mono ?_
                rintro _ w6 ⟨u, rfl, h6⟩
                obtain ⟨pp, pc, t6, h6a⟩ := h6.out
                obtain ⟨v6, h6b⟩ := H41.out.step HF.out h6a
                obtain ⟨ag, kg, e6, _⟩ := ERow.isSlice t6
                obtain ⟨mg, hmg⟩ : ∃ mg, (goneS K (es.set ix (x.vd y.cd pp y.an pc y.ax))).length = mg := ⟨_, rfl⟩
                rw [hmg] at e6
                subst e6
                have H6 : Hid (St w yb w6 b sb M v6 K R (shedS K (es.set ix (x.vd y.cd pp y.an pc y.ax))) yb y y.ct a3 ne k3 ls es ∧ TRow w6 0 (.slice ag mg kg) (goneS K (es.set ix (x.vd y.cd pp y.an pc y.ax)))) := ⟨h6b, ERow.base t6 (Nat.zero_le _)⟩
                have hl2 := list_any H6.out.1.bx
                clear hde h6a h6b h6 t6 hmg cy4
                go_wp2_with fail
                refine hl2.mono ?_
                rintro _ w7 ⟨ms, a7, k7, rfl, n7, p7', b7⟩
                obtain ⟨nn, hnn⟩ : ∃ nn, (shedS K (es.set ix (x.vd y.cd pp y.an pc y.ax))).length = nn := ⟨_, rfl⟩
                rw [hnn] at n7 ⊢
                have H7 := H6.out.1.below b7
                have hl97 : es.length ≤ 1000 := by rw [HNE.out]; omega
                have hdd := decided_true (K := K) (i := ix) (x := x) (p := pp) (c := pc) (y := y) (s := y.ct) (es := es) H7.row H7.cps.tws (fun l hl => ⟨(H7.cps.own l hl).lies, may_sz (H7.cps.ok HOK.out l hl)⟩) n7 p7'.tws (cps_k p7' H7.bx.sh.ok) (H6.out.2.below b7) HK.out hl97 HX.out.2.2.2.2 HX.out.1 HX.out.2.1 HX.out.2.2.1 HX.out.2.2.2.1 (HY.out.2.2.below H7.bel) (by have := HY.out.1.n4; omega)
                have cy7 := H7.box.cell
                have HL7 : Hid (Li w w7 b sb M K R (shedS K (es.set ix (x.vd y.cd pp y.an pc y.ax)))) := H7.li
                clear hl2 n7 p7' b7 hnn H7 H6 hl97
                go_wp2_with fail
                refine hdd.mono ?_
                rintro _ w8 ⟨rfl, b8⟩
                have HI8 : Hid (∃ es, Li w w8 b sb M K R es) := ⟨_, HL7.out.below b8⟩
                clear hdd b8 cy7 HL7
                go_wp2_with fail
                go_roundw
                case rel => exact ⟨i + 1, hlt, by go_num, HI8⟩
                case measure => simp [intOf]; omega
              · have hde := dec_no (p := y.ap) (c := y.ac) H41.out.bx hks (by have := HY.out.1.n4; omega) rfl hz
                clear hz
                go_wp2_with fail
                refine hde.mono ?_
                rintro _ w6 ⟨ev, rfl, hf6, _, b6⟩
                have H6 : Hid (St w yb w6 b sb M v K R es yb y y.ct a3 ne k3 ls es) := H41.out.below b6
                have hl2 := list_any H6.out.bx
                clear hde hf6 b6 cy4
                go_wp2_with fail
                refine hl2.mono ?_
                rintro _ w7 ⟨ms, a7, k7, rfl, n7, p7', b7⟩
                rw [HNE.out] at n7 ⊢
                have H7 : Hid (St w yb w7 b sb M v K R es yb y y.ct a3 ne k3 ls es) := H6.out.below b7
                have hk1 := cps_k p7' H7.out.bx.sh.ok
                have hsl := sameList_true n7 H7.out.row (p7'.tws.trans H7.out.cps.tws.symm) (fun l hl => (hk1 l hl).1) (fun l hl => (H7.out.cps.own l hl).lies) (fun l hl => (hk1 l hl).2)
                clear hl2 n7 p7' b7 hk1 H6
                go_wp2_with fail
                refine hsl.mono ?_
                rintro _ w8 ⟨rfl, b8⟩
                have HI8 : Hid (∃ es, Li w w8 b sb M K R es) := ⟨_, H7.out.li.below b8⟩
                clear hsl b8 H7
                go_wp2_with fail
                go_roundw
                case rel => exact ⟨i + 1, hlt, by go_num, HI8⟩
                case measure => simp [intOf]; omega
    · have hlt1 : ¬ (i : Int) < n := by omega
      obtain ⟨es, hL⟩ := HI.out
      have HB9 : Hid (Below w.heap.size w wr) := hL.2
      clear hL HI
      go_wp2_with fail
      go_ret
      exact ⟨rfl, HB9.out⟩
end
end Go.Proofs.Ytnpndbehbcaghaa
