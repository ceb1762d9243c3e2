/-
  The law WalCuts, walked.
-/
import Derived.Test.YtgminfbhaclbbaaDoorWCuts
import Derived.Test.YtgminfbhaclbbaaDoorWBeginning
namespace Go.Proofs.YtgminfbhaclbbaaDoor
open Go.RowKit Go.BigFrame

theorem wrapped_le {z : Int} (h : IntKind.i64.wrap z = z) : z ≤ 9223372036854775807 := by
  simp [IntKind.wrap, IntKind.bits, IntKind.signed] at h
  omega
theorem field_rec (a b c d e : Int) (w : World) : (Instr.field 40 (.agg #[.int .u64 a, .int .i64 b, .int .i64 c, .int .i64 d, .int .i64 e]) 2).run Tryd.prog w = .ok (.int .i64 c) w := by kernel_rfl
theorem field_wait (a b c d e : Int) (w : World) : (Instr.field 40 (.agg #[.int .u64 a, .int .i64 b, .int .i64 c, .int .i64 d, .int .i64 e]) 3).run Tryd.prog w = .ok (.int .i64 d) w := by kernel_rfl
set_option maxRecDepth 100000 in
set_option maxHeartbeats 32000000 in
theorem cuts_law {ao : Option Addr} {cap : Nat} {xs : List Blv} {keep zeros : Int} (w : World) (h : Bls w ao xs) (hn : xs.length ≤ maxLen) (hp : ∀ y ∈ xs, y.pl ≤ 140737488355328 ∧ (y.po = none → y.pc = 0) ∧ ∀ z ∈ y.bs, 0 ≤ z ∧ z ≤ 255) (hkw : keep ≤ 9223372036854775807) (hzw : zeros ≤ 9223372036854775807) (hH : Halves w) :
    Calls Tryd.prog 5 #[.slice ao xs.length cap, .int .i64 keep, .int .i64 zeros] w fun e w' => e = .returned (.bool true) ∧ Below w.heap.size w w' := by
  have HB : Hid (Bls w ao xs ∧ (∀ y ∈ xs, y.pl ≤ 140737488355328 ∧ (y.po = none → y.pc = 0) ∧ ∀ z ∈ y.bs, 0 ≤ z ∧ z ≤ 255) ∧ Halves w) := ⟨h, hp, hH⟩
  have HG : Hid (Calls Tryd.prog 8 #[] w fun e w' => ∃ r K L, e = .returned (.tuple #[.pointer (some ⟨r, 0, none⟩), .bool true]) ∧ CtI w r K L [] [] (.slice none 0 0) [] w') := ct_start w hH
  obtain ⟨N, hN⟩ : ∃ n, xs.length = n := ⟨_, rfl⟩
  have HN : Hid (xs.length = N) := hN
  rw [hN] at hn ⊢
  unfold maxLen at hn
  have hni : (N : Int) ≤ 9223372036854775807 := by omega
  clear h hp hN hH hn
  go_enter Tryd.func5, Tryd.ntmps5
  go_wp2_with fail
  refine HG.out.mono ?_
  rintro e w1 ⟨r, K, L, rfl, hI⟩
  have HI : Hid (CtI w r K L [] [] (.slice none 0 0) [] w1) := hI
  clear hI HG
  by_cases hk0 : keep < 0
  · have p1 : decide (keep < 0) = true := decide_eq_true hk0
    go_wp2_with fail
    go_ret
    exact ⟨rfl, HI.out.bl⟩
  have p1 : decide (keep < 0) = false := decide_eq_false hk0
  by_cases hz0 : zeros < 0
  · have p2 : decide (zeros < 0) = true := decide_eq_true hz0
    go_wp2_with fail
    go_ret
    exact ⟨rfl, HI.out.bl⟩
  have p2 : decide (zeros < 0) = false := decide_eq_false hz0
  have hk1 : 0 ≤ keep := by omega
  have hz1 : 0 ≤ zeros := by omega
  go_wp2_with fail
  go_loopw [9, 10, 11, 12, 13, 14, 15] (fun t9 t10 t11 t12 t13 _ _ wx => ∃ (j n tl : Nat) (left : Int) (full : Bool) (rs : List (List Int)) (v : Value) (vs : List Value), j ≤ N ∧ t9 = .int .i64 n ∧ t10 = .int .i64 left ∧ t11 = .bool full ∧ t12 = .int .i64 tl ∧ t13 = .int .i64 j ∧ 0 ≤ left ∧ left ≤ 9223372036854775807 ∧ n ≤ tl ∧ tl ≤ 8388608 ∧ Hid (CtI w r K L rs rs v vs wx ∧ CutP keep rs n left full ∧ tl = sizes rs)) (fun _ _ _ _ t13 _ _ _ => N - (intOf t13).toNat)
  case atStart => exact ⟨0, 0, 0, keep, true, [], .slice none 0 0, [], by omega, rfl, rfl, rfl, rfl, rfl, hk1, hkw, by omega, by omega, HI.out, CutP.start hk1, rfl⟩
  case round =>
    obtain ⟨j, n, tl, left, full, rs, v, vs, hj, rfl, rfl, rfl, rfl, rfl, hl0, hl1, hnt, htl, HK⟩ := hrel
    by_cases hlt : j < N
    · have hlti : (j : Int) < N := by omega
      obtain ⟨y, hy⟩ : ∃ y, xs[j]? = some y := ⟨_, List.getElem?_eq_getElem (by have := HN.out; omega)⟩
      obtain ⟨b, off, rfl, hl, hc, hby⟩ := HB.out.1 j y hy
      have hpl := HB.out.2.1 y (List.mem_of_getElem? hy)
      have c1 : wr.cell? ⟨b, off + j, none⟩ = some (.slice y.po y.pl y.pc) := (HK.out.1.bl.cell (p := ⟨b, off + j, none⟩) hl).trans hc
      have HBy : Hid (Byts w y.po y.pl y.bs ∧ (y.po = none → y.pc = 0) ∧ Rng y.bs) := ⟨hby, hpl.2.1, hpl.2.2⟩
      have hpi : (y.pl : Int) ≤ 140737488355328 := by have := hpl.1; omega
      obtain ⟨po, pl, pc, bs⟩ := y
      simp only at c1 HBy hpi
      clear hy hl hc hby hpl
      have s1 : IntKind.i64.wrap ((pl : Int) + 13) = pl + 13 := wrap_id (by omega) (by omega)
      have s2 : IntKind.i64.wrap ((tl : Int) + ((pl : Int) + 13)) = tl + (pl + 13) := wrap_id (by omega) (by omega)
      by_cases g0 : pl = 0
      · subst g0
        go_wp2_with fail
        go_roundw
        case rel => exact ⟨j + 1, n, tl, left, full, rs, v, vs, by omega, rfl, rfl, rfl, rfl, by go_num, hl0, hl1, hnt, htl, HK.out⟩
        case measure => simp [intOf]; omega
      have g0' : ((pl : Int) == 0) = false := by simp [g0]
      by_cases g1 : 20000 < pl
      · have g1' : decide ((20000 : Int) < pl) = true := decide_eq_true (by omega)
        have g1i : (20000 : Int) < pl := by omega
        go_wp2_with fail
        go_roundw
        case rel => exact ⟨j + 1, n, tl, left, full, rs, v, vs, by omega, rfl, rfl, rfl, rfl, by go_num, hl0, hl1, hnt, htl, HK.out⟩
        case measure => simp [intOf]; omega
      have g1' : decide ((20000 : Int) < pl) = false := decide_eq_false (by omega)
      have g1i : ¬ (20000 : Int) < pl := by omega
      by_cases g2 : 8388608 < tl + (pl + 13)
      · have g2' : decide ((8388608 : Int) < (tl : Int) + ((pl : Int) + 13)) = true := decide_eq_true (by omega)
        have g2i : (8388608 : Int) < (tl : Int) + ((pl : Int) + 13) := by omega
        go_wp2_with fail
        go_roundw
        case rel => exact ⟨j + 1, n, tl, left, full, rs, v, vs, by omega, rfl, rfl, rfl, rfl, by go_num, hl0, hl1, hnt, htl, HK.out⟩
        case measure => simp [intOf]; omega
      have g2' : decide ((8388608 : Int) < (tl : Int) + ((pl : Int) + 13)) = false := decide_eq_false (by omega)
      have g2i : ¬ (8388608 : Int) < (tl : Int) + ((pl : Int) + 13) := by omega
      have c2 := HK.out.1.r1
      have HAp : Hid (Calls Tryd.prog 10 #[.pointer (some ⟨L, 0, none⟩), .slice po pl pc] wr fun e w' => e = .returned .nilIface ∧ CtI w r K L (rs ++ [bs]) rs v vs w') := ct_append HK.out.1 HBy.out.1 HBy.out.2.2 HBy.out.2.1 HB.out.2.2 (by omega) (by omega) (by have := HK.out.2.2; omega)
      have HLen : Hid (bs.length = pl) := HBy.out.1.len
      go_wp2_with fail
      refine HAp.out.mono ?_
      rintro e w3 ⟨rfl, hI3⟩
      obtain ⟨a, nn, kk, w4, e4, q2, qz, hI4⟩ := ct_push hI3 HBy.out.1 HBy.out.2.1
      have c3 := hI3.r2
      have HI4 : Hid (CtI w r K L (rs ++ [bs]) (rs ++ [bs]) (.slice a nn kk) (vs ++ [.slice po pl pc]) (w4.setCell ⟨r, 2, none⟩ (.slice a nn kk))) := hI4
      have HTl : Hid (tl + (pl + 13) = sizes (rs ++ [bs])) := by have h1 := HK.out.2.2; have h2 := HLen.out; rw [sizes_snoc]; unfold Hid at *; omega
      clear hI3 hI4 HAp c1 c2
      cases full with
      | true =>
        by_cases g3 : (pl : Int) + 13 ≤ left
        · have g3' : decide ((pl : Int) + 13 ≤ left) = true := decide_eq_true g3
          have s3 : IntKind.i64.wrap (left - ((pl : Int) + 13)) = left - ((pl : Int) + 13) := wrap_id (by omega) (by omega)
          go_wp2_with (at_builtin; refine wpList_append_run rfl (.tmp 74) (.tmp 76) 22 _ rfl e4 ?_)
          go_roundw
          case rel => exact ⟨j + 1, n + 1, tl + (pl + 13), left - ((pl : Int) + 13), true, rs ++ [bs], _, _, by omega, by go_num, rfl, rfl, by go_num, by go_num, by omega, by omega, by omega, by omega, HI4.out, by have := HK.out.2.1.goes (d := bs) (by rw [HLen.out]; exact g3); rw [HLen.out] at this; exact this, HTl.out⟩
          case measure => simp [intOf]; omega
        · have g3' : decide ((pl : Int) + 13 ≤ left) = false := decide_eq_false g3
          go_wp2_with (at_builtin; refine wpList_append_run rfl (.tmp 74) (.tmp 76) 22 _ rfl e4 ?_)
          go_roundw
          case rel => exact ⟨j + 1, n, tl + (pl + 13), left, false, rs ++ [bs], _, _, by omega, rfl, rfl, rfl, by go_num, by go_num, hl0, hl1, by omega, by omega, HI4.out, HK.out.2.1.stops (by rw [HLen.out]; omega), HTl.out⟩
          case measure => simp [intOf]; omega
      | false =>
        go_wp2_with (at_builtin; refine wpList_append_run rfl (.tmp 74) (.tmp 76) 22 _ rfl e4 ?_)
        go_roundw
        case rel => exact ⟨j + 1, n, tl + (pl + 13), left, false, rs ++ [bs], _, _, by omega, rfl, rfl, rfl, by go_num, by go_num, hl0, hl1, by omega, by omega, HI4.out, HK.out.2.1.stays, HTl.out⟩
        case measure => simp [intOf]; omega
    · have hlti : ¬ (j : Int) < N := by omega
      obtain ⟨na, ns, nc, hcr⟩ := HK.out.1.crI
      have w0 : IntKind.i64.wrap 0 = 0 := wrap_id (by omega) (by omega)
      by_cases h1 : (tl : Int) < keep
      · have h1' : decide ((tl : Int) < keep) = true := decide_eq_true h1
        by_cases h2 : 0 < zeros
        · have h2' : decide (0 < zeros) = true := decide_eq_true h2
          have HCr : Hid (∀ tk tz : Int, tk = ((tl : Nat) : Int) → tz = ((0 : Nat) : Int) → Calls Tryd.prog 16 #[.pointer (some ⟨K, 0, none⟩), .agg #[.int .i64 tk, .int .i64 tz, .int .i64 tk, .int .i64 tz]] wr fun e w' => e = .returned (.tuple #[]) ∧ CrI w r K ⟨[], cutB rs tl 0, 0, (cutB rs tl 0).length, false, -1, na, ns, nc⟩ rs v vs w') := fun tk tz e1 e2 => by
            subst e1
            subst e2
            have hts := HK.out.2.2
            exact ct_crash (k := tl) (z := 0) hcr (by omega) (by omega) (by omega)
          clear hcr
          cases full with
          | true =>
            have c0 := HK.out.1.r0
            go_wp2_with fail
            refine (HCr.out _ _ ?_ ?_).mono ?_
            · rfl
            · rfl
            rintro e w3 ⟨rfl, hC⟩
            have c0 := hC.r0
            have HOp : Hid (Calls Tryd.prog 14 #[.pointer (some ⟨K, 0, none⟩)] w3 (CtO w r rs (rs.take n) v vs (0))) := by
              have hts := HK.out.2.2
              have := ct_open (k := tl) (z := 0) hC HB.out.2.2 HK.out.2.1 HK.out.1.gd (by omega) (by omega) (by omega)
              unfold Hid
              simpa using this
            have HDl : Hid ((rs.take n).length = n ∧ (∀ d ∈ rs.take n, d.length ≤ 16777216) ∧ vs.length = rs.length ∧ rs.length ≤ 8388608 ∧ n ≤ rs.length) := by
              have h1 := HK.out.2.1.nl
              have h2 := len_sizes rs
              have h3 := HK.out.2.2
              exact ⟨by rw [List.length_take]; omega, fun d hd => by have := (HK.out.1.gd d (List.mem_of_mem_take hd)).2.1; omega, HK.out.1.pc.1, by omega, h1⟩
            clear hC
            go_wp2_with fail
            refine HOp.out.mono ?_
            rintro e w7 ⟨B', K', L', u0, u1, σ', wh, a, nn, kk, v2, us, rfl, hlg, hvr, hpc, hbw, hr2, hvl, hpl⟩
            obtain ⟨va, vc, hv2, _⟩ := hvr.isSlice
            subst hv2
            obtain ⟨wa, wc, hv1, _⟩ := hvl.isSlice
            subst hv1
            have hun : us.length = n := by have := hpc.1; have := HDl.out.1; omega
            obtain ⟨W8, hW8⟩ : ∃ W, w7.alloc (.cells #[.int .u64 1, .slice a nn kk, .slice va us.length vc, .int .i64 (0)] 44) = W := ⟨_, rfl⟩
            have HW8 : Hid (w7.alloc (.cells #[.int .u64 1, .slice a nn kk, .slice va us.length vc, .int .i64 (0)] 44) = W8) := hW8
            have b78 : Below w7.heap.size w7 W8 := by rw [← hW8]; exact (Below.refl _ _).alloc (Nat.le_refl _) _
            have p8 : ∀ q, W8.cell? ⟨w7.heap.size, q, none⟩ = (#[Value.int .u64 1, .slice a nn kk, .slice va us.length vc, .int .i64 (0)] : Array Value)[q]? := fun q => by rw [← hW8]; exact World.cell?_alloc_new _ _ _ _
            have HBg : Hid (∀ zw, Below W8.heap.size W8 zw → Calls Tryd.prog 17 #[.slice va us.length vc, .slice wa vs.length wc] zw fun e w' => e = .returned (.bool true) ∧ Below W8.heap.size W8 w' ∧ w'.cell? ⟨w7.heap.size, 2, none⟩ = some (.slice va us.length vc) ∧ w'.cell? ⟨w7.heap.size, 3, none⟩ = some (.int .i64 (0)) ∧ w'.cell? ⟨r, 2, none⟩ = some (.slice wa vs.length wc)) := fun zw hz => by
              have h7z := below_then b78 hz
              obtain ⟨d1, d2, d3, d4, d5⟩ := HDl.out
              refine (beginning_true (hvr.off (Off.of_below (P := fun _ => False) h7z) (fun _ _ => id)) (hvl.off (Off.of_below (P := fun _ => False) h7z) (fun _ _ => id)) (hpc.below h7z) (hpl.below h7z) (by omega) (fun i d hd => by rw [List.getElem?_take] at hd; split at hd; exact hd; cases hd) (by omega) d2).mono ?_
              rintro e w' ⟨he, hb⟩
              have hb' := below_then hz hb
              exact ⟨he, hb', below_cell hb' (p8 2), below_cell hb' (p8 3), below_cell (below_then b78 hb') hr2⟩
            have HSt : Hid (∀ z, Below W8.heap.size W8 z → Calls Tryd.prog 12 #[.pointer (some ⟨L', 0, none⟩)] z fun e w' => e = .returned (.agg #[.int .u64 1, .int .i64 1, .int .i64 (n : Int), .int .i64 0, .int .i64 wh]) ∧ Below W8.heap.size W8 w') := fun z hz => by
              have := lStat (hlg.below (below_then b78 hz))
              rw [HDl.out.1] at this
              exact this.mono fun e w' ⟨he, hb⟩ => ⟨he, below_then hz hb⟩
            have HBW : Hid (Below w.heap.size w W8) := below_then hbw b78
            have f2 : W8.cell? ⟨w7.heap.size, 2, none⟩ = some (.slice va us.length vc) := p8 2
            have f3 : W8.cell? ⟨w7.heap.size, 3, none⟩ = some (.int .i64 (0)) := p8 3
            have f4 := below_cell b78 hr2
            have hB8 : Below W8.heap.size W8 W8 := Below.refl _ _
            have HUN : Hid (us.length = n) := hun
            have hunI : (us.length : Int) = (n : Int) := by omega
            clear hlg hvr hpc hbw hr2 hvl hpl hW8 b78 p8 HOp hun
            go_wp2_with fail
            rw [HW8.out]
            go_region_held3 (fun zw => zw.cell? ⟨w7.heap.size, 2, none⟩ = some (.slice va us.length vc) ∧ zw.cell? ⟨w7.heap.size, 3, none⟩ = some (.int .i64 (0)) ∧ zw.cell? ⟨r, 2, none⟩ = some (.slice wa vs.length wc)) (simp [*]) (first | (go_at_call 17; refine (HBg.out _ ?_).mono ?_; (first | assumption | exact Below.drew (by assumption)); rintro e wp ⟨rfl, hp1, k1, k2, k3⟩))
            all_goals
              have qf1 := field_rec
              have qf2 := field_wait
              go_wp2_with fail
              refine (HSt.out _ hp1).mono ?_
              rintro e wq ⟨rfl, hq1⟩
              go_wp2_with fail
              refine (HSt.out _ hq1).mono ?_
              rintro e wq2 ⟨rfl, hq2⟩
              go_wp2_with fail
              go_ret
              exact ⟨rfl, below_then HBW.out hq2⟩
          | false =>
            have c0 := HK.out.1.r0
            go_wp2_with fail
            refine (HCr.out _ _ ?_ ?_).mono ?_
            · rfl
            · rfl
            rintro e w3 ⟨rfl, hC⟩
            have c0 := hC.r0
            have HOp : Hid (Calls Tryd.prog 14 #[.pointer (some ⟨K, 0, none⟩)] w3 (CtO w r rs (rs.take n) v vs (left))) := by
              have hts := HK.out.2.2
              have := ct_open (k := tl) (z := 0) hC HB.out.2.2 HK.out.2.1 HK.out.1.gd (by omega) (by omega) (by omega)
              unfold Hid
              simpa using this
            have HDl : Hid ((rs.take n).length = n ∧ (∀ d ∈ rs.take n, d.length ≤ 16777216) ∧ vs.length = rs.length ∧ rs.length ≤ 8388608 ∧ n ≤ rs.length) := by
              have h1 := HK.out.2.1.nl
              have h2 := len_sizes rs
              have h3 := HK.out.2.2
              exact ⟨by rw [List.length_take]; omega, fun d hd => by have := (HK.out.1.gd d (List.mem_of_mem_take hd)).2.1; omega, HK.out.1.pc.1, by omega, h1⟩
            clear hC
            go_wp2_with fail
            refine HOp.out.mono ?_
            rintro e w7 ⟨B', K', L', u0, u1, σ', wh, a, nn, kk, v2, us, rfl, hlg, hvr, hpc, hbw, hr2, hvl, hpl⟩
            obtain ⟨va, vc, hv2, _⟩ := hvr.isSlice
            subst hv2
            obtain ⟨wa, wc, hv1, _⟩ := hvl.isSlice
            subst hv1
            have hun : us.length = n := by have := hpc.1; have := HDl.out.1; omega
            obtain ⟨W8, hW8⟩ : ∃ W, w7.alloc (.cells #[.int .u64 1, .slice a nn kk, .slice va us.length vc, .int .i64 (left)] 44) = W := ⟨_, rfl⟩
            have HW8 : Hid (w7.alloc (.cells #[.int .u64 1, .slice a nn kk, .slice va us.length vc, .int .i64 (left)] 44) = W8) := hW8
            have b78 : Below w7.heap.size w7 W8 := by rw [← hW8]; exact (Below.refl _ _).alloc (Nat.le_refl _) _
            have p8 : ∀ q, W8.cell? ⟨w7.heap.size, q, none⟩ = (#[Value.int .u64 1, .slice a nn kk, .slice va us.length vc, .int .i64 (left)] : Array Value)[q]? := fun q => by rw [← hW8]; exact World.cell?_alloc_new _ _ _ _
            have HBg : Hid (∀ zw, Below W8.heap.size W8 zw → Calls Tryd.prog 17 #[.slice va us.length vc, .slice wa vs.length wc] zw fun e w' => e = .returned (.bool true) ∧ Below W8.heap.size W8 w' ∧ w'.cell? ⟨w7.heap.size, 2, none⟩ = some (.slice va us.length vc) ∧ w'.cell? ⟨w7.heap.size, 3, none⟩ = some (.int .i64 (left)) ∧ w'.cell? ⟨r, 2, none⟩ = some (.slice wa vs.length wc)) := fun zw hz => by
              have h7z := below_then b78 hz
              obtain ⟨d1, d2, d3, d4, d5⟩ := HDl.out
              refine (beginning_true (hvr.off (Off.of_below (P := fun _ => False) h7z) (fun _ _ => id)) (hvl.off (Off.of_below (P := fun _ => False) h7z) (fun _ _ => id)) (hpc.below h7z) (hpl.below h7z) (by omega) (fun i d hd => by rw [List.getElem?_take] at hd; split at hd; exact hd; cases hd) (by omega) d2).mono ?_
              rintro e w' ⟨he, hb⟩
              have hb' := below_then hz hb
              exact ⟨he, hb', below_cell hb' (p8 2), below_cell hb' (p8 3), below_cell (below_then b78 hb') hr2⟩
            have HSt : Hid (∀ z, Below W8.heap.size W8 z → Calls Tryd.prog 12 #[.pointer (some ⟨L', 0, none⟩)] z fun e w' => e = .returned (.agg #[.int .u64 1, .int .i64 1, .int .i64 (n : Int), .int .i64 0, .int .i64 wh]) ∧ Below W8.heap.size W8 w') := fun z hz => by
              have := lStat (hlg.below (below_then b78 hz))
              rw [HDl.out.1] at this
              exact this.mono fun e w' ⟨he, hb⟩ => ⟨he, below_then hz hb⟩
            have HBW : Hid (Below w.heap.size w W8) := below_then hbw b78
            have f2 : W8.cell? ⟨w7.heap.size, 2, none⟩ = some (.slice va us.length vc) := p8 2
            have f3 : W8.cell? ⟨w7.heap.size, 3, none⟩ = some (.int .i64 (left)) := p8 3
            have f4 := below_cell b78 hr2
            have hB8 : Below W8.heap.size W8 W8 := Below.refl _ _
            have HUN : Hid (us.length = n) := hun
            have hunI : (us.length : Int) = (n : Int) := by omega
            clear hlg hvr hpc hbw hr2 hvl hpl hW8 b78 p8 HOp hun
            have hlf : left ≤ 20013 := by
              obtain ⟨rr, hrr, hlr⟩ := HK.out.2.1.ff rfl
              have := (HK.out.1.gd rr (List.mem_of_getElem? hrr)).2.1
              omega
            go_wp2_with fail
            rw [HW8.out]
            go_region_held3 (fun zw => zw.cell? ⟨w7.heap.size, 2, none⟩ = some (.slice va us.length vc) ∧ zw.cell? ⟨w7.heap.size, 3, none⟩ = some (.int .i64 (left)) ∧ zw.cell? ⟨r, 2, none⟩ = some (.slice wa vs.length wc)) (simp [*]) (first | (go_at_call 17; refine (HBg.out _ ?_).mono ?_; (first | assumption | exact Below.drew (by assumption)); rintro e wp ⟨rfl, hp1, k1, k2, k3⟩))
            all_goals
              have qf1 := field_rec
              have qf2 := field_wait
              go_wp2_with fail
              refine (HSt.out _ hp1).mono ?_
              rintro e wq ⟨rfl, hq1⟩
              go_wp2_with fail
              refine (HSt.out _ hq1).mono ?_
              rintro e wq2 ⟨rfl, hq2⟩
              go_wp2_with fail
              go_ret
              exact ⟨rfl, below_then HBW.out hq2⟩
        · have h2' : decide (0 < zeros) = false := decide_eq_false h2
          obtain ⟨z, hz⟩ : ∃ z : Nat, zeros = z := ⟨zeros.toNat, by omega⟩
          subst hz
          have HCr : Hid (∀ tk tz : Int, tk = ((tl : Nat) : Int) → tz = ((z : Nat) : Int) → Calls Tryd.prog 16 #[.pointer (some ⟨K, 0, none⟩), .agg #[.int .i64 tk, .int .i64 tz, .int .i64 tk, .int .i64 tz]] wr fun e w' => e = .returned (.tuple #[]) ∧ CrI w r K ⟨[], cutB rs tl z, 0, (cutB rs tl z).length, false, -1, na, ns, nc⟩ rs v vs w') := fun tk tz e1 e2 => by
            subst e1
            subst e2
            have hts := HK.out.2.2
            exact ct_crash (k := tl) (z := z) hcr (by omega) (by omega) (by omega)
          clear hcr
          cases full with
          | true =>
            have c0 := HK.out.1.r0
            go_wp2_with fail
            refine (HCr.out _ _ ?_ ?_).mono ?_
            · rfl
            · rfl
            rintro e w3 ⟨rfl, hC⟩
            have c0 := hC.r0
            have HOp : Hid (Calls Tryd.prog 14 #[.pointer (some ⟨K, 0, none⟩)] w3 (CtO w r rs (rs.take n) v vs (0))) := by
              have hts := HK.out.2.2
              have := ct_open (k := tl) (z := z) hC HB.out.2.2 HK.out.2.1 HK.out.1.gd (by omega) (by omega) (by omega)
              unfold Hid
              simpa using this
            have HDl : Hid ((rs.take n).length = n ∧ (∀ d ∈ rs.take n, d.length ≤ 16777216) ∧ vs.length = rs.length ∧ rs.length ≤ 8388608 ∧ n ≤ rs.length) := by
              have h1 := HK.out.2.1.nl
              have h2 := len_sizes rs
              have h3 := HK.out.2.2
              exact ⟨by rw [List.length_take]; omega, fun d hd => by have := (HK.out.1.gd d (List.mem_of_mem_take hd)).2.1; omega, HK.out.1.pc.1, by omega, h1⟩
            clear hC
            go_wp2_with fail
            refine HOp.out.mono ?_
            rintro e w7 ⟨B', K', L', u0, u1, σ', wh, a, nn, kk, v2, us, rfl, hlg, hvr, hpc, hbw, hr2, hvl, hpl⟩
            obtain ⟨va, vc, hv2, _⟩ := hvr.isSlice
            subst hv2
            obtain ⟨wa, wc, hv1, _⟩ := hvl.isSlice
            subst hv1
            have hun : us.length = n := by have := hpc.1; have := HDl.out.1; omega
            obtain ⟨W8, hW8⟩ : ∃ W, w7.alloc (.cells #[.int .u64 1, .slice a nn kk, .slice va us.length vc, .int .i64 (0)] 44) = W := ⟨_, rfl⟩
            have HW8 : Hid (w7.alloc (.cells #[.int .u64 1, .slice a nn kk, .slice va us.length vc, .int .i64 (0)] 44) = W8) := hW8
            have b78 : Below w7.heap.size w7 W8 := by rw [← hW8]; exact (Below.refl _ _).alloc (Nat.le_refl _) _
            have p8 : ∀ q, W8.cell? ⟨w7.heap.size, q, none⟩ = (#[Value.int .u64 1, .slice a nn kk, .slice va us.length vc, .int .i64 (0)] : Array Value)[q]? := fun q => by rw [← hW8]; exact World.cell?_alloc_new _ _ _ _
            have HBg : Hid (∀ zw, Below W8.heap.size W8 zw → Calls Tryd.prog 17 #[.slice va us.length vc, .slice wa vs.length wc] zw fun e w' => e = .returned (.bool true) ∧ Below W8.heap.size W8 w' ∧ w'.cell? ⟨w7.heap.size, 2, none⟩ = some (.slice va us.length vc) ∧ w'.cell? ⟨w7.heap.size, 3, none⟩ = some (.int .i64 (0)) ∧ w'.cell? ⟨r, 2, none⟩ = some (.slice wa vs.length wc)) := fun zw hz => by
              have h7z := below_then b78 hz
              obtain ⟨d1, d2, d3, d4, d5⟩ := HDl.out
              refine (beginning_true (hvr.off (Off.of_below (P := fun _ => False) h7z) (fun _ _ => id)) (hvl.off (Off.of_below (P := fun _ => False) h7z) (fun _ _ => id)) (hpc.below h7z) (hpl.below h7z) (by omega) (fun i d hd => by rw [List.getElem?_take] at hd; split at hd; exact hd; cases hd) (by omega) d2).mono ?_
              rintro e w' ⟨he, hb⟩
              have hb' := below_then hz hb
              exact ⟨he, hb', below_cell hb' (p8 2), below_cell hb' (p8 3), below_cell (below_then b78 hb') hr2⟩
            have HSt : Hid (∀ z, Below W8.heap.size W8 z → Calls Tryd.prog 12 #[.pointer (some ⟨L', 0, none⟩)] z fun e w' => e = .returned (.agg #[.int .u64 1, .int .i64 1, .int .i64 (n : Int), .int .i64 0, .int .i64 wh]) ∧ Below W8.heap.size W8 w') := fun z hz => by
              have := lStat (hlg.below (below_then b78 hz))
              rw [HDl.out.1] at this
              exact this.mono fun e w' ⟨he, hb⟩ => ⟨he, below_then hz hb⟩
            have HBW : Hid (Below w.heap.size w W8) := below_then hbw b78
            have f2 : W8.cell? ⟨w7.heap.size, 2, none⟩ = some (.slice va us.length vc) := p8 2
            have f3 : W8.cell? ⟨w7.heap.size, 3, none⟩ = some (.int .i64 (0)) := p8 3
            have f4 := below_cell b78 hr2
            have hB8 : Below W8.heap.size W8 W8 := Below.refl _ _
            have HUN : Hid (us.length = n) := hun
            have hunI : (us.length : Int) = (n : Int) := by omega
            clear hlg hvr hpc hbw hr2 hvl hpl hW8 b78 p8 HOp hun
            go_wp2_with fail
            rw [HW8.out]
            go_region_held3 (fun zw => zw.cell? ⟨w7.heap.size, 2, none⟩ = some (.slice va us.length vc) ∧ zw.cell? ⟨w7.heap.size, 3, none⟩ = some (.int .i64 (0)) ∧ zw.cell? ⟨r, 2, none⟩ = some (.slice wa vs.length wc)) (simp [*]) (first | (go_at_call 17; refine (HBg.out _ ?_).mono ?_; (first | assumption | exact Below.drew (by assumption)); rintro e wp ⟨rfl, hp1, k1, k2, k3⟩))
            all_goals
              have qf1 := field_rec
              have qf2 := field_wait
              go_wp2_with fail
              refine (HSt.out _ hp1).mono ?_
              rintro e wq ⟨rfl, hq1⟩
              go_wp2_with fail
              refine (HSt.out _ hq1).mono ?_
              rintro e wq2 ⟨rfl, hq2⟩
              go_wp2_with fail
              go_ret
              exact ⟨rfl, below_then HBW.out hq2⟩
          | false =>
            have c0 := HK.out.1.r0
            go_wp2_with fail
            refine (HCr.out _ _ ?_ ?_).mono ?_
            · rfl
            · rfl
            rintro e w3 ⟨rfl, hC⟩
            have c0 := hC.r0
            have HOp : Hid (Calls Tryd.prog 14 #[.pointer (some ⟨K, 0, none⟩)] w3 (CtO w r rs (rs.take n) v vs (left + (z : Int)))) := by
              have hts := HK.out.2.2
              have := ct_open (k := tl) (z := z) hC HB.out.2.2 HK.out.2.1 HK.out.1.gd (by omega) (by omega) (by omega)
              unfold Hid
              simpa using this
            have HDl : Hid ((rs.take n).length = n ∧ (∀ d ∈ rs.take n, d.length ≤ 16777216) ∧ vs.length = rs.length ∧ rs.length ≤ 8388608 ∧ n ≤ rs.length) := by
              have h1 := HK.out.2.1.nl
              have h2 := len_sizes rs
              have h3 := HK.out.2.2
              exact ⟨by rw [List.length_take]; omega, fun d hd => by have := (HK.out.1.gd d (List.mem_of_mem_take hd)).2.1; omega, HK.out.1.pc.1, by omega, h1⟩
            clear hC
            go_wp2_with fail
            refine HOp.out.mono ?_
            rintro e w7 ⟨B', K', L', u0, u1, σ', wh, a, nn, kk, v2, us, rfl, hlg, hvr, hpc, hbw, hr2, hvl, hpl⟩
            obtain ⟨va, vc, hv2, _⟩ := hvr.isSlice
            subst hv2
            obtain ⟨wa, wc, hv1, _⟩ := hvl.isSlice
            subst hv1
            have hun : us.length = n := by have := hpc.1; have := HDl.out.1; omega
            obtain ⟨W8, hW8⟩ : ∃ W, w7.alloc (.cells #[.int .u64 1, .slice a nn kk, .slice va us.length vc, .int .i64 (left + (z : Int))] 44) = W := ⟨_, rfl⟩
            have HW8 : Hid (w7.alloc (.cells #[.int .u64 1, .slice a nn kk, .slice va us.length vc, .int .i64 (left + (z : Int))] 44) = W8) := hW8
            have b78 : Below w7.heap.size w7 W8 := by rw [← hW8]; exact (Below.refl _ _).alloc (Nat.le_refl _) _
            have p8 : ∀ q, W8.cell? ⟨w7.heap.size, q, none⟩ = (#[Value.int .u64 1, .slice a nn kk, .slice va us.length vc, .int .i64 (left + (z : Int))] : Array Value)[q]? := fun q => by rw [← hW8]; exact World.cell?_alloc_new _ _ _ _
            have HBg : Hid (∀ zw, Below W8.heap.size W8 zw → Calls Tryd.prog 17 #[.slice va us.length vc, .slice wa vs.length wc] zw fun e w' => e = .returned (.bool true) ∧ Below W8.heap.size W8 w' ∧ w'.cell? ⟨w7.heap.size, 2, none⟩ = some (.slice va us.length vc) ∧ w'.cell? ⟨w7.heap.size, 3, none⟩ = some (.int .i64 (left + (z : Int))) ∧ w'.cell? ⟨r, 2, none⟩ = some (.slice wa vs.length wc)) := fun zw hz => by
              have h7z := below_then b78 hz
              obtain ⟨d1, d2, d3, d4, d5⟩ := HDl.out
              refine (beginning_true (hvr.off (Off.of_below (P := fun _ => False) h7z) (fun _ _ => id)) (hvl.off (Off.of_below (P := fun _ => False) h7z) (fun _ _ => id)) (hpc.below h7z) (hpl.below h7z) (by omega) (fun i d hd => by rw [List.getElem?_take] at hd; split at hd; exact hd; cases hd) (by omega) d2).mono ?_
              rintro e w' ⟨he, hb⟩
              have hb' := below_then hz hb
              exact ⟨he, hb', below_cell hb' (p8 2), below_cell hb' (p8 3), below_cell (below_then b78 hb') hr2⟩
            have HSt : Hid (∀ z, Below W8.heap.size W8 z → Calls Tryd.prog 12 #[.pointer (some ⟨L', 0, none⟩)] z fun e w' => e = .returned (.agg #[.int .u64 1, .int .i64 1, .int .i64 (n : Int), .int .i64 0, .int .i64 wh]) ∧ Below W8.heap.size W8 w') := fun z hz => by
              have := lStat (hlg.below (below_then b78 hz))
              rw [HDl.out.1] at this
              exact this.mono fun e w' ⟨he, hb⟩ => ⟨he, below_then hz hb⟩
            have HBW : Hid (Below w.heap.size w W8) := below_then hbw b78
            have f2 : W8.cell? ⟨w7.heap.size, 2, none⟩ = some (.slice va us.length vc) := p8 2
            have f3 : W8.cell? ⟨w7.heap.size, 3, none⟩ = some (.int .i64 (left + (z : Int))) := p8 3
            have f4 := below_cell b78 hr2
            have hB8 : Below W8.heap.size W8 W8 := Below.refl _ _
            have HUN : Hid (us.length = n) := hun
            have hunI : (us.length : Int) = (n : Int) := by omega
            clear hlg hvr hpc hbw hr2 hvl hpl hW8 b78 p8 HOp hun
            have hlf : left ≤ 20013 := by
              obtain ⟨rr, hrr, hlr⟩ := HK.out.2.1.ff rfl
              have := (HK.out.1.gd rr (List.mem_of_getElem? hrr)).2.1
              omega
            have s4 : IntKind.i64.wrap (left + (z : Int)) = left + (z : Int) := by
              have hts := HK.out.2.2
              exact wrap_id (by omega) (by omega)
            go_wp2_with fail
            rw [HW8.out]
            go_region_held3 (fun zw => zw.cell? ⟨w7.heap.size, 2, none⟩ = some (.slice va us.length vc) ∧ zw.cell? ⟨w7.heap.size, 3, none⟩ = some (.int .i64 (left + (z : Int))) ∧ zw.cell? ⟨r, 2, none⟩ = some (.slice wa vs.length wc)) (simp [*]) (first | (go_at_call 17; refine (HBg.out _ ?_).mono ?_; (first | assumption | exact Below.drew (by assumption)); rintro e wp ⟨rfl, hp1, k1, k2, k3⟩))
            all_goals
              have qf1 := field_rec
              have qf2 := field_wait
              go_wp2_with fail
              refine (HSt.out _ hp1).mono ?_
              rintro e wq ⟨rfl, hq1⟩
              go_wp2_with fail
              refine (HSt.out _ hq1).mono ?_
              rintro e wq2 ⟨rfl, hq2⟩
              go_wp2_with fail
              go_ret
              exact ⟨rfl, below_then HBW.out hq2⟩
      · have h1' : decide ((tl : Int) < keep) = false := decide_eq_false h1
        obtain ⟨k, hk⟩ : ∃ k : Nat, keep = k := ⟨keep.toNat, by omega⟩
        subst hk
        obtain ⟨d, hd⟩ : ∃ d : Nat, (d : Int) = (tl : Int) - k := ⟨((tl : Int) - k).toNat, by omega⟩
        have HDd : Hid ((d : Int) = (tl : Int) - k) := hd
        have hdw : IntKind.i64.wrap ((tl : Int) - (k : Int)) = (d : Int) := by rw [hd]; exact wrap_id (by omega) (by omega)
        clear hd
        by_cases h2 : (d : Int) < zeros
        · have h2' : decide ((d : Int) < zeros) = true := decide_eq_true h2
          have HCr : Hid (∀ tk tz : Int, tk = ((k : Nat) : Int) → tz = ((d : Nat) : Int) → Calls Tryd.prog 16 #[.pointer (some ⟨K, 0, none⟩), .agg #[.int .i64 tk, .int .i64 tz, .int .i64 tk, .int .i64 tz]] wr fun e w' => e = .returned (.tuple #[]) ∧ CrI w r K ⟨[], cutB rs k d, 0, (cutB rs k d).length, false, -1, na, ns, nc⟩ rs v vs w') := fun tk tz e1 e2 => by
            subst e1
            subst e2
            have hts := HK.out.2.2
            have hdd := HDd.out
            exact ct_crash (k := k) (z := d) hcr (by omega) (by omega) (by omega)
          clear hcr
          cases full with
          | true =>
            have c0 := HK.out.1.r0
            go_wp2_with fail
            refine (HCr.out _ _ ?_ ?_).mono ?_
            · rfl
            · rfl
            rintro e w3 ⟨rfl, hC⟩
            have c0 := hC.r0
            have HOp : Hid (Calls Tryd.prog 14 #[.pointer (some ⟨K, 0, none⟩)] w3 (CtO w r rs (rs.take n) v vs (0))) := by
              have hts := HK.out.2.2
              have hdd := HDd.out
              have := ct_open (k := k) (z := d) hC HB.out.2.2 HK.out.2.1 HK.out.1.gd (by omega) (by omega) (by omega)
              unfold Hid
              simpa using this
            have HDl : Hid ((rs.take n).length = n ∧ (∀ d ∈ rs.take n, d.length ≤ 16777216) ∧ vs.length = rs.length ∧ rs.length ≤ 8388608 ∧ n ≤ rs.length) := by
              have h1 := HK.out.2.1.nl
              have h2 := len_sizes rs
              have h3 := HK.out.2.2
              exact ⟨by rw [List.length_take]; omega, fun d hd => by have := (HK.out.1.gd d (List.mem_of_mem_take hd)).2.1; omega, HK.out.1.pc.1, by omega, h1⟩
            clear hC
            go_wp2_with fail
            refine HOp.out.mono ?_
            rintro e w7 ⟨B', K', L', u0, u1, σ', wh, a, nn, kk, v2, us, rfl, hlg, hvr, hpc, hbw, hr2, hvl, hpl⟩
            obtain ⟨va, vc, hv2, _⟩ := hvr.isSlice
            subst hv2
            obtain ⟨wa, wc, hv1, _⟩ := hvl.isSlice
            subst hv1
            have hun : us.length = n := by have := hpc.1; have := HDl.out.1; omega
            obtain ⟨W8, hW8⟩ : ∃ W, w7.alloc (.cells #[.int .u64 1, .slice a nn kk, .slice va us.length vc, .int .i64 (0)] 44) = W := ⟨_, rfl⟩
            have HW8 : Hid (w7.alloc (.cells #[.int .u64 1, .slice a nn kk, .slice va us.length vc, .int .i64 (0)] 44) = W8) := hW8
            have b78 : Below w7.heap.size w7 W8 := by rw [← hW8]; exact (Below.refl _ _).alloc (Nat.le_refl _) _
            have p8 : ∀ q, W8.cell? ⟨w7.heap.size, q, none⟩ = (#[Value.int .u64 1, .slice a nn kk, .slice va us.length vc, .int .i64 (0)] : Array Value)[q]? := fun q => by rw [← hW8]; exact World.cell?_alloc_new _ _ _ _
            have HBg : Hid (∀ zw, Below W8.heap.size W8 zw → Calls Tryd.prog 17 #[.slice va us.length vc, .slice wa vs.length wc] zw fun e w' => e = .returned (.bool true) ∧ Below W8.heap.size W8 w' ∧ w'.cell? ⟨w7.heap.size, 2, none⟩ = some (.slice va us.length vc) ∧ w'.cell? ⟨w7.heap.size, 3, none⟩ = some (.int .i64 (0)) ∧ w'.cell? ⟨r, 2, none⟩ = some (.slice wa vs.length wc)) := fun zw hz => by
              have h7z := below_then b78 hz
              obtain ⟨d1, d2, d3, d4, d5⟩ := HDl.out
              refine (beginning_true (hvr.off (Off.of_below (P := fun _ => False) h7z) (fun _ _ => id)) (hvl.off (Off.of_below (P := fun _ => False) h7z) (fun _ _ => id)) (hpc.below h7z) (hpl.below h7z) (by omega) (fun i d hd => by rw [List.getElem?_take] at hd; split at hd; exact hd; cases hd) (by omega) d2).mono ?_
              rintro e w' ⟨he, hb⟩
              have hb' := below_then hz hb
              exact ⟨he, hb', below_cell hb' (p8 2), below_cell hb' (p8 3), below_cell (below_then b78 hb') hr2⟩
            have HSt : Hid (∀ z, Below W8.heap.size W8 z → Calls Tryd.prog 12 #[.pointer (some ⟨L', 0, none⟩)] z fun e w' => e = .returned (.agg #[.int .u64 1, .int .i64 1, .int .i64 (n : Int), .int .i64 0, .int .i64 wh]) ∧ Below W8.heap.size W8 w') := fun z hz => by
              have := lStat (hlg.below (below_then b78 hz))
              rw [HDl.out.1] at this
              exact this.mono fun e w' ⟨he, hb⟩ => ⟨he, below_then hz hb⟩
            have HBW : Hid (Below w.heap.size w W8) := below_then hbw b78
            have f2 : W8.cell? ⟨w7.heap.size, 2, none⟩ = some (.slice va us.length vc) := p8 2
            have f3 : W8.cell? ⟨w7.heap.size, 3, none⟩ = some (.int .i64 (0)) := p8 3
            have f4 := below_cell b78 hr2
            have hB8 : Below W8.heap.size W8 W8 := Below.refl _ _
            have HUN : Hid (us.length = n) := hun
            have hunI : (us.length : Int) = (n : Int) := by omega
            clear hlg hvr hpc hbw hr2 hvl hpl hW8 b78 p8 HOp hun
            go_wp2_with fail
            rw [HW8.out]
            go_region_held3 (fun zw => zw.cell? ⟨w7.heap.size, 2, none⟩ = some (.slice va us.length vc) ∧ zw.cell? ⟨w7.heap.size, 3, none⟩ = some (.int .i64 (0)) ∧ zw.cell? ⟨r, 2, none⟩ = some (.slice wa vs.length wc)) (simp [*]) (first | (go_at_call 17; refine (HBg.out _ ?_).mono ?_; (first | assumption | exact Below.drew (by assumption)); rintro e wp ⟨rfl, hp1, k1, k2, k3⟩))
            all_goals
              have qf1 := field_rec
              have qf2 := field_wait
              go_wp2_with fail
              refine (HSt.out _ hp1).mono ?_
              rintro e wq ⟨rfl, hq1⟩
              go_wp2_with fail
              refine (HSt.out _ hq1).mono ?_
              rintro e wq2 ⟨rfl, hq2⟩
              go_wp2_with fail
              go_ret
              exact ⟨rfl, below_then HBW.out hq2⟩
          | false =>
            have c0 := HK.out.1.r0
            go_wp2_with fail
            refine (HCr.out _ _ ?_ ?_).mono ?_
            · rfl
            · rfl
            rintro e w3 ⟨rfl, hC⟩
            have c0 := hC.r0
            have HOp : Hid (Calls Tryd.prog 14 #[.pointer (some ⟨K, 0, none⟩)] w3 (CtO w r rs (rs.take n) v vs (left + (d : Int)))) := by
              have hts := HK.out.2.2
              have hdd := HDd.out
              have := ct_open (k := k) (z := d) hC HB.out.2.2 HK.out.2.1 HK.out.1.gd (by omega) (by omega) (by omega)
              unfold Hid
              simpa using this
            have HDl : Hid ((rs.take n).length = n ∧ (∀ d ∈ rs.take n, d.length ≤ 16777216) ∧ vs.length = rs.length ∧ rs.length ≤ 8388608 ∧ n ≤ rs.length) := by
              have h1 := HK.out.2.1.nl
              have h2 := len_sizes rs
              have h3 := HK.out.2.2
              exact ⟨by rw [List.length_take]; omega, fun d hd => by have := (HK.out.1.gd d (List.mem_of_mem_take hd)).2.1; omega, HK.out.1.pc.1, by omega, h1⟩
            clear hC
            go_wp2_with fail
            refine HOp.out.mono ?_
            rintro e w7 ⟨B', K', L', u0, u1, σ', wh, a, nn, kk, v2, us, rfl, hlg, hvr, hpc, hbw, hr2, hvl, hpl⟩
            obtain ⟨va, vc, hv2, _⟩ := hvr.isSlice
            subst hv2
            obtain ⟨wa, wc, hv1, _⟩ := hvl.isSlice
            subst hv1
            have hun : us.length = n := by have := hpc.1; have := HDl.out.1; omega
            obtain ⟨W8, hW8⟩ : ∃ W, w7.alloc (.cells #[.int .u64 1, .slice a nn kk, .slice va us.length vc, .int .i64 (left + (d : Int))] 44) = W := ⟨_, rfl⟩
            have HW8 : Hid (w7.alloc (.cells #[.int .u64 1, .slice a nn kk, .slice va us.length vc, .int .i64 (left + (d : Int))] 44) = W8) := hW8
            have b78 : Below w7.heap.size w7 W8 := by rw [← hW8]; exact (Below.refl _ _).alloc (Nat.le_refl _) _
            have p8 : ∀ q, W8.cell? ⟨w7.heap.size, q, none⟩ = (#[Value.int .u64 1, .slice a nn kk, .slice va us.length vc, .int .i64 (left + (d : Int))] : Array Value)[q]? := fun q => by rw [← hW8]; exact World.cell?_alloc_new _ _ _ _
            have HBg : Hid (∀ zw, Below W8.heap.size W8 zw → Calls Tryd.prog 17 #[.slice va us.length vc, .slice wa vs.length wc] zw fun e w' => e = .returned (.bool true) ∧ Below W8.heap.size W8 w' ∧ w'.cell? ⟨w7.heap.size, 2, none⟩ = some (.slice va us.length vc) ∧ w'.cell? ⟨w7.heap.size, 3, none⟩ = some (.int .i64 (left + (d : Int))) ∧ w'.cell? ⟨r, 2, none⟩ = some (.slice wa vs.length wc)) := fun zw hz => by
              have h7z := below_then b78 hz
              obtain ⟨d1, d2, d3, d4, d5⟩ := HDl.out
              refine (beginning_true (hvr.off (Off.of_below (P := fun _ => False) h7z) (fun _ _ => id)) (hvl.off (Off.of_below (P := fun _ => False) h7z) (fun _ _ => id)) (hpc.below h7z) (hpl.below h7z) (by omega) (fun i d hd => by rw [List.getElem?_take] at hd; split at hd; exact hd; cases hd) (by omega) d2).mono ?_
              rintro e w' ⟨he, hb⟩
              have hb' := below_then hz hb
              exact ⟨he, hb', below_cell hb' (p8 2), below_cell hb' (p8 3), below_cell (below_then b78 hb') hr2⟩
            have HSt : Hid (∀ z, Below W8.heap.size W8 z → Calls Tryd.prog 12 #[.pointer (some ⟨L', 0, none⟩)] z fun e w' => e = .returned (.agg #[.int .u64 1, .int .i64 1, .int .i64 (n : Int), .int .i64 0, .int .i64 wh]) ∧ Below W8.heap.size W8 w') := fun z hz => by
              have := lStat (hlg.below (below_then b78 hz))
              rw [HDl.out.1] at this
              exact this.mono fun e w' ⟨he, hb⟩ => ⟨he, below_then hz hb⟩
            have HBW : Hid (Below w.heap.size w W8) := below_then hbw b78
            have f2 : W8.cell? ⟨w7.heap.size, 2, none⟩ = some (.slice va us.length vc) := p8 2
            have f3 : W8.cell? ⟨w7.heap.size, 3, none⟩ = some (.int .i64 (left + (d : Int))) := p8 3
            have f4 := below_cell b78 hr2
            have hB8 : Below W8.heap.size W8 W8 := Below.refl _ _
            have HUN : Hid (us.length = n) := hun
            have hunI : (us.length : Int) = (n : Int) := by omega
            clear hlg hvr hpc hbw hr2 hvl hpl hW8 b78 p8 HOp hun
            have hlf : left ≤ 20013 := by
              obtain ⟨rr, hrr, hlr⟩ := HK.out.2.1.ff rfl
              have := (HK.out.1.gd rr (List.mem_of_getElem? hrr)).2.1
              omega
            have s4 : IntKind.i64.wrap (left + (d : Int)) = left + (d : Int) := by
              have hts := HK.out.2.2
              exact wrap_id (by omega) (by have := HDd.out; omega)
            go_wp2_with fail
            rw [HW8.out]
            go_region_held3 (fun zw => zw.cell? ⟨w7.heap.size, 2, none⟩ = some (.slice va us.length vc) ∧ zw.cell? ⟨w7.heap.size, 3, none⟩ = some (.int .i64 (left + (d : Int))) ∧ zw.cell? ⟨r, 2, none⟩ = some (.slice wa vs.length wc)) (simp [*]) (first | (go_at_call 17; refine (HBg.out _ ?_).mono ?_; (first | assumption | exact Below.drew (by assumption)); rintro e wp ⟨rfl, hp1, k1, k2, k3⟩))
            all_goals
              have qf1 := field_rec
              have qf2 := field_wait
              go_wp2_with fail
              refine (HSt.out _ hp1).mono ?_
              rintro e wq ⟨rfl, hq1⟩
              go_wp2_with fail
              refine (HSt.out _ hq1).mono ?_
              rintro e wq2 ⟨rfl, hq2⟩
              go_wp2_with fail
              go_ret
              exact ⟨rfl, below_then HBW.out hq2⟩
        · have h2' : decide ((d : Int) < zeros) = false := decide_eq_false h2
          obtain ⟨z, hz⟩ : ∃ z : Nat, zeros = z := ⟨zeros.toNat, by omega⟩
          subst hz
          have HCr : Hid (∀ tk tz : Int, tk = ((k : Nat) : Int) → tz = ((z : Nat) : Int) → Calls Tryd.prog 16 #[.pointer (some ⟨K, 0, none⟩), .agg #[.int .i64 tk, .int .i64 tz, .int .i64 tk, .int .i64 tz]] wr fun e w' => e = .returned (.tuple #[]) ∧ CrI w r K ⟨[], cutB rs k z, 0, (cutB rs k z).length, false, -1, na, ns, nc⟩ rs v vs w') := fun tk tz e1 e2 => by
            subst e1
            subst e2
            have hts := HK.out.2.2
            have hdd := HDd.out
            exact ct_crash (k := k) (z := z) hcr (by omega) (by omega) (by omega)
          clear hcr
          cases full with
          | true =>
            have c0 := HK.out.1.r0
            go_wp2_with fail
            refine (HCr.out _ _ ?_ ?_).mono ?_
            · rfl
            · rfl
            rintro e w3 ⟨rfl, hC⟩
            have c0 := hC.r0
            have HOp : Hid (Calls Tryd.prog 14 #[.pointer (some ⟨K, 0, none⟩)] w3 (CtO w r rs (rs.take n) v vs (0))) := by
              have hts := HK.out.2.2
              have hdd := HDd.out
              have := ct_open (k := k) (z := z) hC HB.out.2.2 HK.out.2.1 HK.out.1.gd (by omega) (by omega) (by omega)
              unfold Hid
              simpa using this
            have HDl : Hid ((rs.take n).length = n ∧ (∀ d ∈ rs.take n, d.length ≤ 16777216) ∧ vs.length = rs.length ∧ rs.length ≤ 8388608 ∧ n ≤ rs.length) := by
              have h1 := HK.out.2.1.nl
              have h2 := len_sizes rs
              have h3 := HK.out.2.2
              exact ⟨by rw [List.length_take]; omega, fun d hd => by have := (HK.out.1.gd d (List.mem_of_mem_take hd)).2.1; omega, HK.out.1.pc.1, by omega, h1⟩
            clear hC
            go_wp2_with fail
            refine HOp.out.mono ?_
            rintro e w7 ⟨B', K', L', u0, u1, σ', wh, a, nn, kk, v2, us, rfl, hlg, hvr, hpc, hbw, hr2, hvl, hpl⟩
            obtain ⟨va, vc, hv2, _⟩ := hvr.isSlice
            subst hv2
            obtain ⟨wa, wc, hv1, _⟩ := hvl.isSlice
            subst hv1
            have hun : us.length = n := by have := hpc.1; have := HDl.out.1; omega
            obtain ⟨W8, hW8⟩ : ∃ W, w7.alloc (.cells #[.int .u64 1, .slice a nn kk, .slice va us.length vc, .int .i64 (0)] 44) = W := ⟨_, rfl⟩
            have HW8 : Hid (w7.alloc (.cells #[.int .u64 1, .slice a nn kk, .slice va us.length vc, .int .i64 (0)] 44) = W8) := hW8
            have b78 : Below w7.heap.size w7 W8 := by rw [← hW8]; exact (Below.refl _ _).alloc (Nat.le_refl _) _
            have p8 : ∀ q, W8.cell? ⟨w7.heap.size, q, none⟩ = (#[Value.int .u64 1, .slice a nn kk, .slice va us.length vc, .int .i64 (0)] : Array Value)[q]? := fun q => by rw [← hW8]; exact World.cell?_alloc_new _ _ _ _
            have HBg : Hid (∀ zw, Below W8.heap.size W8 zw → Calls Tryd.prog 17 #[.slice va us.length vc, .slice wa vs.length wc] zw fun e w' => e = .returned (.bool true) ∧ Below W8.heap.size W8 w' ∧ w'.cell? ⟨w7.heap.size, 2, none⟩ = some (.slice va us.length vc) ∧ w'.cell? ⟨w7.heap.size, 3, none⟩ = some (.int .i64 (0)) ∧ w'.cell? ⟨r, 2, none⟩ = some (.slice wa vs.length wc)) := fun zw hz => by
              have h7z := below_then b78 hz
              obtain ⟨d1, d2, d3, d4, d5⟩ := HDl.out
              refine (beginning_true (hvr.off (Off.of_below (P := fun _ => False) h7z) (fun _ _ => id)) (hvl.off (Off.of_below (P := fun _ => False) h7z) (fun _ _ => id)) (hpc.below h7z) (hpl.below h7z) (by omega) (fun i d hd => by rw [List.getElem?_take] at hd; split at hd; exact hd; cases hd) (by omega) d2).mono ?_
              rintro e w' ⟨he, hb⟩
              have hb' := below_then hz hb
              exact ⟨he, hb', below_cell hb' (p8 2), below_cell hb' (p8 3), below_cell (below_then b78 hb') hr2⟩
            have HSt : Hid (∀ z, Below W8.heap.size W8 z → Calls Tryd.prog 12 #[.pointer (some ⟨L', 0, none⟩)] z fun e w' => e = .returned (.agg #[.int .u64 1, .int .i64 1, .int .i64 (n : Int), .int .i64 0, .int .i64 wh]) ∧ Below W8.heap.size W8 w') := fun z hz => by
              have := lStat (hlg.below (below_then b78 hz))
              rw [HDl.out.1] at this
              exact this.mono fun e w' ⟨he, hb⟩ => ⟨he, below_then hz hb⟩
            have HBW : Hid (Below w.heap.size w W8) := below_then hbw b78
            have f2 : W8.cell? ⟨w7.heap.size, 2, none⟩ = some (.slice va us.length vc) := p8 2
            have f3 : W8.cell? ⟨w7.heap.size, 3, none⟩ = some (.int .i64 (0)) := p8 3
            have f4 := below_cell b78 hr2
            have hB8 : Below W8.heap.size W8 W8 := Below.refl _ _
            have HUN : Hid (us.length = n) := hun
            have hunI : (us.length : Int) = (n : Int) := by omega
            clear hlg hvr hpc hbw hr2 hvl hpl hW8 b78 p8 HOp hun
            go_wp2_with fail
            rw [HW8.out]
            go_region_held3 (fun zw => zw.cell? ⟨w7.heap.size, 2, none⟩ = some (.slice va us.length vc) ∧ zw.cell? ⟨w7.heap.size, 3, none⟩ = some (.int .i64 (0)) ∧ zw.cell? ⟨r, 2, none⟩ = some (.slice wa vs.length wc)) (simp [*]) (first | (go_at_call 17; refine (HBg.out _ ?_).mono ?_; (first | assumption | exact Below.drew (by assumption)); rintro e wp ⟨rfl, hp1, k1, k2, k3⟩))
            all_goals
              have qf1 := field_rec
              have qf2 := field_wait
              go_wp2_with fail
              refine (HSt.out _ hp1).mono ?_
              rintro e wq ⟨rfl, hq1⟩
              go_wp2_with fail
              refine (HSt.out _ hq1).mono ?_
              rintro e wq2 ⟨rfl, hq2⟩
              go_wp2_with fail
              go_ret
              exact ⟨rfl, below_then HBW.out hq2⟩
          | false =>
            have c0 := HK.out.1.r0
            go_wp2_with fail
            refine (HCr.out _ _ ?_ ?_).mono ?_
            · rfl
            · rfl
            rintro e w3 ⟨rfl, hC⟩
            have c0 := hC.r0
            have HOp : Hid (Calls Tryd.prog 14 #[.pointer (some ⟨K, 0, none⟩)] w3 (CtO w r rs (rs.take n) v vs (left + (z : Int)))) := by
              have hts := HK.out.2.2
              have hdd := HDd.out
              have := ct_open (k := k) (z := z) hC HB.out.2.2 HK.out.2.1 HK.out.1.gd (by omega) (by omega) (by omega)
              unfold Hid
              simpa using this
            have HDl : Hid ((rs.take n).length = n ∧ (∀ d ∈ rs.take n, d.length ≤ 16777216) ∧ vs.length = rs.length ∧ rs.length ≤ 8388608 ∧ n ≤ rs.length) := by
              have h1 := HK.out.2.1.nl
              have h2 := len_sizes rs
              have h3 := HK.out.2.2
              exact ⟨by rw [List.length_take]; omega, fun d hd => by have := (HK.out.1.gd d (List.mem_of_mem_take hd)).2.1; omega, HK.out.1.pc.1, by omega, h1⟩
            clear hC
            go_wp2_with fail
            refine HOp.out.mono ?_
            rintro e w7 ⟨B', K', L', u0, u1, σ', wh, a, nn, kk, v2, us, rfl, hlg, hvr, hpc, hbw, hr2, hvl, hpl⟩
            obtain ⟨va, vc, hv2, _⟩ := hvr.isSlice
            subst hv2
            obtain ⟨wa, wc, hv1, _⟩ := hvl.isSlice
            subst hv1
            have hun : us.length = n := by have := hpc.1; have := HDl.out.1; omega
            obtain ⟨W8, hW8⟩ : ∃ W, w7.alloc (.cells #[.int .u64 1, .slice a nn kk, .slice va us.length vc, .int .i64 (left + (z : Int))] 44) = W := ⟨_, rfl⟩
            have HW8 : Hid (w7.alloc (.cells #[.int .u64 1, .slice a nn kk, .slice va us.length vc, .int .i64 (left + (z : Int))] 44) = W8) := hW8
            have b78 : Below w7.heap.size w7 W8 := by rw [← hW8]; exact (Below.refl _ _).alloc (Nat.le_refl _) _
            have p8 : ∀ q, W8.cell? ⟨w7.heap.size, q, none⟩ = (#[Value.int .u64 1, .slice a nn kk, .slice va us.length vc, .int .i64 (left + (z : Int))] : Array Value)[q]? := fun q => by rw [← hW8]; exact World.cell?_alloc_new _ _ _ _
            have HBg : Hid (∀ zw, Below W8.heap.size W8 zw → Calls Tryd.prog 17 #[.slice va us.length vc, .slice wa vs.length wc] zw fun e w' => e = .returned (.bool true) ∧ Below W8.heap.size W8 w' ∧ w'.cell? ⟨w7.heap.size, 2, none⟩ = some (.slice va us.length vc) ∧ w'.cell? ⟨w7.heap.size, 3, none⟩ = some (.int .i64 (left + (z : Int))) ∧ w'.cell? ⟨r, 2, none⟩ = some (.slice wa vs.length wc)) := fun zw hz => by
              have h7z := below_then b78 hz
              obtain ⟨d1, d2, d3, d4, d5⟩ := HDl.out
              refine (beginning_true (hvr.off (Off.of_below (P := fun _ => False) h7z) (fun _ _ => id)) (hvl.off (Off.of_below (P := fun _ => False) h7z) (fun _ _ => id)) (hpc.below h7z) (hpl.below h7z) (by omega) (fun i d hd => by rw [List.getElem?_take] at hd; split at hd; exact hd; cases hd) (by omega) d2).mono ?_
              rintro e w' ⟨he, hb⟩
              have hb' := below_then hz hb
              exact ⟨he, hb', below_cell hb' (p8 2), below_cell hb' (p8 3), below_cell (below_then b78 hb') hr2⟩
            have HSt : Hid (∀ z, Below W8.heap.size W8 z → Calls Tryd.prog 12 #[.pointer (some ⟨L', 0, none⟩)] z fun e w' => e = .returned (.agg #[.int .u64 1, .int .i64 1, .int .i64 (n : Int), .int .i64 0, .int .i64 wh]) ∧ Below W8.heap.size W8 w') := fun z hz => by
              have := lStat (hlg.below (below_then b78 hz))
              rw [HDl.out.1] at this
              exact this.mono fun e w' ⟨he, hb⟩ => ⟨he, below_then hz hb⟩
            have HBW : Hid (Below w.heap.size w W8) := below_then hbw b78
            have f2 : W8.cell? ⟨w7.heap.size, 2, none⟩ = some (.slice va us.length vc) := p8 2
            have f3 : W8.cell? ⟨w7.heap.size, 3, none⟩ = some (.int .i64 (left + (z : Int))) := p8 3
            have f4 := below_cell b78 hr2
            have hB8 : Below W8.heap.size W8 W8 := Below.refl _ _
            have HUN : Hid (us.length = n) := hun
            have hunI : (us.length : Int) = (n : Int) := by omega
            clear hlg hvr hpc hbw hr2 hvl hpl hW8 b78 p8 HOp hun
            have hlf : left ≤ 20013 := by
              obtain ⟨rr, hrr, hlr⟩ := HK.out.2.1.ff rfl
              have := (HK.out.1.gd rr (List.mem_of_getElem? hrr)).2.1
              omega
            have s4 : IntKind.i64.wrap (left + (z : Int)) = left + (z : Int) := by
              have hts := HK.out.2.2
              exact wrap_id (by omega) (by have := HDd.out; omega)
            go_wp2_with fail
            rw [HW8.out]
            go_region_held3 (fun zw => zw.cell? ⟨w7.heap.size, 2, none⟩ = some (.slice va us.length vc) ∧ zw.cell? ⟨w7.heap.size, 3, none⟩ = some (.int .i64 (left + (z : Int))) ∧ zw.cell? ⟨r, 2, none⟩ = some (.slice wa vs.length wc)) (simp [*]) (first | (go_at_call 17; refine (HBg.out _ ?_).mono ?_; (first | assumption | exact Below.drew (by assumption)); rintro e wp ⟨rfl, hp1, k1, k2, k3⟩))
            all_goals
              have qf1 := field_rec
              have qf2 := field_wait
              go_wp2_with fail
              refine (HSt.out _ hp1).mono ?_
              rintro e wq ⟨rfl, hq1⟩
              go_wp2_with fail
              refine (HSt.out _ hq1).mono ?_
              rintro e wq2 ⟨rfl, hq2⟩
              go_wp2_with fail
              go_ret
              exact ⟨rfl, below_then HBW.out hq2⟩
/-- The law, as its row hands the arguments. -/
theorem cuts_all {ao : Option Addr} {cap : Nat} {xs : List Blv} {keep zeros : Int} (w : World) (h : Bls w ao xs) (hn : xs.length ≤ maxLen) (hp : ∀ y ∈ xs, y.pl ≤ 140737488355328 ∧ (y.po = none → y.pc = 0) ∧ ∀ z ∈ y.bs, 0 ≤ z ∧ z ≤ 255) (hkw : IntKind.i64.wrap keep = keep) (hzw : IntKind.i64.wrap zeros = zeros) (hH : Halves w) :
    Calls Tryd.prog 5 #[.slice ao xs.length cap, .int .i64 keep, .int .i64 zeros] w fun e w' => e = .returned (.bool true) ∧ Below w.heap.size w w' :=
  cuts_law w h hn hp (wrapped_le hkw) (wrapped_le hzw) hH
end Go.Proofs.YtgminfbhaclbbaaDoor
