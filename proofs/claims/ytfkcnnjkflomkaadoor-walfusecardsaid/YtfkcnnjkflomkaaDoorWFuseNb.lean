/-
  The law WalFuse, walked: 5 ≤ n.
-/
import Derived.Test.YtfkcnnjkflomkaaDoorWFuseB
import Derived.BigQuiet
import Derived.Lib.SlBytesConst
namespace Go.Proofs.YtfkcnnjkflomkaaDoor
open Go.RowKit Go.BigFrame

set_option maxRecDepth 100000 in
set_option maxHeartbeats 32000000 in
theorem fuse_b {ao : Option Addr} {cap : Nat} {xs : List Blv} {sy n : Int} {po : Option Addr} {pl pc : Nat} {sn : List Int} {tk0 tz0 tk1 tz1 : Int} (w : World) (h : Bls w ao xs) (hn : xs.length ≤ maxLen) (hp : ∀ y ∈ xs, y.pl ≤ 140737488355328 ∧ (y.po = none → y.pc = 0) ∧ ∀ z ∈ y.bs, 0 ≤ z ∧ z ≤ 255) (hS : Byts w po pl sn) (hSo : po = none → pc = 0) (hSl : pl ≤ 140737488355328) (hSr : Rng sn) (hnw : n ≤ 9223372036854775807) (hH : Halves w) (hE : ErrType w) (hN : 5 ≤ n) :
    Calls Tryd.prog 6 #[.slice ao xs.length cap, .int .i64 sy, .slice po pl pc, .int .i64 n, .agg #[.int .i64 tk0, .int .i64 tz0, .int .i64 tk1, .int .i64 tz1]] w fun e w' => e = .returned (.bool true) ∧ Below w.heap.size w w' := by
  have pn : decide (n < 0) = false := decide_eq_false (by omega)
  have pn5 : decide (5 ≤ n) = true := decide_eq_true hN
  have pn4 : decide (4 ≤ n) = true := decide_eq_true (by omega)
  have pi5 : (5 : Int) ≤ n := hN
  have pi4 : (4 : Int) ≤ n := by omega
  have pi0 : ¬ n < 0 := by omega
  obtain ⟨W0, hW0⟩ : ∃ W, w.alloc (.cells #[.int .i64 tk0, .int .i64 tz0, .int .i64 tk1, .int .i64 tz1] 52) = W := ⟨_, rfl⟩
  have HW0 : Hid (w.alloc (.cells #[.int .i64 tk0, .int .i64 tz0, .int .i64 tk1, .int .i64 tz1] 52) = W0) := hW0
  have b0 : Below w.heap.size w W0 := by rw [← hW0]; exact (Below.refl _ _).alloc (Nat.le_refl _) _
  have HB0 : Hid (Below w.heap.size w W0) := b0
  have HT : Hid (∀ q u, (#[Value.int .i64 tk0, .int .i64 tz0, .int .i64 tk1, .int .i64 tz1] : Array Value)[q]? = some u → W0.cell? ⟨w.heap.size, q, none⟩ = some u) := fun q u hu => by rw [← hW0, ← hu]; exact World.cell?_alloc_new _ _ _ _
  have HB : Hid (Bls W0 ao xs ∧ (∀ y ∈ xs, y.pl ≤ 140737488355328 ∧ (y.po = none → y.pc = 0) ∧ ∀ z ∈ y.bs, 0 ≤ z ∧ z ≤ 255) ∧ Halves W0 ∧ ErrType W0 ∧ Byts W0 po pl sn ∧ Rng sn) := ⟨h.below b0, hp, hH.under' b0, errType_below hE b0, hS.below b0, hSr⟩
  have HSo : Hid (po = none → pc = 0) := hSo
  have HNm : Hid (xs.length ≤ maxLen) := hn
  have HG : Hid (Calls Tryd.prog 8 #[] W0 fun e w' => ∃ r K L, e = .returned (.tuple #[.pointer (some ⟨r, 0, none⟩), .bool true]) ∧ FzI W0 r K L [] [] 0 (.slice none 0 0) [] w') := fz_start W0 HB.out.2.2.1
  obtain ⟨N, hxl⟩ : ∃ n, xs.length = n := ⟨_, rfl⟩
  have HN : Hid (xs.length = N) := hxl
  rw [hxl] at hn ⊢
  unfold maxLen at hn
  have hni : (N : Int) ≤ 9223372036854775807 := by omega
  clear h hp hxl hH hn hS hSo hSr hE b0 hW0
  go_enter Tryd.func6, Tryd.ntmps6
  go_wp2_with fail
  rw [HW0.out]
  refine HG.out.mono ?_
  rintro e w1 ⟨r, K, L, rfl, hI⟩
  have HI : Hid (FzI W0 r K L [] [] 0 (.slice none 0 0) [] w1) := hI
  clear hI HG
  by_cases hl : 2097152 < pl
  · have hli : (2097152 : Int) < pl := by omega
    have hl' : decide ((2097152 : Int) < pl) = true := decide_eq_true hli
    go_wp2_with fail
    go_ret
    exact ⟨rfl, below_then HB0.out HI.out.bl⟩
  have hli : ¬ (2097152 : Int) < pl := by omega
  have hl' : decide ((2097152 : Int) < pl) = false := decide_eq_false hli
  have HSn2 : Hid (pl ≤ 2097152) := Nat.le_of_not_lt hl
  have HSn : Hid (sn.length ≤ 2097152) := by have := HB.out.2.2.2.2.1.len; unfold Hid; omega
  have HSh : Hid (Calls Tryd.prog 9 #[.slice ao N cap] w1 (ShQ xs w1)) := by
    have := short_any (cap := cap) w1 (HB.out.1.below HI.out.bl) HNm.out (fun y hy => (HB.out.2.1 y hy).1)
    rw [HN.out] at this
    exact this
  go_wp2_with fail
  refine HSh.out.mono ?_
  rintro e w2 ⟨q, rfl, hq, rfl⟩
  clear HSh
  cases q with
  | false =>
    go_wp2_with fail
    go_ret
    exact ⟨rfl, below_then HB0.out HI.out.bl⟩
  | true =>
    have HTot : Hid (tot xs ≤ 4194304) := hq rfl
    clear hq
    go_wp2_with fail
    go_loopw [13] (fun t13 wx => ∃ (j : Nat) (rs : List (List Int)) (ps : Nat) (v : Value) (vs : List Value), j ≤ N ∧ t13 = .int .i64 j ∧ Hid (FzI W0 r K L rs rs ps v vs wx ∧ sizes rs ≤ tot (xs.take j))) (fun t13 _ => N - (intOf t13).toNat)
    case atStart => exact ⟨0, [], 0, .slice none 0 0, [], by omega, rfl, HI.out, by simp [sizes]⟩
    case round =>
      obtain ⟨j, rs, ps, v, vs, hj, rfl, HK⟩ := hrel
      by_cases hlt : j < N
      · have hlti : (j : Int) < N := by omega
        obtain ⟨y, hy⟩ : ∃ y, xs[j]? = some y := ⟨_, List.getElem?_eq_getElem (by have := HN.out; omega)⟩
        obtain ⟨b, off, rfl, hl2, hc, hby⟩ := HB.out.1 j y hy
        have hpl := HB.out.2.1 y (List.mem_of_getElem? hy)
        have HTt : Hid (tot (xs.take (j + 1)) = tot (xs.take j) + y.pl + 13 ∧ tot (xs.take (j + 1)) ≤ 4194304) := ⟨tot_snoc hy, Nat.le_trans (tot_le _ _) HTot.out⟩
        have c1 : wr.cell? ⟨b, off + j, none⟩ = some (.slice y.po y.pl y.pc) := (HK.out.1.bl.cell (p := ⟨b, off + j, none⟩) hl2).trans hc
        have HC1 : Hid (W0.cell? ⟨b, off + j, none⟩ = some (.slice y.po y.pl y.pc)) := hc
        have HBy : Hid (Byts W0 y.po y.pl y.bs ∧ (y.po = none → y.pc = 0) ∧ Rng y.bs) := ⟨hby, hpl.2.1, hpl.2.2⟩
        have hpi : (y.pl : Int) ≤ 140737488355328 := by have := hpl.1; omega
        obtain ⟨qo, ql, qc, bs⟩ := y
        simp only at c1 HBy hpi HTt HC1
        clear hy hl2 hc hby hpl
        by_cases g0 : ql = 0
        · subst g0
          go_wp2_with fail
          go_roundw
          case rel => exact ⟨j + 1, rs, ps, v, vs, by omega, by go_num, HK.out.1, by have := HK.out.2; have := HTt.out.1; omega⟩
          case measure => simp [intOf]; omega
        have g0' : ((ql : Int) == 0) = false := by simp [g0]
        by_cases g1 : 20000 < ql
        · have g1' : decide ((20000 : Int) < ql) = true := decide_eq_true (by omega)
          have g1i : (20000 : Int) < ql := by omega
          go_wp2_with fail
          go_roundw
          case rel => exact ⟨j + 1, rs, ps, v, vs, by omega, by go_num, HK.out.1, by have := HK.out.2; have := HTt.out.1; omega⟩
          case measure => simp [intOf]; omega
        have g1' : decide ((20000 : Int) < ql) = false := decide_eq_false (by omega)
        have g1i : ¬ (20000 : Int) < ql := by omega
        have c2 := HK.out.1.r1
        have HLen : Hid (bs.length = ql) := HBy.out.1.len
        have HAp : Hid (∀ zw, Below wr.heap.size wr zw → Calls Tryd.prog 10 #[.pointer (some ⟨L, 0, none⟩), .slice qo ql qc] zw fun e w' => e = .returned .nilIface ∧ Hid (FzI W0 r K L (rs ++ [bs]) rs ps v vs w') ∧ w'.cell? ⟨r, 1, none⟩ = some (.pointer (some ⟨L, 0, none⟩)) ∧ w'.cell? ⟨b, off + j, none⟩ = some (.slice qo ql qc)) := fun zw hz => by
          refine (fz_append (HK.out.1.below hz) HBy.out.1 HBy.out.2.2 HBy.out.2.1 HB.out.2.2.1 (by omega) (by omega) (by have := HK.out.2; have := HTt.out; omega)).mono ?_
          rintro e w' ⟨he, hi⟩
          exact ⟨he, hi, hi.r1, below_cell hi.bl HC1.out⟩
        have hBr : Below wr.heap.size wr wr := Below.refl _ _
        go_wp2_with fail
        go_region_held3 (fun zw => zw.cell? ⟨r, 1, none⟩ = some (.pointer (some ⟨L, 0, none⟩)) ∧ zw.cell? ⟨b, off + j, none⟩ = some (.slice qo ql qc)) (simp [*]) (first | (go_at_call 10; refine (HAp.out _ ?_).mono ?_; (first | assumption | exact Below.drew (by assumption)); rintro e w3 ⟨rfl, HI3, d1, d2⟩))
        all_goals
          have d3 := HI3.out.r2
          have d4 : ∀ o, (w3.alloc o).cell? ⟨r, 2, none⟩ = some v := fun o => (World.cell?_alloc_lt _ _ ⟨r, 2, none⟩ (cell_lt d3)).trans d3
          have d5 : ∀ o, (w3.alloc o).cell? ⟨b, off + j, none⟩ = some (.slice qo ql qc) := fun o => (World.cell?_alloc_lt _ _ ⟨b, off + j, none⟩ (cell_lt d2)).trans d2
          clear HAp c1 c2 hBr
          go_wp2_with fail
          go_region_law ((first | (refine fz_step (wx := w3) (wy := w3.drew) (v := v) ?_ (.tmp 74) (.tmp 79) ?_ ?_ ?_ ?_ ((Below.refl _ _).drew) ?_ HI3.out HBy.out.1 HBy.out.2.1 ?_; rfl; rfl; rfl; rfl; rfl; rfl) | (refine fz_step (wx := w3) (wy := w3) (v := v) ?_ (.tmp 74) (.tmp 79) ?_ ?_ ?_ ?_ (Below.refl _ _) ?_ HI3.out HBy.out.1 HBy.out.2.1 ?_; rfl; rfl; rfl; rfl; rfl; rfl)); intro a2 n2 k2 w9 e2 z2 HF)
          all_goals
            obtain ⟨W9, hW9⟩ : ∃ W, w9.setCell ⟨r, 2, none⟩ (.slice a2 n2 k2) = W := ⟨_, rfl⟩
            have HI9 : Hid (FzI W0 r K L (rs ++ [bs]) (rs ++ [bs]) ps (.slice a2 n2 k2) (vs ++ [.slice qo ql qc]) W9) := by rw [← hW9]; exact HF.out
            have HSz9 : Hid (sizes (rs ++ [bs]) ≤ tot (xs.take (j + 1))) := by have h1 := HK.out.2; have h2 := HLen.out; have h3 := HTt.out.1; rw [sizes_snoc]; unfold Hid at *; omega
            rw [hW9]
            clear HF hW9 e2 z2 d1 d2 d3 d4 d5 HI3
            by_cases hsy : (j : Int) = sy
            · have hsy' : ((j : Int) == sy) = true := by simp [hsy]
              have c9 := HI9.out.r1
              have HSy : Hid (Calls Tryd.prog 11 #[.pointer (some ⟨L, 0, none⟩)] W9 fun e w' => ∃ m : Int, e = .returned (.tuple #[.int .i64 m, .nilIface]) ∧ FzI W0 r K L (rs ++ [bs]) (rs ++ [bs]) (rs ++ [bs]).length (.slice a2 n2 k2) (vs ++ [.slice qo ql qc]) w') := (fz_sync HI9.out).mono fun e w' ⟨he, hi⟩ => ⟨_, he, hi⟩
              go_wp2_with fail
              refine HSy.out.mono ?_
              rintro e w10 ⟨m, rfl, hI10⟩
              go_wp2_with fail
              go_roundw
              case rel => exact ⟨j + 1, rs ++ [bs], _, _, _, by omega, by go_num, hI10, HSz9.out⟩
              case measure => simp [intOf]; omega
            · have hsy' : ((j : Int) == sy) = false := by simp [hsy]
              go_wp2_with fail
              go_roundw
              case rel => exact ⟨j + 1, rs ++ [bs], _, _, _, by omega, by go_num, HI9.out, HSz9.out⟩
              case measure => simp [intOf]; omega
      · have hlti : ¬ (j : Int) < N := by omega
        have HSz : Hid (sizes rs ≤ 4194304) := Nat.le_trans HK.out.2 (Nat.le_trans (tot_le xs j) HTot.out)
        have HGd : Hid (∀ d ∈ rs, 1 ≤ d.length ∧ d.length ≤ 20000 ∧ Rng d) := HK.out.1.gd
        have c1 := HK.out.1.r1
        obtain ⟨wt, hwt⟩ : ∃ m, rs.length - ps = m := ⟨_, rfl⟩
        have HWt : Hid (rs.length - ps = wt) := hwt
        have HSt : Hid (Calls Tryd.prog 12 #[.pointer (some ⟨L, 0, none⟩)] wr fun e w' => e = .returned (.agg #[.int .u64 1, .int .i64 1, .int .i64 rs.length, .int .i64 (wt : Int), .int .i64 ((30 + sizes rs : Nat) : Int)]) ∧ FzI W0 r K L rs rs ps v vs w') := by
          rw [← hwt]
          exact fz_stat HK.out.1
        have qf := fz_field
        clear HK hwt
        go_wp2_with fail
        refine HSt.out.mono ?_
        rintro e w2 ⟨rfl, hI2⟩
        have c0 := hI2.r0
        have HFu : Hid (Calls Tryd.prog 18 #[.pointer (some ⟨K, 0, none⟩), .int .i64 n] w2 fun e w' => e = .returned (.tuple #[]) ∧ FzU W0 r K L rs ps n v vs w') := fz_fuse hI2 (by omega)
        clear hI2 HSt c1
        by_cases hw : 0 < wt
        · have hwi : (0 : Int) < wt := by omega
          have hwd : decide ((0 : Int) < wt) = true := decide_eq_true hwi
          have HPS : Hid (ps < rs.length) := by have := HWt.out; unfold Hid; omega
          go_wp2_with fail
          refine HFu.out.mono ?_
          rintro e w3 ⟨rfl, hU⟩
          have c1 := hU.r1
          have HCo : Hid (Calls Tryd.prog 13 #[.pointer (some ⟨L, 0, none⟩), .slice po pl pc] w3 (FzQ W0 r K L rs ps n sn v vs w3)) := fz_compact hU HB.out.2.2.2.2.1 HSo.out HB.out.2.2.1 (by omega)
          clear hU
          go_wp2_with fail
          refine HCo.out.mono ?_
          rintro e w4 ⟨ev, dd, x0, x1, s0, s1, rfl, hA, hD, hev⟩
          clear HCo HFu c1
          rcases fz_done hA with ⟨hdd, hdn⟩ | ⟨hdd, hd0, hd1⟩
          · subst hdd
            obtain rfl : ev = .nilIface := by
              rcases hev with ⟨_, h⟩ | ⟨h, _⟩
              · exact h
              · cases h
            have HA : Hid (FzA rs sn ps n x0 x1 s0 s1 false) := hA
            have HAl : Hid (Calls Tryd.prog 19 #[.pointer (some ⟨K, 0, none⟩)] w4 fun e w' => e = .returned (.bool true) ∧ w' = w4) := fz_alive hD
            have c0 := hD.r0
            clear hA hev
            go_wp2_with fail
            refine HAl.out.mono ?_
            rintro e w5 ⟨rfl, rfl⟩
            clear HAl c0
            have c0 := hD.r0
            have t0 := below_cell hD.bl (HT.out 0 _ rfl)
            have t1 := below_cell hD.bl (HT.out 1 _ rfl)
            have t2 := below_cell hD.bl (HT.out 2 _ rfl)
            have t3 := below_cell hD.bl (HT.out 3 _ rfl)
            have HCr : Hid (∀ zw, Below w5.heap.size w5 zw → Calls Tryd.prog 16 #[.pointer (some ⟨K, 0, none⟩), .agg #[.int .i64 tk0, .int .i64 tz0, .int .i64 tk1, .int .i64 tz1]] zw fun e w' => e = .returned (.tuple #[]) ∧ Hid (∃ y0 y1 na ns nc, CrI W0 r K ⟨y0, y1, y0.length, y1.length, false, -1, na, ns, nc⟩ rs v vs w' ∧ FzY rs sn ps n y0 y1) ∧ w'.cell? ⟨r, 0, none⟩ = some (.pointer (some ⟨K, 0, none⟩)) ∧ w'.cell? ⟨w.heap.size, 0, none⟩ = some (.int .i64 tk0) ∧ w'.cell? ⟨w.heap.size, 1, none⟩ = some (.int .i64 tz0) ∧ w'.cell? ⟨w.heap.size, 2, none⟩ = some (.int .i64 tk1) ∧ w'.cell? ⟨w.heap.size, 3, none⟩ = some (.int .i64 tz1)) := fun zw hz => by
              have hsz := HSz.out
              have hsn := HSn.out
              refine (fz_crash (hD.below hz) HA.out (by omega) hsn tk0 tz0 tk1 tz1).mono ?_
              rintro e w' ⟨he, y0, y1, na, ns, nc, hcr, hy⟩
              exact ⟨he, ⟨y0, y1, na, ns, nc, hcr, hy⟩, hcr.r0, below_cell hcr.bl (HT.out 0 _ rfl), below_cell hcr.bl (HT.out 1 _ rfl), below_cell hcr.bl (HT.out 2 _ rfl), below_cell hcr.bl (HT.out 3 _ rfl)⟩
            have hBv : Below w5.heap.size w5 w5 := Below.refl _ _
            clear hD
            go_wp2_with fail
            go_region_held3 (fun zw => zw.cell? ⟨r, 0, none⟩ = some (.pointer (some ⟨K, 0, none⟩)) ∧ zw.cell? ⟨w.heap.size, 0, none⟩ = some (.int .i64 tk0) ∧ zw.cell? ⟨w.heap.size, 1, none⟩ = some (.int .i64 tz0) ∧ zw.cell? ⟨w.heap.size, 2, none⟩ = some (.int .i64 tk1) ∧ zw.cell? ⟨w.heap.size, 3, none⟩ = some (.int .i64 tz1)) (simp [*]) (first | (go_at_call 16; refine (HCr.out _ ?_).mono ?_; (first | assumption | exact Below.drew (by assumption)); rintro e w6 ⟨rfl, HC6, q0, q1, q2, q3, q4⟩))
            all_goals
              have HOp : Hid (Calls Tryd.prog 14 #[.pointer (some ⟨K, 0, none⟩)] w6 (FzO W0 r rs sn ps n v vs)) := by
                obtain ⟨y0, y1, na, ns, nc, hcr, hy⟩ := HC6.out
                have hsz := HSz.out
                exact fz_open hcr hy HB.out.2.2.1 HGd.out (by omega) HSn.out HB.out.2.2.2.2.2
              clear HCr HC6 c0 t0 t1 t2 t3 q1 q2 q3 q4 hBv
              go_wp2_with fail
              refine HOp.out.mono ?_
              rintro e w7 ⟨g, L', a, nn, kk, v2, us, sg, ds, tn, rfl, hnn, hby, hvr, hpc, hbw, hr2, hvl, hpl, hcase⟩
              obtain ⟨va, vc, hv2, _⟩ := hvr.isSlice
              subst hv2
              obtain ⟨wa, wc, hv1, _⟩ := hvl.isSlice
              subst hv1
              clear HOp q0
              rcases hcase with ⟨hg, hsg, hds, hcn⟩ | ⟨hg, hsg, hc1, hc2, hds⟩
              · subst hg
                have hus : us = [] := List.length_eq_zero_iff.1 (by have := hpc.1; rw [hds] at this; simpa using this)
                obtain rfl : nn = pl := by rw [hnn, hsg]; exact HB.out.2.2.2.2.1.len
                rw [hsg] at hby
                clear hsg
                subst hus
                obtain ⟨W8, hW8⟩ : ∃ W, w7.alloc (.cells #[.int .u64 2, .slice a nn kk, .slice va 0 vc, .int .i64 tn] 44) = W := ⟨_, rfl⟩
                have HW8 : Hid (w7.alloc (.cells #[.int .u64 2, .slice a nn kk, .slice va 0 vc, .int .i64 tn] 44) = W8) := hW8
                have b78 : Below w7.heap.size w7 W8 := by rw [← hW8]; exact (Below.refl _ _).alloc (Nat.le_refl _) _
                have p8 : ∀ q, W8.cell? ⟨w7.heap.size, q, none⟩ = (#[Value.int .u64 2, .slice a nn kk, .slice va 0 vc, .int .i64 tn] : Array Value)[q]? := fun q => by rw [← hW8]; exact World.cell?_alloc_new _ _ _ _
                have HBW : Hid (Below w.heap.size w W8) := below_then HB0.out (below_then hbw b78)
                have f0 := p8 0
                have f1 := p8 1
                have f2 := p8 2
                simp at f0 f1 f2
                have HSm : Hid (Calls Tryd.prog 15 #[.slice a nn kk, .slice po nn pc] W8 fun e w' => e = .returned (.bool true) ∧ Below W8.heap.size W8 w' ∧ w'.cell? ⟨w7.heap.size, 0, none⟩ = some (.int .u64 2) ∧ w'.cell? ⟨w7.heap.size, 2, none⟩ = some (.slice va 0 vc)) := by
                  refine (same_true (hby.below b78) (HB.out.2.2.2.2.1.below (below_then hbw b78)) (by have := HSn2.out; omega)).mono ?_
                  rintro e w' ⟨he, m, rfl⟩
                  have hb : Below W8.heap.size W8 (W8.drewN m) := ((Off.refl (fun _ => False) W8).drewN _).below (Nat.le_refl _) (fun _ g => g.elim)
                  exact ⟨he, hb, below_cell hb f0, below_cell hb f2⟩
                clear hby hvr hpc hbw hr2 hvl hpl hW8 b78 p8 hnn hds hcn
                go_wp2_with fail
                rw [HW8.out]
                refine HSm.out.mono ?_
                rintro e w9 ⟨rfl, hb9, g0, g2⟩
                have HB9 : Hid (Below w.heap.size w w9) := below_then HBW.out hb9
                clear hb9 f0 f1 f2 HSm
                go_wp2_with fail
                go_quiet (fail)
                all_goals
                  go_wp2_with fail
                  go_ret
                  exact ⟨rfl, (by first | exact HB9.out | exact HB9.out.drew | exact fz_drewN HB9.out _)⟩
              · rw [if_pos HPS.out] at hc2
                omega
          · rw [if_pos HPS.out] at hd1
            omega
        · obtain rfl : wt = 0 := by omega
          have HPS : Hid (¬ ps < rs.length) := by have := HWt.out; unfold Hid; omega
          go_wp2_with fail
          refine HFu.out.mono ?_
          rintro e w3 ⟨rfl, hU⟩
          have c1 := hU.r1
          have HCo : Hid (Calls Tryd.prog 13 #[.pointer (some ⟨L, 0, none⟩), .slice po pl pc] w3 (FzQ W0 r K L rs ps n sn v vs w3)) := fz_compact hU HB.out.2.2.2.2.1 HSo.out HB.out.2.2.1 (by omega)
          clear hU
          go_wp2_with fail
          refine HCo.out.mono ?_
          rintro e w4 ⟨ev, dd, x0, x1, s0, s1, rfl, hA, hD, hev⟩
          clear HCo HFu c1
          rcases fz_done hA with ⟨hdd, hdn⟩ | ⟨hdd, hd0, hd1⟩
          · subst hdd
            obtain rfl : ev = .nilIface := by
              rcases hev with ⟨_, h⟩ | ⟨h, _⟩
              · exact h
              · cases h
            have HA : Hid (FzA rs sn ps n x0 x1 s0 s1 false) := hA
            have HAl : Hid (Calls Tryd.prog 19 #[.pointer (some ⟨K, 0, none⟩)] w4 fun e w' => e = .returned (.bool true) ∧ w' = w4) := fz_alive hD
            have c0 := hD.r0
            clear hA hev
            go_wp2_with fail
            refine HAl.out.mono ?_
            rintro e w5 ⟨rfl, rfl⟩
            clear HAl c0
            have c0 := hD.r0
            have t0 := below_cell hD.bl (HT.out 0 _ rfl)
            have t1 := below_cell hD.bl (HT.out 1 _ rfl)
            have t2 := below_cell hD.bl (HT.out 2 _ rfl)
            have t3 := below_cell hD.bl (HT.out 3 _ rfl)
            have HCr : Hid (∀ zw, Below w5.heap.size w5 zw → Calls Tryd.prog 16 #[.pointer (some ⟨K, 0, none⟩), .agg #[.int .i64 tk0, .int .i64 tz0, .int .i64 tk1, .int .i64 tz1]] zw fun e w' => e = .returned (.tuple #[]) ∧ Hid (∃ y0 y1 na ns nc, CrI W0 r K ⟨y0, y1, y0.length, y1.length, false, -1, na, ns, nc⟩ rs v vs w' ∧ FzY rs sn ps n y0 y1) ∧ w'.cell? ⟨r, 0, none⟩ = some (.pointer (some ⟨K, 0, none⟩)) ∧ w'.cell? ⟨w.heap.size, 0, none⟩ = some (.int .i64 tk0) ∧ w'.cell? ⟨w.heap.size, 1, none⟩ = some (.int .i64 tz0) ∧ w'.cell? ⟨w.heap.size, 2, none⟩ = some (.int .i64 tk1) ∧ w'.cell? ⟨w.heap.size, 3, none⟩ = some (.int .i64 tz1)) := fun zw hz => by
              have hsz := HSz.out
              have hsn := HSn.out
              refine (fz_crash (hD.below hz) HA.out (by omega) hsn tk0 tz0 tk1 tz1).mono ?_
              rintro e w' ⟨he, y0, y1, na, ns, nc, hcr, hy⟩
              exact ⟨he, ⟨y0, y1, na, ns, nc, hcr, hy⟩, hcr.r0, below_cell hcr.bl (HT.out 0 _ rfl), below_cell hcr.bl (HT.out 1 _ rfl), below_cell hcr.bl (HT.out 2 _ rfl), below_cell hcr.bl (HT.out 3 _ rfl)⟩
            have hBv : Below w5.heap.size w5 w5 := Below.refl _ _
            clear hD
            go_wp2_with fail
            go_region_held3 (fun zw => zw.cell? ⟨r, 0, none⟩ = some (.pointer (some ⟨K, 0, none⟩)) ∧ zw.cell? ⟨w.heap.size, 0, none⟩ = some (.int .i64 tk0) ∧ zw.cell? ⟨w.heap.size, 1, none⟩ = some (.int .i64 tz0) ∧ zw.cell? ⟨w.heap.size, 2, none⟩ = some (.int .i64 tk1) ∧ zw.cell? ⟨w.heap.size, 3, none⟩ = some (.int .i64 tz1)) (simp [*]) (first | (go_at_call 16; refine (HCr.out _ ?_).mono ?_; (first | assumption | exact Below.drew (by assumption)); rintro e w6 ⟨rfl, HC6, q0, q1, q2, q3, q4⟩))
            all_goals
              have HOp : Hid (Calls Tryd.prog 14 #[.pointer (some ⟨K, 0, none⟩)] w6 (FzO W0 r rs sn ps n v vs)) := by
                obtain ⟨y0, y1, na, ns, nc, hcr, hy⟩ := HC6.out
                have hsz := HSz.out
                exact fz_open hcr hy HB.out.2.2.1 HGd.out (by omega) HSn.out HB.out.2.2.2.2.2
              clear HCr HC6 c0 t0 t1 t2 t3 q1 q2 q3 q4 hBv
              go_wp2_with fail
              refine HOp.out.mono ?_
              rintro e w7 ⟨g, L', a, nn, kk, v2, us, sg, ds, tn, rfl, hnn, hby, hvr, hpc, hbw, hr2, hvl, hpl, hcase⟩
              obtain ⟨va, vc, hv2, _⟩ := hvr.isSlice
              subst hv2
              obtain ⟨wa, wc, hv1, _⟩ := hvl.isSlice
              subst hv1
              clear HOp q0
              rcases hcase with ⟨hg, hsg, hds, hcn⟩ | ⟨hg, hsg, hc1, hc2, hds⟩
              · subst hg
                have hus : us = [] := List.length_eq_zero_iff.1 (by have := hpc.1; rw [hds] at this; simpa using this)
                obtain rfl : nn = pl := by rw [hnn, hsg]; exact HB.out.2.2.2.2.1.len
                rw [hsg] at hby
                clear hsg
                subst hus
                obtain ⟨W8, hW8⟩ : ∃ W, w7.alloc (.cells #[.int .u64 2, .slice a nn kk, .slice va 0 vc, .int .i64 tn] 44) = W := ⟨_, rfl⟩
                have HW8 : Hid (w7.alloc (.cells #[.int .u64 2, .slice a nn kk, .slice va 0 vc, .int .i64 tn] 44) = W8) := hW8
                have b78 : Below w7.heap.size w7 W8 := by rw [← hW8]; exact (Below.refl _ _).alloc (Nat.le_refl _) _
                have p8 : ∀ q, W8.cell? ⟨w7.heap.size, q, none⟩ = (#[Value.int .u64 2, .slice a nn kk, .slice va 0 vc, .int .i64 tn] : Array Value)[q]? := fun q => by rw [← hW8]; exact World.cell?_alloc_new _ _ _ _
                have HBW : Hid (Below w.heap.size w W8) := below_then HB0.out (below_then hbw b78)
                have f0 := p8 0
                have f1 := p8 1
                have f2 := p8 2
                simp at f0 f1 f2
                have HSm : Hid (Calls Tryd.prog 15 #[.slice a nn kk, .slice po nn pc] W8 fun e w' => e = .returned (.bool true) ∧ Below W8.heap.size W8 w' ∧ w'.cell? ⟨w7.heap.size, 0, none⟩ = some (.int .u64 2) ∧ w'.cell? ⟨w7.heap.size, 2, none⟩ = some (.slice va 0 vc)) := by
                  refine (same_true (hby.below b78) (HB.out.2.2.2.2.1.below (below_then hbw b78)) (by have := HSn2.out; omega)).mono ?_
                  rintro e w' ⟨he, m, rfl⟩
                  have hb : Below W8.heap.size W8 (W8.drewN m) := ((Off.refl (fun _ => False) W8).drewN _).below (Nat.le_refl _) (fun _ g => g.elim)
                  exact ⟨he, hb, below_cell hb f0, below_cell hb f2⟩
                clear hby hvr hpc hbw hr2 hvl hpl hW8 b78 p8 hnn hds hcn
                go_wp2_with fail
                rw [HW8.out]
                refine HSm.out.mono ?_
                rintro e w9 ⟨rfl, hb9, g0, g2⟩
                have HB9 : Hid (Below w.heap.size w w9) := below_then HBW.out hb9
                clear hb9 f0 f1 f2 HSm
                go_wp2_with fail
                go_quiet (fail)
                all_goals
                  go_wp2_with fail
                  go_ret
                  exact ⟨rfl, (by first | exact HB9.out | exact HB9.out.drew | exact fz_drewN HB9.out _)⟩
              · rw [if_neg HPS.out] at hc2
                omega
          · rw [if_neg HPS.out] at hd1
            omega
end Go.Proofs.YtfkcnnjkflomkaaDoor
