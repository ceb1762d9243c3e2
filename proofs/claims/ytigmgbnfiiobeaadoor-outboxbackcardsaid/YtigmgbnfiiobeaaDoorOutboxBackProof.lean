import Derived.Test.YtigmgbnfiiobeaaDoorOxHeads2
import Derived.Test.YtigmgbnfiiobeaaDoorOxBack0
import Derived.Test.YtigmgbnfiiobeaaDoorOxOpenP
import Derived.Test.YtigmgbnfiiobeaaDoorOxOpenM
import Derived.Test.YtigmgbnfiiobeaaDoorOxSpec
import Derived.Carry
/-
  The law OutboxBack, walked.
-/
namespace Go.Proofs.YtigmgbnfiiobeaaDoor
open Go.RowKit

set_option maxRecDepth 100000 in
set_option maxHeartbeats 8000000 in
theorem back_law (ao : Option Addr) (cap : Nat) (xs : List Msg) (sq : Bool) (tr : Int) (ap : Option Addr) (capp : Nat) (ys : List (Opv × Int)) (W : World) (hV : PVc W) (ho : Outs W ao xs) (hpx : ∀ x ∈ xs, Plain x) (hlx : xs.length ≤ 140737488355328) (hp : Picks W ap ys) (hl : ys.length ≤ 140737488355328) (hw : ∀ y ∈ ys, y.1.tn ≤ 140737488355328) :
    Calls Tryd.prog 3 #[.agg #[.slice ao xs.length cap, .bool sq, .int .i64 tr], .slice ap ys.length capp] W fun e w' => e = .returned (.bool true) ∧ Below W.heap.size W w' := by
  obtain ⟨n, hn⟩ : ∃ n, ys.length = n := ⟨_, rfl⟩
  have HN : Hid (ys.length = n) := hn
  rw [hn] at hl ⊢
  clear hn
  obtain ⟨nx, hnx⟩ : ∃ n, xs.length = n := ⟨_, rfl⟩
  have HNX : Hid (xs.length = nx) := hnx
  rw [hnx] at hlx ⊢
  clear hnx
  have HO : Hid (PVc W ∧ Outs W ao xs ∧ (∀ x ∈ xs, Plain x) ∧ nx ≤ 140737488355328 ∧ Picks W ap ys ∧ ∀ y ∈ ys, y.1.tn ≤ 140737488355328) := ⟨hV, ho, hpx, hlx, hp, hw⟩
  clear ho hpx hlx hp hV hw
  have bv : Below W.heap.size W (W.alloc (.cells #[.slice ao nx cap, .bool sq, .int .i64 tr] 24)) := (Below.refl _ _).alloc (Nat.le_refl _) _
  have bx := Box.new W #[.slice ao nx cap, .bool sq, .int .i64 tr] 24
  go_enter Tryd.func3, Tryd.ntmps3
  go_wp2_with fail
  obtain ⟨V, hV⟩ : ∃ V, W.alloc (.cells #[.slice ao nx cap, .bool sq, .int .i64 tr] 24) = V := ⟨_, rfl⟩
  rw [hV] at bv bx ⊢
  clear hV
  have HB : Hid (Below W.heap.size W V ∧ Box V W.heap.size #[.slice ao nx cap, .bool sq, .int .i64 tr]) := ⟨bv, bx⟩
  have HM : Hid (∀ w, Below V.heap.size V w → w.cell? ⟨W.heap.size, 1, none⟩ = some (.bool sq) ∧ w.cell? ⟨W.heap.size, 2, none⟩ = some (.int .i64 tr)) := fun w hb => ⟨(HB.out.2.below hb).cell 1, (HB.out.2.below hb).cell 2⟩
  clear bv bx
  refine (heads_true V (HO.out.1.below HB.out.1)).mono ?_
  rintro _ w0 ⟨rfl, b0⟩
  have cx := (HB.out.2.below b0).cell
  have HB0 : Hid (Below V.heap.size V w0) := b0
  have hld := load_any sq tr ao cap xs w0 (HO.out.1.below (below_then HB.out.1 b0)) (HO.out.2.1.below (below_then HB.out.1 b0)) HO.out.2.2.1 (by rw [HNX.out]; exact HO.out.2.2.2.1)
  rw [HNX.out] at hld
  clear b0
  go_wp2_with fail
  refine hld.mono ?_
  rintro e w1 hQ
  clear hld cx
  rcases hQ with ⟨⟨z, rfl⟩, _, hb1⟩ | ⟨b, kb, v0, ms0, rfl, L0, hW0, hG0⟩
  · have HB1 : Hid (Below W.heap.size W w1) := below_then (below_then HB.out.1 HB0.out) hb1
    clear hb1
    go_wp2_with fail
    go_ret
    exact ⟨rfl, HB1.out⟩
  have HI0 : Hid (BbI V b kb sq tr w1) := ⟨v0, ms0, L0.rebase HB0.out, good_bk hG0 HO.out.2.2.1 hW0⟩
  have HT : Hid (0 ≤ tr ∧ tr ≤ 16) := ⟨hG0.t0, hG0.t1⟩
  clear L0 hW0 hG0 HB0
  go_wp2_with fail
  go_loopw [7] (fun ti wx => ∃ k : Nat, k ≤ n ∧ ti = .int .i64 k ∧ Hid (BbI V b kb sq tr wx)) (fun ti _ => n - (intOf ti).toNat)
  case atStart => exact ⟨0, Nat.zero_le _, rfl, HI0⟩
  case round =>
    obtain ⟨k, hk, rfl, HR⟩ := hrel
    clear HI0
    by_cases hlt : k < n
    · have hlt1 : (k : Int) < n := by omega
      obtain ⟨y, hy⟩ : ∃ y, ys[k]? = some y := ⟨_, List.getElem?_eq_getElem (by rw [HN.out]; exact hlt)⟩
      obtain ⟨pb, off, rfl, hat⟩ := HO.out.2.2.2.2.1 k y hy
      have hyn := HO.out.2.2.2.2.2 y (List.mem_of_getElem? hy)
      have hatV := hat.below HB.out.1
      have HD : Hid (∀ z, Below wr.heap.size wr z → Calls Tryd.prog 6 #[.pointer (some ⟨b, 0, none⟩), .agg #[.int .i64 y.1.kd, .string y.1.ct, .slice y.1.tp y.1.tn y.1.tc, .bool y.1.e, .int .i64 y.1.a, .int .i64 y.1.p, .string y.1.cd, .int .i64 y.1.n], .int .i64 y.2] z fun e w' => ∃ d n c dn, e = .returned (.tuple #[.slice d n c, .bool dn]) ∧ Hid (BbI V b kb sq tr w')) := fun z hz =>
        bb_does HR.out (HO.out.1.below HB.out.1) y.1 y.2 hatV.1.p hatV.1.q hyn hz
      obtain ⟨v, ms, L, _⟩ := HR.out
      have hP1 := hatV.below L.bel
      obtain ⟨⟨lp, c0, c1, c2, c3, c4, c5, c6, c7, _, _⟩, c8⟩ := hP1
      clear L hat hatV hyn hy
      clear HO HR HM
      go_wp2_with fail
      go_region_law (go_simp; go_at_call 6; refine (HD.out _ ?_).mono ?_; (first | exact Below.refl _ _ | exact Below.drew (Below.refl _ _)); rintro _ w2 ⟨d, dn1, dc, dn, rfl, HX⟩)
      all_goals
        clear HD c0 c1 c2 c3 c4 c5 c6 c7 c8 lp
        go_wp2_with fail
        go_roundw
        case rel => exact ⟨k + 1, hlt, by go_num, HX⟩
        case measure => simp [intOf]; omega
    · have hlt1 : ¬ (k : Int) < n := by omega
      obtain ⟨v, ms, L, hK⟩ := HR.out
      have HL : Hid (Li V wr b kb v sq tr ms ∧ Bk sq ms) := ⟨L, hK⟩
      clear L hK HR
      go_wp2_with fail
      refine (list_any HL.out.1.bx).mono ?_
      rintro _ w2 ⟨ls, la, lc, rfl, hr, hc, b2⟩
      have L2 := HL.out.1.below b2
      have HK : Hid (Bk sq ms ∧ ms.length ≤ 32 ∧ ∀ m ∈ ms, m.tn ≤ 8192) := ⟨HL.out.2, L2.bx.2.1.2.2, fun m hm => (L2.bx.2.2 m hm).2⟩
      obtain ⟨N, hNN⟩ : ∃ N, ms.length = N := ⟨_, rfl⟩
      rw [hNN] at hr ⊢
      have HC0 : Hid (CpI V la N lc ls ms (.slice none 0 0) 0 w2) := ⟨ERow.base hr HL.out.1.bel.size, hc, by simpa using ERow.nil _ _ _ _ _, L2.bel⟩
      have HLN : Hid (ms.length = N) := hNN
      clear hr hc b2 L2 HL hNN
      go_wp2_with fail
      go_loopw [8, 10] (fun t8 t10 wx => ∃ (i : Nat) (sa : Option Addr) (sn sc : Nat), i ≤ N ∧ t8 = .slice sa sn sc ∧ t10 = .int .i64 i ∧ Hid (CpI V la N lc ls ms (.slice sa sn sc) i wx)) (fun _ t10 _ => N - (intOf t10).toNat)
      case atStart => exact ⟨0, none, 0, 0, Nat.zero_le _, rfl, rfl, HC0⟩
      case round =>
        obtain ⟨i, sa, sn, sc, hi, rfl, rfl, HC⟩ := hrel
        clear HC0
        by_cases hil : i < N
        · have hil1 : (i : Int) < N := by omega
          have h32 : N ≤ 32 := by have := HK.out.2.1; have := HLN.out; omega
          obtain ⟨m, hm⟩ : ∃ m, ls[i]? = some m := ⟨_, List.getElem?_eq_getElem (by have := HC.out.cps.1; have := HLN.out; omega)⟩
          obtain ⟨wg, rfl, lg, wcell⟩ := ERow.at_ encM_len HC.out.row hm
          have r0 := wcell 0 (by decide)
          have r1 := wcell 1 (by decide)
          have r2 := wcell 2 (by decide)
          have r3 := wcell 3 (by decide)
          have r4 := wcell 4 (by decide)
          have r5 := wcell 5 (by decide)
          have r6 := wcell 6 (by decide)
          simp [encM] at r0 r1 r2 r3 r4 r5 r6
          obtain ⟨a2, c2', W2, hap, e2, o2, _⟩ := run_epush (P := Tryd.prog) (t := 22) Tryd.underlying22 celO encO_len encO_one (w := wr) HC.out.out m #[.string m.ct, .slice m.tp m.tn m.tc, .bool m.e, .int .i64 m.a, .int .i64 m.p, .int .i64 m.nu, .bool m.nt] rfl (by rw [List.length_take]; omega) (by decide) HC.out.bel.size
          have HZ : Hid (CpI V (some ⟨wg, 0, none⟩) N lc ls ms (.slice a2 ((ls.take i).length + 1) c2') (i + 1) W2) := HC.out.push hm e2 o2
          obtain ⟨sl, hslq⟩ : ∃ q, (ls.take i).length + 1 = q := ⟨_, rfl⟩
          rw [hslq] at hap HZ
          clear e2 o2 hslq wcell hm HC
          go_wp2_with (at_builtin; refine wpList_append_run rfl (.tmp 63) (.tmp 69) 22 _ rfl hap ?_)
          go_roundw
          case rel => exact ⟨i + 1, a2, sl, c2', hil, rfl, by go_num, HZ⟩
          case measure => simp [intOf]; omega
        · have hil1 : ¬ (i : Int) < N := by omega
          obtain rfl : i = N := by omega
          obtain ⟨oa, oc, eo, hout⟩ := HC.out.outs
          simp only [Value.slice.injEq] at eo
          obtain ⟨rfl, rfl, rfl⟩ := eo
          have hgd : Good sq tr (ls.map pl) := good_of HK.out.1 HK.out.2.1 HT.out.1 HT.out.2 (cps_lk HC.out.cps)
          have hld := load_any sq tr sa sc (ls.map pl) wr (HO.out.1.below (below_then HB.out.1 HC.out.bel)) hout (pl_plain ls) (by have := hgd.len; omega)
          obtain ⟨ol, hol⟩ : ∃ q, (ls.map pl).length = q := ⟨_, rfl⟩
          rw [hol] at hld HC ⊢
          have HG : Hid (Good sq tr (ls.map pl)) := hgd
          have hm1 := (HM.out _ HC.out.bel).1
          have hm2 := (HM.out _ HC.out.bel).2
          clear hgd hout hol
          go_wp2_with fail
          refine hld.mono ?_
          rintro e w3 hQ
          clear hld hm1 hm2
          rcases hQ with ⟨_, hng, _⟩ | ⟨bc, kc, vc, mc, rfl, Lc, hWc, _⟩
          · exact absurd HG.out hng
          have HLC : Hid (Li wr w3 bc kc vc sq tr mc ∧ Wis mc (ls.map pl)) := ⟨Lc, hWc⟩
          clear Lc hWc
          go_wp2_with fail
          refine (list_any HLC.out.1.bx).mono ?_
          rintro _ w4 ⟨ks, ka, kcap, rfl, hr4, hc4, b4⟩
          have hmcl : mc.length = i := by have h1 := HLC.out.2.1; rw [List.length_map] at h1; have h2 := ERow.len HC.out.row; omega
          rw [hmcl] at hr4 ⊢
          have HCK : Hid (CkI V la i lc ls ms ka kcap ks mc bc kc sq tr w4) := by
            have bb := below_then HLC.out.1.bel b4
            refine ⟨ERow.below HC.out.row bb, HC.out.cps.below bb, ERow.base hr4 ?_, hc4, ⟨vc, (HLC.out.1.below b4).rebase HC.out.bel⟩, HLC.out.2, HK.out.2.2⟩
            exact Nat.le_trans HC.out.bel.size HLC.out.1.bel.size
          clear hr4 hc4 b4
          go_wp2_with fail
          go_loopw [14] (fun ti wx => ∃ j : Nat, j ≤ i ∧ ti = .int .i64 j ∧ Hid (CkI V la i lc ls ms ka kcap ks mc bc kc sq tr wx)) (fun ti _ => i - (intOf ti).toNat)
          case atStart => exact ⟨0, Nat.zero_le _, rfl, HCK⟩
          case round =>
            obtain ⟨j, hj, rfl, HQ⟩ := hrel
            clear HCK
            by_cases hjl : j < i
            · have hjl1 : (j : Int) < i := by omega
              have h32 : i ≤ 32 := by have := HK.out.2.1; have := HLN.out; omega
              obtain ⟨m, kg, lg, a1, c1, a2, c2, rfl, rfl, kcell, lcell, HS⟩ := HQ.out.at_ hjl
              have p0 := kcell 0 (by decide)
              have p1 := kcell 1 (by decide)
              have p2 := kcell 2 (by decide)
              have p3 := kcell 3 (by decide)
              have p4 := kcell 4 (by decide)
              have p5 := kcell 5 (by decide)
              have p6 := kcell 6 (by decide)
              have p7 := kcell 7 (by decide)
              have p8 := kcell 8 (by decide)
              have p9 := kcell 9 (by decide)
              have q0 := lcell 0 (by decide)
              have q1 := lcell 1 (by decide)
              have q2 := lcell 2 (by decide)
              have q3 := lcell 3 (by decide)
              have q4 := lcell 4 (by decide)
              have q5 := lcell 5 (by decide)
              have q6 := lcell 6 (by decide)
              simp [encM, pl] at p0 p1 p2 p3 p4 p5 p6 p7 p8 p9 q0 q1 q2 q3 q4 q5 q6
              clear kcell lcell
              go_upto_region 25 with fail
              go_cut [126] from 93 to 126 (fun t wx => t = .bool false ∧ Hid (CkI V (some ⟨lg, 0, none⟩) i lc ls ms (some ⟨kg, 0, none⟩) kcap ks mc bc kc sq tr wx))
              case first =>
                clear HO HM HB HQ HC HG HLC HK
                have klt : kg < wr.heap.size := cell_lt p0
                have llt : lg < wr.heap.size := cell_lt q0
                have gs : ∀ {z : World}, Below wr.heap.size wr z → z.cell? ⟨kg, j * 10, none⟩ = some (.string m.ct) ∧ z.cell? ⟨kg, j * 10 + 1, none⟩ = some (.slice a1 m.tn c1) ∧ z.cell? ⟨kg, j * 10 + 2, none⟩ = some (.bool m.e) ∧ z.cell? ⟨kg, j * 10 + 3, none⟩ = some (.int .i64 m.a) ∧ z.cell? ⟨kg, j * 10 + 4, none⟩ = some (.int .i64 m.p) ∧ z.cell? ⟨kg, j * 10 + 5, none⟩ = some (.int .i64 m.nu) ∧ z.cell? ⟨kg, j * 10 + 6, none⟩ = some (.bool m.nt) ∧ z.cell? ⟨kg, j * 10 + 7, none⟩ = some (.int .i64 0) ∧ z.cell? ⟨kg, j * 10 + 8, none⟩ = some (.int .i64 0) ∧ z.cell? ⟨kg, j * 10 + 9, none⟩ = some (.bool false) ∧ z.cell? ⟨lg, j * 10, none⟩ = some (.string m.ct) ∧ z.cell? ⟨lg, j * 10 + 1, none⟩ = some (.slice a2 m.tn c2) ∧ z.cell? ⟨lg, j * 10 + 2, none⟩ = some (.bool m.e) ∧ z.cell? ⟨lg, j * 10 + 3, none⟩ = some (.int .i64 m.a) ∧ z.cell? ⟨lg, j * 10 + 4, none⟩ = some (.int .i64 m.p) ∧ z.cell? ⟨lg, j * 10 + 5, none⟩ = some (.int .i64 m.nu) ∧ z.cell? ⟨lg, j * 10 + 6, none⟩ = some (.bool m.nt) := fun {z} hz => ⟨(hz.cell (p := ⟨kg, j * 10, none⟩) klt).trans p0, (hz.cell (p := ⟨kg, j * 10 + 1, none⟩) klt).trans p1, (hz.cell (p := ⟨kg, j * 10 + 2, none⟩) klt).trans p2, (hz.cell (p := ⟨kg, j * 10 + 3, none⟩) klt).trans p3, (hz.cell (p := ⟨kg, j * 10 + 4, none⟩) klt).trans p4, (hz.cell (p := ⟨kg, j * 10 + 5, none⟩) klt).trans p5, (hz.cell (p := ⟨kg, j * 10 + 6, none⟩) klt).trans p6, (hz.cell (p := ⟨kg, j * 10 + 7, none⟩) klt).trans p7, (hz.cell (p := ⟨kg, j * 10 + 8, none⟩) klt).trans p8, (hz.cell (p := ⟨kg, j * 10 + 9, none⟩) klt).trans p9, (hz.cell (p := ⟨lg, j * 10, none⟩) llt).trans q0, (hz.cell (p := ⟨lg, j * 10 + 1, none⟩) llt).trans q1, (hz.cell (p := ⟨lg, j * 10 + 2, none⟩) llt).trans q2, (hz.cell (p := ⟨lg, j * 10 + 3, none⟩) llt).trans q3, (hz.cell (p := ⟨lg, j * 10 + 4, none⟩) llt).trans q4, (hz.cell (p := ⟨lg, j * 10 + 5, none⟩) llt).trans q5, (hz.cell (p := ⟨lg, j * 10 + 6, none⟩) llt).trans q6⟩
                clear klt llt
                go_region_held3 (fun z => z.cell? ⟨kg, j * 10, none⟩ = some (.string m.ct) ∧ z.cell? ⟨kg, j * 10 + 1, none⟩ = some (.slice a1 m.tn c1) ∧ z.cell? ⟨kg, j * 10 + 2, none⟩ = some (.bool m.e) ∧ z.cell? ⟨kg, j * 10 + 3, none⟩ = some (.int .i64 m.a) ∧ z.cell? ⟨kg, j * 10 + 4, none⟩ = some (.int .i64 m.p) ∧ z.cell? ⟨kg, j * 10 + 5, none⟩ = some (.int .i64 m.nu) ∧ z.cell? ⟨kg, j * 10 + 6, none⟩ = some (.bool m.nt) ∧ z.cell? ⟨kg, j * 10 + 7, none⟩ = some (.int .i64 0) ∧ z.cell? ⟨kg, j * 10 + 8, none⟩ = some (.int .i64 0) ∧ z.cell? ⟨kg, j * 10 + 9, none⟩ = some (.bool false) ∧ z.cell? ⟨lg, j * 10, none⟩ = some (.string m.ct) ∧ z.cell? ⟨lg, j * 10 + 1, none⟩ = some (.slice a2 m.tn c2) ∧ z.cell? ⟨lg, j * 10 + 2, none⟩ = some (.bool m.e) ∧ z.cell? ⟨lg, j * 10 + 3, none⟩ = some (.int .i64 m.a) ∧ z.cell? ⟨lg, j * 10 + 4, none⟩ = some (.int .i64 m.p) ∧ z.cell? ⟨lg, j * 10 + 5, none⟩ = some (.int .i64 m.nu) ∧ z.cell? ⟨lg, j * 10 + 6, none⟩ = some (.bool m.nt)) ((refine gs ?_; (repeat' (first | (with_reducible exact Below.refl _ _) | (with_reducible exact Hid.out (by assumption)) | (with_reducible refine Below.drew ?_))))) ((go_at_call 8; refine (HS.out _ ?_).mono ?_; (first | exact Below.refl _ _ | exact Below.drew (Below.refl _ _)); rintro _ w5 ⟨rfl, hb5, HX⟩))
                all_goals
                  go_wp2_with fail
                  go_meet
                  exact ⟨rfl, HX⟩
              case rest =>
                obtain ⟨rfl, HX⟩ := hcut
                clear HS p0 p1 p2 p3 p4 p5 p6 p7 p8 p9 q0 q1 q2 q3 q4 q5 q6
                go_wp2_with fail
                go_roundw
                case rel => exact ⟨j + 1, hjl, by go_num, HX⟩
                case measure => simp [intOf]; omega
            · have hjl1 : ¬ (j : Int) < i := by omega
              have HF0 : Hid (FnI V bc kc sq tr i 0 wr) := by
                obtain ⟨v, L⟩ := HQ.out.li
                have hb := good_bk HG.out (pl_plain ls) HLC.out.2
                have hl : mc.length = i := by have h1 := HLC.out.2.1; rw [List.length_map] at h1; have h2 := ERow.len HQ.out.lr; omega
                refine ⟨v, mc, L, ?_⟩
                rw [← hl]
                refine Fn.start hb fun m hm => ?_
                obtain ⟨q, hq, e⟩ := List.getElem_of_mem hm
                obtain ⟨x, hx⟩ : ∃ x, (ls.map pl)[q]? = some x := ⟨_, List.getElem?_eq_getElem (by rw [← HLC.out.2.1]; exact hq)⟩
                obtain ⟨a9, c9, e9⟩ := HLC.out.2.2 q m x (by rw [List.getElem?_eq_getElem hq, e]) hx
                rw [e9]
                exact (pl_plain ls x (List.mem_of_getElem? hx)).2.2
              have h32 : i ≤ 32 := by have := HK.out.2.1; have := HLN.out; omega
              clear HQ HC HG HLC HK HLN
              go_wp2_with fail
              go_loopw [15, 16] (fun t15 t16 wx => ∃ q : Nat, q ≤ i ∧ t15 = .int .i64 q ∧ t16 = .int .i64 q ∧ Hid (FnI V bc kc sq tr i q wx)) (fun _ t16 _ => i - (intOf t16).toNat)
              case atStart => exact ⟨0, Nat.zero_le _, rfl, rfl, HF0⟩
              case round =>
                obtain ⟨q, hq, rfl, rfl, HF⟩ := hrel
                clear HF0
                by_cases hql : q < i
                · have hql1 : (q : Int) < i := by omega
                  obtain ⟨v, msx, L, hfn⟩ := HF.out
                  have HL : Hid (Li V wr bc kc v sq tr msx ∧ Fn sq i q msx) := ⟨L, hfn⟩
                  rcases hfn.st with ⟨h1, h2⟩ | ⟨rfl, h1, h2⟩
                  · obtain ⟨m, hnm⟩ := next_some (sq := sq) (ms := msx) (by omega) h2
                    have HNM : Hid (nextS sq msx = some m) := hnm
                    have hnx := nextC_yes L.bx hnm
                    clear h1 h2 hnm L hfn HF
                    go_wp2_with fail
                    refine hnx.mono ?_
                    rintro _ w5 ⟨a5, c5, rfl, _, b5⟩
                    have HB5 : Hid (Below wr.heap.size wr (w5.alloc (.cells #[.string m.ct, .slice a5 m.tn c5, .bool m.e, .int .i64 m.a, .int .i64 m.p, .int .i64 m.nu, .bool m.nt] 45)) ∧ wr.heap.size ≤ w5.heap.size) := ⟨b5.alloc b5.size _, b5.size⟩
                    have bx5 := Box.new w5 #[.string m.ct, .slice a5 m.tn c5, .bool m.e, .int .i64 m.a, .int .i64 m.p, .int .i64 m.nu, .bool m.nt] 45
                    have hm1 := fun o => (HM.out (w5.alloc o) (HL.out.1.below (b5.alloc b5.size o)).bel).1
                    have HFG : Hid (FgI V bc kc sq tr i q m.ct w5.heap.size (w5.alloc (.cells #[.string m.ct, .slice a5 m.tn c5, .bool m.e, .int .i64 m.a, .int .i64 m.p, .int .i64 m.nu, .bool m.nt] 45)) ∨ (sq = true ∧ m.nu = 0)) := by
                      by_cases hz : (sq && (m.nu == 0)) = false
                      · exact Or.inl (fg_of HL.out.1 HB5.out.1 HL.out.2 HNM.out hz (bx5.cell 0) HB5.out.2)
                      · refine Or.inr ?_
                        rw [Bool.not_eq_false] at hz
                        simpa using hz
                    have HGV : Hid (sq = true → m.nu = 0 → Calls Tryd.prog 10 #[.pointer (some ⟨bc, 0, none⟩), .int .i64 1] (w5.alloc (.cells #[.string m.ct, .slice a5 m.tn c5, .bool m.e, .int .i64 m.a, .int .i64 m.p, .int .i64 m.nu, .bool m.nt] 45)) fun e w' => e = .returned .nilIface ∧ Hid (FgI V bc kc sq tr i q m.ct w5.heap.size w')) := fun h1 _ => by
                      subst h1
                      exact fg_give HL.out.1 HB5.out.1 HL.out.2 HNM.out (bx5.cell 0) HB5.out.2
                    clear hnx b5 bx5
                    go_upto_region 32 with fail
                    go_cut [153] from 127 to 194 (fun t wx => t = .bool false ∧ Hid (FgI V bc kc sq tr i q m.ct w5.heap.size wx))
                    case first =>
                      clear HO HB HM HL HNM HB5
                      by_cases hs : sq = true
                      · subst hs
                        by_cases hz : m.nu = 0
                        · have hgv := HGV.out rfl hz
                          have hz1 : (m.nu == 0) = true := by simpa using hz
                          clear HFG HGV hz
                          go_wp2_with fail
                          refine hgv.mono ?_
                          rintro _ w6 ⟨rfl, HX⟩
                          clear hgv
                          go_wp2_with fail
                          go_meet
                          exact ⟨rfl, HX⟩
                        · have hz1 : (m.nu == 0) = false := by simpa using hz
                          have HX : Hid (FgI V bc kc true tr i q m.ct w5.heap.size (w5.alloc (.cells #[.string m.ct, .slice a5 m.tn c5, .bool m.e, .int .i64 m.a, .int .i64 m.p, .int .i64 m.nu, .bool m.nt] 45))) := HFG.out.resolve_right fun g => hz g.2
                          clear HFG HGV hz
                          go_wp2_with fail
                          go_meet
                          exact ⟨rfl, HX⟩
                      · obtain rfl : sq = false := by simpa using hs
                        have HX : Hid (FgI V bc kc false tr i q m.ct w5.heap.size (w5.alloc (.cells #[.string m.ct, .slice a5 m.tn c5, .bool m.e, .int .i64 m.a, .int .i64 m.p, .int .i64 m.nu, .bool m.nt] 45))) := HFG.out.resolve_right fun g => hs g.1
                        clear HFG HGV hs
                        go_wp2_with fail
                        go_meet
                        exact ⟨rfl, HX⟩
                    case rest =>
                      obtain ⟨rfl, HX⟩ := hcut
                      clear HFG HGV hm1 HL HNM HB5
                      go_wp2_with fail
                      refine (fg_go HX.out (HO.out.1.below HB.out.1) HT.out.1 HT.out.2).mono ?_
                      rintro _ w6 ⟨dg, dl, dc, hl3, rfl, d0, d1, d2, HF6⟩
                      have hl1 : (0 : Int) < dl := by omega
                      have hl2 : ((dl : Int) == 0) = false := by simp; omega
                      clear HX
                      go_wp2_with fail
                      go_quiet (fail)
                      go_wp2_with fail
                      go_roundw
                      case rel => exact ⟨q + 1, hql, by go_num, by go_num, HF6.out _⟩
                      case measure => simp [intOf]; omega
                  · have hnx := nextC_no L.bx h2
                    have hq0 : (q : Int) > 0 := by omega
                    clear h1 h2 L hfn HF
                    go_wp2_with fail
                    refine hnx.mono ?_
                    rintro _ w5 ⟨a5, c5, rfl, _, b5⟩
                    have HB5 : Hid (∀ o, Below W.heap.size W (w5.alloc o)) := fun o => below_then HB.out.1 (HL.out.1.below (b5.alloc b5.size o)).bel
                    have hm1 := fun o => (HM.out (w5.alloc o) (HL.out.1.below (b5.alloc b5.size o)).bel).1
                    clear hnx b5 HL
                    go_wp2_with fail
                    go_ret
                    exact ⟨congrArg (fun b => Ending.returned (.bool b)) (decide_eq_true (p := 0 < q) (by omega)), HB5.out _⟩
                · have hql1 : ¬ (q : Int) < i := by omega
                  obtain ⟨v, msx, L, _⟩ := HF.out
                  have HB9 : Hid (Below W.heap.size W wr) := below_then HB.out.1 L.bel
                  clear L HF
                  go_wp2_with fail
                  go_ret
                  exact ⟨rfl, HB9.out⟩
end Go.Proofs.YtigmgbnfiiobeaaDoor

/-
  OutboxBack: the row out of its walk.
-/
namespace Go.Proofs.YtigmgbnfiiobeaaDoor.outboxBack
open Go.ChangeShapes Go.WideShapes Go.ChangeAt Go.RowKit

theorem laidOut : laidOutB Tryd.prog = true := by kernel_rfl
theorem given {W : World} (h : laidMetH Tryd.prog Rows.outboxBackRow.laid W) : PVc W := codes_of (show laidMet Tryd.prog [("courier/decide.codes", Rows.laid_courier_decide_codes)] W from h)
theorem trod_block {H : Type} {enc : TypeId × Value → H} {P : Program} {W : World} {base : Nat} {spare : Nat → Bool} {held : Bool} {t : TypeId} {v : Value} {d : DataW H} {ps : List MemPlace} (h : DataW.Trod enc P W base spare held t v d ps) : ∀ x ∈ ps, x.block < W.heap.size := by
  obtain ⟨fuel, hf⟩ := h
  exact fun x hx => DataW.trod_lt _ _ _ _ hf x hx
set_option maxRecDepth 100000 in
theorem contract (H : Type) (enc : TypeId × Value → H) (W : World) (base : Nat) (args : Array Value) (ds gs : List (DataW H)) (before : List MemPlace)
    (hval : ∀ (j : Nat) t v, Tryd.f3.params[j]? = some t → args[j]? = some v → Value.okWide Tryd.prog W .any base t v)
    (hW : DataW.Whole enc Tryd.prog Tryd.f3.params.toList Rows.outboxBackSpec.vars false W args.toList ds gs before)
    (hWt : (DataW.weightsEach Tryd.prog (Tryd.f3.params.toList ++ (OpenSpec.ofChange Rows.outboxBackSpec).bare.plain.varTypes Tryd.prog) (ds ++ gs)).all (· ≤ reachBytes) = true) (hL : laidMetH Tryd.prog Rows.outboxBackRow.laid W) :
    Calls Tryd.prog 3 args W fun e W' => ∃ v, e = .returned v ∧ Rows.outboxBackSpec.post enc Tryd.prog Tryd.f3 false true false false W args v W' := by
  have hW' := hW
  obtain ⟨p, q, hA0, hV, rfl, hfz, hnd⟩ := hW
  have hA : DataW.TrodAll enc Tryd.prog W 0 (fun _ => true) true Tryd.f3.params.toList args.toList ds p := hA0
  rw [Tryd.params3] at hA hval hWt
  obtain ⟨v0, vs0, d0, ds0, p0, q0, hargs, rfl, rfl, h0, r0⟩ := trodAll_cons hA
  obtain ⟨v1, vs1, d1, ds1, p1, q1, rfl, rfl, rfl, h1, r1⟩ := trodAll_cons r0
  obtain ⟨rfl, rfl, rfl⟩ := trodAll_nil r1
  obtain rfl : args = #[v0, v1] := by cases args; simp_all
  obtain ⟨rfl, rfl⟩ := trodVars_none hV
  have ht0 := h0
  obtain ⟨ao0, cap0, xs0, sq0, tr0, rfl, hO0, hP0, hL0⟩ := open_made (hval 0 24 v0 rfl rfl) h0
  have hy0 : xs0.length ≤ 140737488355328 := hL0 fun n hn => by
    have hm : n ∈ DataW.weightsEach Tryd.prog ([24, 25] ++ (OpenSpec.ofChange Rows.outboxBackSpec).bare.plain.varTypes Tryd.prog) ([d0, d1] ++ []) := DataW.weights_mem_each (j := 0) (t := 24) (d := d0) rfl rfl _ hn
    simpa using List.all_eq_true.1 hWt n hm
  have ht1 := h1
  obtain ⟨a1, l1, c1, rfl⟩ := okWide_slice Tryd.underlying25 (hval 1 25 v1 rfl rfl)
  obtain ⟨fu1, hf1⟩ := h1
  obtain ⟨ao1, cap1, xs1, e1, hO1, hz1, hp1⟩ := open_picks hf1
  obtain ⟨rfl, rfl, rfl⟩ : a1 = ao1 ∧ l1 = xs1.length ∧ c1 = cap1 := by simpa [Value.cells] using e1
  have hy1 : xs1.length ≤ 140737488355328 := by
    rcases hz1 with h | ⟨el, sp, e, h⟩
    · omega
    · have := sized_slice hWt (j := 1) rfl (congrArg some e) Tryd.underlying25
      have hr : reachBytes = 140737488351232 := rfl
      rw [show Tryd.prog.bytesOf 41 = 104 by kernel_rfl] at this
      omega
  have hq1 : ∀ y ∈ xs1, y.1.tn ≤ 140737488355328 := fun y hy => hp1 y hy fun n hn => by
    have hm : n ∈ DataW.weightsEach Tryd.prog ([24, 25] ++ (OpenSpec.ofChange Rows.outboxBackSpec).bare.plain.varTypes Tryd.prog) ([d0, d1] ++ []) := DataW.weights_mem_each (j := 1) (t := 25) (d := d1) rfl rfl _ hn
    simpa using List.all_eq_true.1 hWt n hm
  clear hA0
  refine (back_law ao0 cap0 xs0 sq0 tr0 a1 c1 xs1 W (given hL) hO0 hP0 hy0 hO1 hy1 hq1).mono fun e W' ⟨he, hg⟩ => ?_
  subst he
  have e1 : Rows.outboxBackSpec.fn H ([d0, d1] ++ []) = { results := [.lit (.bool true)], args := [d0, d1] } := by simp [Rows.outboxBackSpec]
  refine ⟨_, rfl, _, _, _, [], (p0 ++ (p1 ++ [])), [], hW', ?_, ?_, ?_, hg.frame _, fun h => by cases h⟩
  · rw [e1]; exact trodAll_cons_mk (shut_bool Tryd.underlying4 true) trodAll_mk0
  · rw [e1]; exact trodAll_cons_mk (Below.trod laidOut (show Tryd.prog.readableRec 24 = true by kernel_rfl) (show 24 < Tryd.prog.types.size by rw [typesSize]; decide) ht0 hg (trod_block ht0)) (trodAll_cons_mk (Below.trod laidOut (show Tryd.prog.readableRec 25 = true by kernel_rfl) (show 25 < Tryd.prog.types.size by rw [typesSize]; decide) ht1 hg (trod_block ht1)) (trodAll_mk0))
  · rw [e1]; rfl
theorem reads (os : Os) {H : Type} (enc : TypeId × Value → H) : ∃ places, DataW.whole enc Tryd.prog ((World.doorLaid Tryd.prog 400 os).forCall (fun _ _ => 0) ⟨#[], #[.agg #[.slice none 0 0, .bool false, .int .i64 0], .slice none 0 0], []⟩).memory Tryd.f3.params.toList Rows.outboxBackSpec.vars false #[Value.agg #[.slice none 0 0, .bool false, .int .i64 0], Value.slice none 0 0].toList 8 = some ([.agg [.nil, .lit (.bool false), .lit (.int .i64 0)], .nil], [], places) :=
  ⟨[], by kernel_rfl⟩
theorem door_met (os : Os) : laidMetH Tryd.prog Rows.outboxBackRow.laid ((World.doorLaid Tryd.prog 400 os).forCall (fun _ _ => 0) ⟨#[], #[.agg #[.slice none 0 0, .bool false, .int .i64 0], .slice none 0 0], []⟩).memory :=
  laidMetH_of_parts3 (fuel := 8) (laidMet_of_run' 8 (by kernel_rfl) (by kernel_rfl)) (by kernel_rfl) (by kernel_rfl)
set_option maxRecDepth 100000 in
theorem lifted (os : Os) (started : os.Started) (H : Type) (enc : TypeId × Value → H) (F : Stop.Interp) :
    ReturnsInHanded {} Tryd.checked os 3 .any ((OpenSpec.ofChange Rows.outboxBackSpec).preRow enc Tryd.prog Tryd.f3 Rows.outboxBackRow.domain false Rows.outboxBackRow.laid) (((OpenSpec.ofChange Rows.outboxBackSpec).at F).post enc Tryd.prog Tryd.f3 false true false false) := by
  obtain ⟨places, hx⟩ := reads os enc
  refine returnsInHanded_of_row (C := Tryd.checked) (s := OpenSpec.ofChange Rows.outboxBackSpec) own started (by kernel_rfl) Tryd.func3
    (witness_row_at (enc := enc) (C := Tryd.checked) false (World.doorLaid Tryd.prog 400 os) #[.agg #[.slice none 0 0, .bool false, .int .i64 0], .slice none 0 0] rfl (by kernel_rfl) (by kernel_rfl) (by kernel_rfl)
      (OpenSpec.preRow_of_cond 8 hx (by kernel_rfl) (fun k hk => by cases hk) (by kernel_rfl) (door_met os))) ?_
  intro W base args ds gs before hval hW _ _ hWt hL _ _
  exact contract H enc W base args ds gs before hval hW hWt hL
theorem said : Rows.OutboxBackSaid :=
  OpenClaim.holds_of_cond 3 Tryd.f3 rfl rfl rfl rfl rfl rfl rfl ⟨rfl, rfl, rfl, rfl, rfl⟩ rfl rfl rfl rfl rfl (by kernel_rfl) Tryd.func3 (by kernel_rfl)
    (of_decide_eq_true (by kernel_rfl)) (by unfold Func.isWrapper; first | (rw [if_pos (by decide +kernel)]; kernel_rfl) | (rw [if_neg (by decide +kernel)]; exact ⟨rfl, rfl⟩))
    (fun os started H enc _ F => by rw [OpenClaim.pre_eq_preRow]; exact lifted os started H enc F)
theorem plain (f : FuncId) (fn : Func) (hf : Tryd.pinned.checked.prog.funcNamed "courier/courierlaw14.OutboxBack" = some f) (hfn : Tryd.pinned.checked.prog.funcs[f]? = some fn) :
    false = Tryd.pinned.checked.prog.looks [] ∧ ∀ (j : Nat) t, fn.params[j]? = some t → Tryd.pinned.checked.prog.wantsStandIn t = false := by
  obtain rfl : f = 3 := Option.some.inj ((show Tryd.prog.funcNamed "courier/courierlaw14.OutboxBack" = some 3 by kernel_rfl).symm.trans hf) |>.symm
  obtain rfl : fn = Tryd.f3 := (Option.some.inj (Tryd.func3.symm.trans hfn)).symm
  refine ⟨by kernel_rfl, fun j t ht => ?_⟩
  rw [Tryd.params3] at ht
  have hm : t ∈ [24, 25] := by simpa using Array.mem_of_getElem? ht
  have hall : ([24, 25].all fun u => !Tryd.prog.wantsStandIn u) = true := by kernel_rfl
  exact (show Tryd.prog.wantsStandIn t = false by simpa using List.all_eq_true.1 hall t hm)

theorem card : Rows.OutboxBackCardSaid :=
  Claim7.holds_tied_plain_at .later [] _ _ _ _ said (fun _ h => by cases h) (by kernel_rfl) (fun _ h => by cases h) outboxBack_row_tie rfl ⟨rfl, rfl⟩ (by kernel_rfl) rfl plain (by kernel_rfl)
end Go.Proofs.YtigmgbnfiiobeaaDoor.outboxBack

namespace Go.Proofs.YtigmgbnfiiobeaaDoor
theorem outboxBack_of : Rows.OutboxBackCardSaid := outboxBack.card
end Go.Proofs.YtigmgbnfiiobeaaDoor
