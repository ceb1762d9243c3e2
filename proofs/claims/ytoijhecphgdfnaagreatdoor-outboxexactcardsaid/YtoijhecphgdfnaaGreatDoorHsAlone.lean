/-
  Held.alone, walked.
-/
import Derived.Test.YtoijhecphgdfnaaGreatDoorHsAl3
namespace Go.Proofs.YtoijhecphgdfnaaGreatDoor
open Go.RowKit

section
variable {w : World} {B hb n : Nat} {σ : Hs}
set_option maxRecDepth 100000 in
set_option maxHeartbeats 64000000 in
theorem alone_s (h : HS w B hb n σ) (hn : n ≤ 300000000) :
    Calls Tryz.prog 9 #[.pointer (some ⟨hb, 0, none⟩)] w fun e w' => e = .returned (.bool true) ∧ Hid (∃ σ', HS w' B hb 0 σ' ∧ (∀ g, HsFt σ' g → g = hb) ∧ Off (HsFt σ) w w') := by
  have HH : Hid (HS w B hb n σ) := h
  obtain ⟨ND, hND⟩ : ∃ N, σ.D.length = N := ⟨_, rfl⟩
  obtain ⟨NS, hNS⟩ : ∃ N, σ.S.length = N := ⟨_, rfl⟩
  have HN : Hid (AlN σ n ND NS) := ⟨hND, hNS, hn, h.nD, h.nS, h.bD, h.bS⟩
  have hNDi : (ND : Int) ≤ 300000000 := by have := h.nD; omega
  have hNSi : (NS : Int) ≤ 300000000 := by have := h.nS; omega
  obtain ⟨a0, c0, a1, c1, a2, c2, a3, c3, hF⟩ := AlF.of h.h0.hr HN.out
  have HF : Hid (AlF σ ND NS a0 c0 a1 c1 a2 c2 a3 c3) := hF
  have HB0 : Hid (Below w.heap.size w w) := Below.refl _ _
  clear h hND hNS hn hF
  go_enter Tryz.func9, Tryz.ntmps9
  go_upto_region 2 with fail
  go_loopw [2, 3] (fun u t wx => u = .bool false ∧ ∃ i : Nat, i ≤ ND ∧ t = .int .i64 i ∧ Hid (Below w.heap.size w wx)) (fun _ t _ => ND - (intOf t).toNat)
  case atStart => exact ⟨rfl, 0, Nat.zero_le _, rfl, HB0⟩
  case round =>
  obtain ⟨rfl, i, hi, rfl, HB⟩ := hrel
  have hw := HH.out.below HB.out
  obtain ⟨-, q0, z0⟩ := hw.h0.hr.atv (q := 0) (by decide) HF.out.f0
  obtain ⟨-, q1, z1⟩ := hw.h0.hr.atv (q := 1) (by decide) HF.out.f1
  by_cases hlt : i < ND
  · have hlt1 : (i : Int) < ND := by omega
    obtain ⟨x, hx⟩ : ∃ x, σ.D[i]? = some x := ⟨_, List.getElem?_eq_getElem (by have := HN.out.nD; omega)⟩
    obtain ⟨g0, ha0, k0⟩ := z0 i x.val (by show (List.map _ _)[i]? = _; rw [List.getElem?_map, hx]; rfl)
    obtain ⟨g1, ha1, k1⟩ := z1 i x.was (by show (List.map _ _)[i]? = _; rw [List.getElem?_map, hx]; rfl)
    rw [ha0] at q0
    rw [ha1] at q1
    have HC : Hid (∀ z, Below wr.heap.size wr z → Calls Tryz.prog 26 #[.slice x.val.1 x.val.2.1 x.val.2.2, .slice x.was.1 x.was.2.1 x.was.2.2] z fun e z' => e = .returned (.bool true) ∧ Hid (Below wr.heap.size wr z')) := fun z hz => by
      have hzs := hw.below hz
      have hxm := List.mem_of_getElem? hx
      obtain ⟨⟨va, vn, vc⟩, ⟨wa, wn, wc⟩, ds⟩ := x
      exact (sameDeeds_any (hzs.h0.dd.val _ hxm) (hzs.h0.dd.was _ hxm)).mono fun e z' ⟨e1, m, h1⟩ => ⟨e1, by rw [h1]; exact below_drewN hz m⟩
    have gc : ∀ {z : World}, Below wr.heap.size wr z → z.cell? ⟨hb, 0, none⟩ = some (.slice (some ⟨g0, 0, none⟩) ND c0) ∧ z.cell? ⟨hb, 1, none⟩ = some (.slice (some ⟨g1, 0, none⟩) ND c1) ∧ z.cell? ⟨g0, i, none⟩ = some (.slice x.val.1 x.val.2.1 x.val.2.2) ∧ z.cell? ⟨g1, i, none⟩ = some (.slice x.was.1 x.was.2.1 x.was.2.2) := fun {z} hz => ⟨(hz.cell (cell_lt q0)).trans q0, (hz.cell (cell_lt q1)).trans q1, (hz.cell (cell_lt k0)).trans k0, (hz.cell (cell_lt k1)).trans k1⟩
    clear z0 z1 hw hx
    go_upto_region 4 with fail
    go_region_held3 (fun z => z.cell? ⟨hb, 0, none⟩ = some (.slice (some ⟨g0, 0, none⟩) ND c0) ∧ z.cell? ⟨hb, 1, none⟩ = some (.slice (some ⟨g1, 0, none⟩) ND c1) ∧ z.cell? ⟨g0, i, none⟩ = some (.slice x.val.1 x.val.2.1 x.val.2.2) ∧ z.cell? ⟨g1, i, none⟩ = some (.slice x.was.1 x.was.2.1 x.was.2.2)) ((refine gc ?_; (repeat' (first | (with_reducible exact Below.refl _ _) | (with_reducible exact Hid.out (by assumption)) | (with_reducible refine Below.drew ?_))))) (first | (go_at_call 26; refine (HC.out _ (Below.drew (Below.refl _ _))).mono ?_; rintro _ w6 ⟨rfl, HB6⟩))
    all_goals
      go_wp2_with fail
      go_roundw
      case rel => exact ⟨rfl, i + 1, hlt, by go_num, below_then HB.out HB6.out⟩
      case measure => simp [intOf]; omega
  have hltD : ¬ (i : Int) < ND := by omega
  obtain rfl : ND = i := by omega
  clear z0 z1 q1
  go_upto_region 7 with fail
  clear q0
  go_loopw [2, 4] (fun u t wx => u = .bool false ∧ ∃ i : Nat, i ≤ NS ∧ t = .int .i64 i ∧ Hid (Below w.heap.size w wx)) (fun _ t _ => NS - (intOf t).toNat)
  case atStart => exact ⟨rfl, 0, Nat.zero_le _, rfl, HB⟩
  case round =>
  obtain ⟨rfl, i, hi, rfl, HB⟩ := hrel
  have hw := HH.out.below HB.out
  obtain ⟨-, q0, z0⟩ := hw.h0.hr.atv (q := 2) (by decide) HF.out.f2
  obtain ⟨-, q1, z1⟩ := hw.h0.hr.atv (q := 3) (by decide) HF.out.f3
  by_cases hlt : i < NS
  · have hlt1 : (i : Int) < NS := by omega
    obtain ⟨x, hx⟩ : ∃ x, σ.S[i]? = some x := ⟨_, List.getElem?_eq_getElem (by have := HN.out.nS; omega)⟩
    obtain ⟨g0, ha0, k0⟩ := z0 i x.val (by show (List.map _ _)[i]? = _; rw [List.getElem?_map, hx]; rfl)
    obtain ⟨g1, ha1, k1⟩ := z1 i x.was (by show (List.map _ _)[i]? = _; rw [List.getElem?_map, hx]; rfl)
    rw [ha0] at q0
    rw [ha1] at q1
    have HC : Hid (∀ z, Below wr.heap.size wr z → Calls Tryz.prog 37 #[.slice x.val.1 x.val.2.1 x.val.2.2, .slice x.was.1 x.was.2.1 x.was.2.2] z fun e z' => e = .returned (.bool true) ∧ Hid (Below wr.heap.size wr z')) := fun z hz => by
      have hzs := hw.below hz
      have hxm := List.mem_of_getElem? hx
      have hcp : Cps z x.xs x.xs := ⟨rfl, fun j l m hl hm => by
        rw [hl] at hm
        cases hm
        obtain ⟨_, e, he, e1, e2⟩ := hzs.tx x hxm l (List.mem_of_getElem? hl)
        obtain ⟨vb, vw, hk⟩ := hzs.h0.hr.bk
        obtain ⟨p, hp, e3⟩ := List.getElem_of_mem he
        have hr := row_of_bo (hk.val p e (by rw [List.getElem?_eq_getElem hp, e3]))
        rw [e1, e2] at hr
        exact ⟨⟨l.tp, l.tc, rfl⟩, ERow.base hr (Nat.zero_le _)⟩⟩
      have htn : ∀ m ∈ x.xs, m.tn ≤ 8192 := fun m hm => (hzs.tx x hxm m hm).1
      obtain ⟨⟨va, vn, vc⟩, ⟨wa, wn, wc⟩, ds⟩ := x
      have e1 : vn = ds.length := ERow.len (hzs.h0.ss.val _ hxm)
      have e2 : wn = ds.length := ERow.len (hzs.h0.ss.was _ hxm)
      subst e1
      subst e2
      exact (sameList_true (hzs.h0.ss.val _ hxm) (hzs.h0.ss.was _ hxm) hcp hcp htn).mono fun e z' ⟨e1, h1⟩ => ⟨e1, below_then hz h1⟩
    have gc : ∀ {z : World}, Below wr.heap.size wr z → z.cell? ⟨hb, 2, none⟩ = some (.slice (some ⟨g0, 0, none⟩) NS c2) ∧ z.cell? ⟨hb, 3, none⟩ = some (.slice (some ⟨g1, 0, none⟩) NS c3) ∧ z.cell? ⟨g0, i, none⟩ = some (.slice x.val.1 x.val.2.1 x.val.2.2) ∧ z.cell? ⟨g1, i, none⟩ = some (.slice x.was.1 x.was.2.1 x.was.2.2) := fun {z} hz => ⟨(hz.cell (cell_lt q0)).trans q0, (hz.cell (cell_lt q1)).trans q1, (hz.cell (cell_lt k0)).trans k0, (hz.cell (cell_lt k1)).trans k1⟩
    clear z0 z1 hw hx
    go_upto_region 9 with fail
    go_region_held3 (fun z => z.cell? ⟨hb, 2, none⟩ = some (.slice (some ⟨g0, 0, none⟩) NS c2) ∧ z.cell? ⟨hb, 3, none⟩ = some (.slice (some ⟨g1, 0, none⟩) NS c3) ∧ z.cell? ⟨g0, i, none⟩ = some (.slice x.val.1 x.val.2.1 x.val.2.2) ∧ z.cell? ⟨g1, i, none⟩ = some (.slice x.was.1 x.was.2.1 x.was.2.2)) ((refine gc ?_; (repeat' (first | (with_reducible exact Below.refl _ _) | (with_reducible exact Hid.out (by assumption)) | (with_reducible refine Below.drew ?_))))) (first | (go_at_call 37; refine (HC.out _ (Below.drew (Below.refl _ _))).mono ?_; rintro _ w6 ⟨rfl, HB6⟩))
    all_goals
      go_wp2_with fail
      go_roundw
      case rel => exact ⟨rfl, i + 1, hlt, by go_num, below_then HB.out HB6.out⟩
      case measure => simp [intOf]; omega
  have hltS : ¬ (i : Int) < NS := by omega
  obtain rfl : NS = i := by omega
  clear z0 z1 q1
  have hal := bk_alone (HH.out.below HB.out) (by have := HN.out.hn; omega)
  have HB1 : Hid (Below w.heap.size w wr) := HB.out
  go_upto_region 16 with (go_at_call 40; refine hal.mono ?_; rintro _ W1 ⟨rfl, H1⟩)
  clear hal
  clear q0 HB
  have HWD : Hid (WrI W1 B hb σ.f σ.X (fillC mkD (contents σ.D) 0 0) (contents σ.S) W1) := by
    rw [fill_zero]
    exact ⟨H1.out.1, Off.refl _ _⟩
  go_loopw [7] (fun t wx => ∃ i : Nat, i ≤ ND ∧ t = .int .i64 i ∧ Hid (WrI W1 B hb σ.f σ.X (fillC mkD (contents σ.D) i 0) (contents σ.S) wx)) (fun t _ => ND - (intOf t).toNat)
  case atStart => exact ⟨0, Nat.zero_le _, rfl, HWD⟩
  case round =>
  obtain ⟨i, hi, rfl, HI⟩ := hrel
  clear HWD
  obtain ⟨-, q0, z0⟩ := HI.out.al.hr.atv (q := 0) (by decide) HF.out.f0
  by_cases hlt : i < ND
  · have hlt1 : (i : Int) < ND := by omega
    obtain ⟨s, hs⟩ : ∃ s, (σ.X 0)[i]? = some s := ⟨_, List.getElem?_eq_getElem (by have := HN.out.xD; omega)⟩
    obtain ⟨M, hM⟩ : ∃ M, (contents σ.D i).length = M := ⟨_, rfl⟩
    have hMl : M ≤ 100000 := by rw [← hM]; exact HN.out.cD i
    have HM : Hid ((contents σ.D i).length = M ∧ (σ.X 0)[i]? = some s ∧ i < ND) := ⟨hM, hs, hlt⟩
    have hMi : (M : Int) ≤ 100000 := by omega
    have hii : (i : Int) ≤ 300000000 := by have := HN.out.kD; omega
    have hii0 : (0 : Int) ≤ (i : Int) := by omega
    clear z0 hM hs hMl
    go_upto_region 19 with fail
    clear q0
    go_loopw [8] (fun t wx => ∃ j : Nat, j ≤ M ∧ t = .int .i64 j ∧ Hid (WrI W1 B hb σ.f σ.X (fillC mkD (contents σ.D) i j) (contents σ.S) wx)) (fun t _ => M - (intOf t).toNat)
    case atStart => exact ⟨0, Nat.zero_le _, rfl, HI⟩
    case round =>
    obtain ⟨j, hj, rfl, HJ⟩ := hrel
    clear HI
    obtain ⟨-, q0, z0⟩ := HJ.out.al.hr.atv (q := 0) (by decide) HF.out.f0
    obtain ⟨g0, ha0, k0⟩ := z0 i s HM.out.2.1
    rw [ha0] at q0
    have hrow := HJ.out.al.ld.row i s HM.out.2.1
    have hsl : s.2.1 = M := by
      have h1 := ERow.len hrow
      rw [fill_len i (by rw [HM.out.1]; exact hj), HM.out.1] at h1
      exact h1
    rw [hsl] at k0
    by_cases hjt : j < M
    · have hjt1 : (j : Int) < M := by omega
      obtain ⟨y, hy⟩ : ∃ y, (fillC mkD (contents σ.D) i j i)[j]? = some y := ⟨_, List.getElem?_eq_getElem (by rw [fill_len i (by rw [HM.out.1]; exact hj), HM.out.1]; exact hjt)⟩
      obtain ⟨ge, he, _, hc⟩ := ERow.at_ encD_len hrow hy
      have hth : ∀ o, wr.frozen? ⟨ge, o, none⟩ = false := fun o => by
        have h2 : Sl.v s = .slice (some ⟨ge, 0, none⟩) s.2.1 s.2.2 := by show Value.slice s.1 s.2.1 s.2.2 = _; rw [he]
        rw [h2] at hrow
        exact ERow.thaw hrow o
      rw [he] at k0
      obtain ⟨u0, hu0⟩ : ∃ u, wr.cell? ⟨ge, j * 3, none⟩ = some u := ⟨_, (hc 0 (by decide)).trans rfl⟩
      have ff0 := hth (j * 3)
      obtain ⟨u1, hu1⟩ : ∃ u, wr.cell? ⟨ge, j * 3 + 1, none⟩ = some u := ⟨_, (hc 1 (by decide)).trans rfl⟩
      have ff1 := hth (j * 3 + 1)
      obtain ⟨u2, hu2⟩ : ∃ u, wr.cell? ⟨ge, j * 3 + 2, none⟩ = some u := ⟨_, (hc 2 (by decide)).trans rfl⟩
      have ff2 := hth (j * 3 + 2)
      have HX : Hid (WrI W1 B hb σ.f σ.X (fillC mkD (contents σ.D) i (j + 1)) (contents σ.S) (((wr.setCell ⟨ge, j * 3, none⟩ (.string ⟨#[]⟩)).setCell ⟨ge, j * 3 + 1, none⟩ (.int .i64 (-1 - (i : Int)))).setCell ⟨ge, j * 3 + 2, none⟩ (.string ⟨#[]⟩))) := HJ.out.deed HM.out.2.1 he (by rw [HM.out.1]; exact hjt)
      clear z0 hrow hc hth hy HJ
      go_wp2_with fail
      go_roundw
      case rel => exact ⟨j + 1, hjt, by go_num, HX⟩
      case measure => simp [intOf]; omega
    · have hjt1 : ¬ (j : Int) < M := by omega
      have HX : Hid (WrI W1 B hb σ.f σ.X (fillC mkD (contents σ.D) (i + 1) 0) (contents σ.S) wr) := by
        have h1 := HJ.out
        rw [fill_next (mk := mkD) (C := contents σ.D) (i := i) (j := j) (by rw [HM.out.1]; omega) (by rw [HM.out.1]; exact hj)] at h1
        exact h1
      clear z0 hrow HJ
      go_wp2_with fail
      go_roundw
      case rel => exact ⟨i + 1, hlt, by go_num, HX⟩
      case measure => simp [intOf]; omega
  have hlxD : ¬ (i : Int) < ND := by omega
  obtain rfl : ND = i := by omega
  clear z0
  have HWS : Hid (WrI W1 B hb σ.f σ.X (fillC mkD (contents σ.D) ND 0) (fillC mkS (contents σ.S) 0 0) wr) := by
    rw [fill_zero (mk := mkS)]
    exact HI.out
  clear HI
  go_upto_region 23 with fail
  clear q0
  go_loopw [9] (fun t wx => ∃ i : Nat, i ≤ NS ∧ t = .int .i64 i ∧ Hid (WrI W1 B hb σ.f σ.X (fillC mkD (contents σ.D) ND 0) (fillC mkS (contents σ.S) i 0) wx)) (fun t _ => NS - (intOf t).toNat)
  case atStart => exact ⟨0, Nat.zero_le _, rfl, HWS⟩
  case round =>
  obtain ⟨i, hi, rfl, HI⟩ := hrel
  clear HWS
  obtain ⟨-, q0, z0⟩ := HI.out.al.hr.atv (q := 2) (by decide) HF.out.f2
  by_cases hlt : i < NS
  · have hlt1 : (i : Int) < NS := by omega
    obtain ⟨s, hs⟩ : ∃ s, (σ.X 2)[i]? = some s := ⟨_, List.getElem?_eq_getElem (by have := HN.out.xS; omega)⟩
    obtain ⟨M, hM⟩ : ∃ M, (contents σ.S i).length = M := ⟨_, rfl⟩
    have hMl : M ≤ 100000 := by rw [← hM]; exact HN.out.cS i
    have HM : Hid ((contents σ.S i).length = M ∧ (σ.X 2)[i]? = some s ∧ i < NS) := ⟨hM, hs, hlt⟩
    have hMi : (M : Int) ≤ 100000 := by omega
    have hii : (i : Int) ≤ 300000000 := by have := HN.out.kS; omega
    have hii0 : (0 : Int) ≤ (i : Int) := by omega
    clear z0 hM hs hMl
    go_upto_region 26 with fail
    clear q0
    go_loopw [10] (fun t wx => ∃ j : Nat, j ≤ M ∧ t = .int .i64 j ∧ Hid (WrI W1 B hb σ.f σ.X (fillC mkD (contents σ.D) ND 0) (fillC mkS (contents σ.S) i j) wx)) (fun t _ => M - (intOf t).toNat)
    case atStart => exact ⟨0, Nat.zero_le _, rfl, HI⟩
    case round =>
    obtain ⟨j, hj, rfl, HJ⟩ := hrel
    clear HI
    obtain ⟨-, q0, z0⟩ := HJ.out.al.hr.atv (q := 2) (by decide) HF.out.f2
    obtain ⟨g0, ha0, k0⟩ := z0 i s HM.out.2.1
    rw [ha0] at q0
    have hrow := HJ.out.al.ls.row i s HM.out.2.1
    have hsl : s.2.1 = M := by
      have h1 := ERow.len hrow
      rw [fill_len i (by rw [HM.out.1]; exact hj), HM.out.1] at h1
      exact h1
    rw [hsl] at k0
    by_cases hjt : j < M
    · have hjt1 : (j : Int) < M := by omega
      obtain ⟨y, hy⟩ : ∃ y, (fillC mkS (contents σ.S) i j i)[j]? = some y := ⟨_, List.getElem?_eq_getElem (by rw [fill_len i (by rw [HM.out.1]; exact hj), HM.out.1]; exact hjt)⟩
      obtain ⟨ge, he, _, hc⟩ := ERow.at_ encM_len hrow hy
      have hth : ∀ o, wr.frozen? ⟨ge, o, none⟩ = false := fun o => by
        have h2 : Sl.v s = .slice (some ⟨ge, 0, none⟩) s.2.1 s.2.2 := by show Value.slice s.1 s.2.1 s.2.2 = _; rw [he]
        rw [h2] at hrow
        exact ERow.thaw hrow o
      rw [he] at k0
      obtain ⟨u0, hu0⟩ : ∃ u, wr.cell? ⟨ge, j * 10, none⟩ = some u := ⟨_, (hc 0 (by decide)).trans rfl⟩
      have ff0 := hth (j * 10)
      obtain ⟨u1, hu1⟩ : ∃ u, wr.cell? ⟨ge, j * 10 + 1, none⟩ = some u := ⟨_, (hc 1 (by decide)).trans rfl⟩
      have ff1 := hth (j * 10 + 1)
      obtain ⟨u2, hu2⟩ : ∃ u, wr.cell? ⟨ge, j * 10 + 2, none⟩ = some u := ⟨_, (hc 2 (by decide)).trans rfl⟩
      have ff2 := hth (j * 10 + 2)
      obtain ⟨u3, hu3⟩ : ∃ u, wr.cell? ⟨ge, j * 10 + 3, none⟩ = some u := ⟨_, (hc 3 (by decide)).trans rfl⟩
      have ff3 := hth (j * 10 + 3)
      obtain ⟨u4, hu4⟩ : ∃ u, wr.cell? ⟨ge, j * 10 + 4, none⟩ = some u := ⟨_, (hc 4 (by decide)).trans rfl⟩
      have ff4 := hth (j * 10 + 4)
      obtain ⟨u5, hu5⟩ : ∃ u, wr.cell? ⟨ge, j * 10 + 5, none⟩ = some u := ⟨_, (hc 5 (by decide)).trans rfl⟩
      have ff5 := hth (j * 10 + 5)
      obtain ⟨u6, hu6⟩ : ∃ u, wr.cell? ⟨ge, j * 10 + 6, none⟩ = some u := ⟨_, (hc 6 (by decide)).trans rfl⟩
      have ff6 := hth (j * 10 + 6)
      obtain ⟨u7, hu7⟩ : ∃ u, wr.cell? ⟨ge, j * 10 + 7, none⟩ = some u := ⟨_, (hc 7 (by decide)).trans rfl⟩
      have ff7 := hth (j * 10 + 7)
      obtain ⟨u8, hu8⟩ : ∃ u, wr.cell? ⟨ge, j * 10 + 8, none⟩ = some u := ⟨_, (hc 8 (by decide)).trans rfl⟩
      have ff8 := hth (j * 10 + 8)
      obtain ⟨u9, hu9⟩ : ∃ u, wr.cell? ⟨ge, j * 10 + 9, none⟩ = some u := ⟨_, (hc 9 (by decide)).trans rfl⟩
      have ff9 := hth (j * 10 + 9)
      have HX : Hid (WrI W1 B hb σ.f σ.X (fillC mkD (contents σ.D) ND 0) (fillC mkS (contents σ.S) i (j + 1)) ((((((((((wr.setCell ⟨ge, j * 10, none⟩ (.string ⟨#[]⟩)).setCell ⟨ge, j * 10 + 1, none⟩ (.slice none 0 0)).setCell ⟨ge, j * 10 + 2, none⟩ (.bool false)).setCell ⟨ge, j * 10 + 3, none⟩ (.int .i64 0)).setCell ⟨ge, j * 10 + 4, none⟩ (.int .i64 0)).setCell ⟨ge, j * 10 + 5, none⟩ (.int .i64 (-1 - (i : Int)))).setCell ⟨ge, j * 10 + 6, none⟩ (.bool false)).setCell ⟨ge, j * 10 + 7, none⟩ (.int .i64 0)).setCell ⟨ge, j * 10 + 8, none⟩ (.int .i64 0)).setCell ⟨ge, j * 10 + 9, none⟩ (.bool false))) := HJ.out.sent HM.out.2.1 he (by rw [HM.out.1]; exact hjt)
      clear z0 hrow hc hth hy HJ
      go_wp2_with fail
      go_roundw
      case rel => exact ⟨j + 1, hjt, by go_num, HX⟩
      case measure => simp [intOf]; omega
    · have hjt1 : ¬ (j : Int) < M := by omega
      have HX : Hid (WrI W1 B hb σ.f σ.X (fillC mkD (contents σ.D) ND 0) (fillC mkS (contents σ.S) (i + 1) 0) wr) := by
        have h1 := HJ.out
        rw [fill_next (mk := mkS) (C := contents σ.S) (i := i) (j := j) (by rw [HM.out.1]; omega) (by rw [HM.out.1]; exact hj)] at h1
        exact h1
      clear z0 hrow HJ
      go_wp2_with fail
      go_roundw
      case rel => exact ⟨i + 1, hlt, by go_num, HX⟩
      case measure => simp [intOf]; omega
  have hlxS : ¬ (i : Int) < NS := by omega
  obtain rfl : NS = i := by omega
  clear z0
  have HA2 : Hid (AL wr B hb σ.f σ.X (markC mkD (contents σ.D)) (markC mkS (contents σ.S)) ∧ Off (LFt σ.X) W1 wr) := ⟨HI.out.al.congr (fun q hq => fill_all q (by have := HN.out.xD; omega)) (fun q hq => fill_all q (by have := HN.out.xS; omega)), HI.out.off⟩
  clear HI
  obtain ⟨UD, hUD⟩ : ∃ U, wr = U := ⟨_, rfl⟩
  rw [hUD] at HA2
  have HGD : Hid (GrD UD B hb σ (fun _ => True) (.slice none 0 0) [] wr) := by rw [hUD]; exact GrD.start HA2.out.1 trivial
  clear hUD
  go_upto_region 30 with fail
  clear q0
  go_loopw [5, 11] (fun v t wx => ∃ (i : Nat) (gs : List Sl), i ≤ ND ∧ t = .int .i64 i ∧ gs.length = i ∧ Hid (GrD UD B hb σ (fun _ => True) v gs wx)) (fun _ t _ => ND - (intOf t).toNat)
  case atStart => exact ⟨0, [], Nat.zero_le _, rfl, rfl, HGD⟩
  case round =>
  obtain ⟨i, gs, hi, rfl, hgl, HI⟩ := hrel
  clear HGD
  obtain ⟨av, cv, ev, _⟩ := ERow.isSlice HI.out.gw.gl.row
  rw [hgl] at ev
  subst ev
  have HGl : Hid (gs.length = i) := hgl
  clear hgl
  obtain ⟨-, q0, z0⟩ := HI.out.al.hr.atv (q := 0) (by decide) HF.out.f0
  by_cases hlt : i < ND
  · have hlt1 : (i : Int) < ND := by omega
    obtain ⟨s, hss⟩ : ∃ s, (σ.X 0)[i]? = some s := ⟨_, List.getElem?_eq_getElem (by have := HN.out.xD; omega)⟩
    obtain ⟨g0, ha0, k0⟩ := z0 i s hss
    rw [ha0] at q0
    have hii : (i : Int) ≤ 300000000 := by have := HN.out.kD; omega
    have hii0 : (0 : Int) ≤ (i : Int) := by omega
    have hrow := HI.out.al.ld.row i s hss
    have hsl : s.2.1 = (contents σ.D i).length := by
      have h1 := ERow.len hrow
      rw [show (markC mkD (contents σ.D) i).length = (contents σ.D i).length from List.length_replicate] at h1
      exact h1
    have hsb : s.2.1 ≤ 100000 := by rw [hsl]; exact HN.out.cD i
    have HS0 : Hid (GrE wr B 105 3 encD s (mkD i) s wr) := GrE.start (by rw [hsl]; exact hrow)
    have HM : Hid ((σ.X 0)[i]? = some s ∧ i < ND ∧ s.2.1 ≤ 100000 ∧ s.2.1 = (contents σ.D i).length) := ⟨hss, hlt, hsb, hsl⟩
    obtain ⟨U, hU⟩ : ∃ U, wr = U := ⟨_, rfl⟩
    have HU : Hid (wr = U) := hU
    rw [hU] at HI HS0
    clear z0 hrow hsl hsb hss hU
    go_upto_region 34 with fail
    clear k0 q0
    go_loopw [12, 13] (fun lv t wx => ∃ j : Nat, j ≤ 90 ∧ t = .int .i64 j ∧ GrJ U B 105 3 encD s (mkD i) j lv wx) (fun _ t _ => 90 - (intOf t).toNat)
    case atStart => exact ⟨0, Nat.zero_le _, rfl, s, rfl, rfl, by rw [HU.out]; exact HS0⟩
    case round =>
    obtain ⟨j, hj, rfl, HLv⟩ := hrel
    clear HS0
    obtain ⟨⟨la, ln, lc⟩, rfl, hlj, HJ0⟩ := HLv
    have HJ : Hid (GrE U B 105 3 encD s (mkD i) (la, ln, lc) wr) := HJ0
    clear HJ0
    by_cases hjt : j < 90
    · have hjt1 : (j : Int) < 90 := by omega
      have hlb : ln + 1 ≤ 1000000000 := by have := HM.out.2.2.1; have : ln = s.2.1 + j := hlj; omega
      obtain ⟨a2, c2, w2, hap, HG2⟩ := HJ.out.push (t := 77) Tryz.underlying77 celD encD_len encD_one (by decide) #[.string ⟨#[]⟩, .int .i64 (-1 - (i : Int)), .string ⟨#[]⟩] rfl hlb (HI.out.al.hr.hB)
      have HX : Hid (GrE U B 105 3 encD s (mkD i) (a2, ln + 1, c2) w2) := HG2
      have HL : Hid (ln + 1 = s.2.1 + (j + 1)) := by unfold Hid; have : ln = s.2.1 + j := hlj; omega
      clear HJ HG2 hlj hlb
      go_wp2_with (at_builtin; refine wpList_append_run rfl (.tmp 160) (.tmp 165) 77 _ rfl hap ?_)
      go_roundw
      case rel => exact ⟨j + 1, hjt, by go_num, (a2, ln + 1, c2), rfl, HL.out, HX.out⟩
      case measure => simp [intOf]; omega
    · have hjt1 : ¬ (j : Int) < 90 := by omega
      have hgr := HI.out.grown HM.out.1 HGl.out HJ.out (by show ln ≤ _; have : ln = s.2.1 + j := hlj; have := HM.out.2.2.1; omega) HM.out.2.2.2 (by have := HN.out.kD; have := HM.out.2.1; omega)
      obtain ⟨a3, c3, w3, hap, HX⟩ := hgr
      have HL : Hid (gs.length = i) := HGl.out
      clear HJ hlj
      go_wp2_with (at_builtin; refine wpList_append_run rfl (.tmp 167) (.tmp 169) 33 _ rfl hap ?_)
      go_roundw
      case rel => exact ⟨i + 1, hlt, by go_num, gs ++ [(la, ln, lc)], by rw [List.length_append, HL.out]; rfl, HX⟩
      case measure => simp [intOf]; omega
  have hlxD : ¬ (i : Int) < ND := by omega
  obtain rfl : ND = i := by omega
  clear z0
  obtain ⟨US, hUS⟩ : ∃ U, wr = U := ⟨_, rfl⟩
  rw [hUS] at HI
  have HID : Hid (GrD UD B hb σ (fun _ => True) (.slice av ND cv) gs US ∧ gs.length = ND) := ⟨HI.out, HGl.out⟩
  have HGS : Hid (GrS US B hb σ (GwI UD.heap.size B 77 105 3 encD mkD (σ.X 0) (.slice av ND cv) gs) (.slice none 0 0) [] wr) := by rw [hUS]; exact GrS.start HI.out.al HI.out.gw
  clear hUS HI
  go_upto_region 39 with fail
  clear q0
  go_loopw [6, 14] (fun v t wx => ∃ (i : Nat) (hs : List Sl), i ≤ NS ∧ t = .int .i64 i ∧ hs.length = i ∧ Hid (GrS US B hb σ (GwI UD.heap.size B 77 105 3 encD mkD (σ.X 0) (.slice av ND cv) gs) v hs wx)) (fun _ t _ => NS - (intOf t).toNat)
  case atStart => exact ⟨0, [], Nat.zero_le _, rfl, rfl, HGS⟩
  case round =>
  obtain ⟨i, hs, hi, rfl, hgl, HI⟩ := hrel
  clear HGS
  obtain ⟨bv, dv, ev, _⟩ := ERow.isSlice HI.out.gw.gl.row
  rw [hgl] at ev
  subst ev
  have HGl : Hid (hs.length = i) := hgl
  clear hgl
  obtain ⟨-, q0, z0⟩ := HI.out.al.hr.atv (q := 2) (by decide) HF.out.f2
  by_cases hlt : i < NS
  · have hlt1 : (i : Int) < NS := by omega
    obtain ⟨s, hss⟩ : ∃ s, (σ.X 2)[i]? = some s := ⟨_, List.getElem?_eq_getElem (by have := HN.out.xS; omega)⟩
    obtain ⟨g0, ha0, k0⟩ := z0 i s hss
    rw [ha0] at q0
    have hii : (i : Int) ≤ 300000000 := by have := HN.out.kS; omega
    have hii0 : (0 : Int) ≤ (i : Int) := by omega
    have hrow := HI.out.al.ls.row i s hss
    have hsl : s.2.1 = (contents σ.S i).length := by
      have h1 := ERow.len hrow
      rw [show (markC mkS (contents σ.S) i).length = (contents σ.S i).length from List.length_replicate] at h1
      exact h1
    have hsb : s.2.1 ≤ 100000 := by rw [hsl]; exact HN.out.cS i
    have HS0 : Hid (GrE wr B 91 10 encM s (mkS i) s wr) := GrE.start (by rw [hsl]; exact hrow)
    have HM : Hid ((σ.X 2)[i]? = some s ∧ i < NS ∧ s.2.1 ≤ 100000 ∧ s.2.1 = (contents σ.S i).length) := ⟨hss, hlt, hsb, hsl⟩
    obtain ⟨U, hU⟩ : ∃ U, wr = U := ⟨_, rfl⟩
    have HU : Hid (wr = U) := hU
    rw [hU] at HI HS0
    clear z0 hrow hsl hsb hss hU
    go_upto_region 43 with fail
    clear k0 q0
    go_loopw [15, 16] (fun lv t wx => ∃ j : Nat, j ≤ 90 ∧ t = .int .i64 j ∧ GrJ U B 91 10 encM s (mkS i) j lv wx) (fun _ t _ => 90 - (intOf t).toNat)
    case atStart => exact ⟨0, Nat.zero_le _, rfl, s, rfl, rfl, by rw [HU.out]; exact HS0⟩
    case round =>
    obtain ⟨j, hj, rfl, HLv⟩ := hrel
    clear HS0
    obtain ⟨⟨la, ln, lc⟩, rfl, hlj, HJ0⟩ := HLv
    have HJ : Hid (GrE U B 91 10 encM s (mkS i) (la, ln, lc) wr) := HJ0
    clear HJ0
    by_cases hjt : j < 90
    · have hjt1 : (j : Int) < 90 := by omega
      have hlb : ln + 1 ≤ 1000000000 := by have := HM.out.2.2.1; have : ln = s.2.1 + j := hlj; omega
      obtain ⟨a2, c2, w2, hap, HG2⟩ := HJ.out.push (t := 97) Tryz.underlying97 celS encM_len encM_one (by decide) #[.string ⟨#[]⟩, .slice none 0 0, .bool false, .int .i64 0, .int .i64 0, .int .i64 (-1 - (i : Int)), .bool false, .int .i64 0, .int .i64 0, .bool false] rfl hlb (HI.out.al.hr.hB)
      have HX : Hid (GrE U B 91 10 encM s (mkS i) (a2, ln + 1, c2) w2) := HG2
      have HL : Hid (ln + 1 = s.2.1 + (j + 1)) := by unfold Hid; have : ln = s.2.1 + j := hlj; omega
      clear HJ HG2 hlj hlb
      go_wp2_with (at_builtin; refine wpList_append_run rfl (.tmp 191) (.tmp 196) 97 _ rfl hap ?_)
      go_roundw
      case rel => exact ⟨j + 1, hjt, by go_num, (a2, ln + 1, c2), rfl, HL.out, HX.out⟩
      case measure => simp [intOf]; omega
    · have hjt1 : ¬ (j : Int) < 90 := by omega
      have hgr := HI.out.grown HM.out.1 HGl.out HJ.out (by show ln ≤ _; have : ln = s.2.1 + j := hlj; have := HM.out.2.2.1; omega) HM.out.2.2.2 (by have := HN.out.kS; have := HM.out.2.1; omega)
      obtain ⟨a3, c3, w3, hap, HX⟩ := hgr
      have HL : Hid (hs.length = i) := HGl.out
      clear HJ hlj
      go_wp2_with (at_builtin; refine wpList_append_run rfl (.tmp 198) (.tmp 200) 34 _ rfl hap ?_)
      go_roundw
      case rel => exact ⟨i + 1, hlt, by go_num, hs ++ [(la, ln, lc)], by rw [List.length_append, HL.out]; rfl, HX⟩
      case measure => simp [intOf]; omega
  have hlxS : ¬ (i : Int) < NS := by omega
  obtain rfl : NS = i := by omega
  clear z0
  have hsh := shows_s (AlF.shows HI.out HID.out.2 HGl.out HN.out) (by have := HN.out.kD; omega) (by have := HN.out.kS; omega)
  have HE : Hid (Off (HsFt σ) w wr) := AlF.off HB1.out H1.out.2 HA2.out.2 HID.out.1.off HI.out.off
  go_wp2_with (go_at_call 41; refine hsh.mono ?_; rintro _ w9 ⟨rfl, H9⟩)
  go_ret
  exact ⟨rfl, AlF.done HH.out HE.out H9.out⟩
end
end Go.Proofs.YtoijhecphgdfnaaGreatDoor
