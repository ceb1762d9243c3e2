/-
  The document's wheel: Set of a key that stands, and of a full wheel.
-/
import Derived.Test.YtdglnobapnohmaaDoorWhRef7
import Derived.Deep.RegionHeld3
namespace Go.Proofs.YtdglnobapnohmaaDoor
open Go.RowKit

set_option maxRecDepth 100000 in
set_option maxHeartbeats 1000000 in
theorem rset_full {w : World} {rb now : Nat} {S : List Tm} {a : Option Addr} {n c : Nat} (h : RWl w rb now S a n c) (k : Int) (t : Nat) (h1 : now < t) (h2 : t ≤ 1099511627776) (hl : 4096 ≤ S.length) (hl2 : S.length ≤ 1000000) (hq : plI k S = -1) :
    Calls Tryd.prog 37 #[.pointer (some ⟨rb, 0, none⟩), .agg #[.int .i64 k, .string ⟨#[]⟩], .int .i64 (t : Int)] w fun e w' => e = .returned (.int .i64 7) ∧ Below w.heap.size w w' := by
  have bv := (Below.refl w.heap.size w).alloc (Nat.le_refl _) (.cells #[.int .i64 k, .string ⟨#[]⟩] 98)
  have cr := (h.below bv).cell
  have hp := rplace_any (h.below bv) k hl2
  rw [hq] at hp
  have ck := (Box.new w #[.int .i64 k, .string ⟨#[]⟩] 98).cell
  have HB : Hid (Below w.heap.size w (w.alloc (.cells #[.int .i64 k, .string ⟨#[]⟩] 98)) ∧ RWl w rb now S a n c) := ⟨bv, h⟩
  have hn := h.row.len
  have hn4 : (n : Int) ≥ 4096 := by omega
  obtain ⟨N, hN⟩ : ∃ N : Int, (now : Int) = N := ⟨_, rfl⟩
  obtain ⟨T, hT⟩ : ∃ N : Int, (t : Int) = N := ⟨_, rfl⟩
  rw [hN] at cr
  have q1 : ¬ T ≤ N := by omega
  have q2 : ¬ T > 1099511627776 := by omega
  rw [hT]
  clear h bv hl hl2 hn hq hT h1 h2
  go_enter Tryd.func37, Tryd.ntmps37
  go_wp2_with fail
  refine hp.mono ?_
  rintro _ w1 ⟨rfl, hb⟩
  have HB1 : Hid (Below w.heap.size w w1) := below_then HB.out.1 hb
  have cr1 := (HB.out.2.below HB1.out).cell
  clear hp hb cr ck
  go_wp2_with fail
  go_ret
  exact ⟨rfl, HB1.out⟩
set_option maxRecDepth 100000 in
set_option maxHeartbeats 4000000 in
theorem rset_old {w : World} {rb now : Nat} {S : List Tm} {a : Option Addr} {n c : Nat} (h : RWl w rb now S a n c) (hu : Uniq S) (k : Int) (t : Nat) (h1 : now < t) (h2 : t ≤ 1099511627776) (hl : S.length ≤ 4096) {p u : Nat} (hq : plI k S = p) (hpu : S[p]? = some (k, u)) :
    Calls Tryd.prog 37 #[.pointer (some ⟨rb, 0, none⟩), .agg #[.int .i64 k, .string ⟨#[]⟩], .int .i64 (t : Int)] w fun e w' => e = .returned (.int .i64 0) ∧ RWQ w rb now (setS k t S) w' := by
  obtain ⟨Q, hQ⟩ : ∃ Q, S.eraseIdx p = Q := ⟨_, rfl⟩
  have HQE : Hid (setS k t S = ins (k, t) Q) := by unfold Hid setS; rw [← erase_key hu hpu, hQ]
  have hQl : Q.length ≤ 5000 := by have := List.length_eraseIdx_le S p; rw [hQ] at this; omega
  have bv := (Below.refl w.heap.size w).alloc (Nat.le_refl _) (.cells #[.int .i64 k, .string ⟨#[]⟩] 98)
  have cr := (h.below bv).cell
  have hp := rplace_any (h.below bv) k (by omega)
  rw [hq] at hp
  have ck := (Box.new w #[.int .i64 k, .string ⟨#[]⟩] 98).cell
  have HB : Hid (Below w.heap.size w (w.alloc (.cells #[.int .i64 k, .string ⟨#[]⟩] 98))) := bv
  have hp0 : decide ((p : Int) < 0) = false := decide_eq_false (by omega)
  have hp1 : ¬ (p : Int) < 0 := by omega
  have hp2 : (p : Int) ≥ 0 := by omega
  have HR : Hid (RWl w rb now S a n c ∧ S.length ≤ 4096 ∧ S.eraseIdx p = Q ∧ Q.length ≤ 5000) := ⟨h, hl, hQ, hQl⟩
  obtain ⟨N, hN⟩ : ∃ N : Int, (now : Int) = N := ⟨_, rfl⟩
  obtain ⟨T, hT⟩ : ∃ N : Int, (t : Int) = N := ⟨_, rfl⟩
  obtain ⟨P, hP⟩ : ∃ N : Int, (p : Int) = N := ⟨_, rfl⟩
  have HTT : Hid ((t : Int) = T ∧ (p : Int) = P) := ⟨hT, hP⟩
  rw [hN] at cr
  rw [hP] at hp hp0 hp1 hp2
  have q1 : ¬ T ≤ N := by omega
  have q2 : ¬ T > 1099511627776 := by omega
  rw [hT]
  clear h hu bv hl hq hT h1 h2 hQ hQl hpu hP
  go_enter Tryd.func37, Tryd.ntmps37
  go_wp2_with fail
  refine hp.mono ?_
  rintro _ w1 ⟨rfl, hb⟩
  have HB1 : Hid (Below w.heap.size w w1) := below_then HB.out hb
  have cr1 := (HR.out.1.below HB1.out).cell
  have hw := rwithout_any (HR.out.1.below HB1.out) p (by have := HR.out.2.1; omega)
  rw [HTT.out.2, HR.out.2.2.1] at hw
  clear hp cr ck
  go_wp2_with fail
  refine hw.mono ?_
  rintro _ w2 ⟨ra, m, rc, rfl, hrw, hb2⟩
  have HB2 : Hid (Below w.heap.size w w2) := below_then HB1.out hb2
  have ck1 := ((Box.new w #[.int .i64 k, .string ⟨#[]⟩] 98).below (below_then hb hb2)).cell
  have HQ : Hid (RRow w2 (rb + 1) (.slice ra m rc) Q ∧ Q.length ≤ 5000) := ⟨ERow.base hrw (by have := (HR.out.1.below HB1.out).lt; omega), HR.out.2.2.2⟩
  clear hw hrw hb2 hb cr1
  go_wp2_with fail
  clear ck1 q1 q2 hp0 hp1 hp2
  have HV : Hid (Below w.heap.size w (w2.alloc (.cells #[.int .i64 k, .string ⟨#[]⟩, .int .i64 T] 100)) ∧ w2.heap.size < (w2.alloc (.cells #[.int .i64 k, .string ⟨#[]⟩, .int .i64 T] 100)).heap.size ∧ RRow (w2.alloc (.cells #[.int .i64 k, .string ⟨#[]⟩, .int .i64 T] 100)) (rb + 1) (.slice ra m rc) Q ∧ m = Q.length ∧ Q.length ≤ 5000 ∧ (∀ j, (w2.alloc (.cells #[.int .i64 k, .string ⟨#[]⟩, .int .i64 T] 100)).cell? ⟨w2.heap.size, j, none⟩ = (#[.int .i64 k, .string ⟨#[]⟩, .int .i64 T] : Array Value)[j]?)) := ⟨HB2.out.alloc HB2.out.size _, by simp, ERow.below HQ.out.1 ((Below.refl _ _).alloc (Nat.le_refl _) _), ERow.len HQ.out.1, HQ.out.2, (Box.new w2 #[.int .i64 k, .string ⟨#[]⟩, .int .i64 T] 100).cell⟩
  have hml : (m : Int) ≤ 5000 := by have h1 := HV.out.2.2.2.1; have h2 := HV.out.2.2.2.2.1; omega
  generalize hVV : (w2.alloc (.cells #[.int .i64 k, .string ⟨#[]⟩, .int .i64 T] 100)) = V at HV ⊢
  obtain ⟨tb, htb⟩ : ∃ n, w2.heap.size = n := ⟨_, rfl⟩
  rw [htb] at HV ⊢
  clear hVV htb
  go_loopw [10, 11, 12] (fun t10 t11 t12 wx => ∃ (i : Nat) (put : Bool) (a1 : Option Addr) (n1 c1 : Nat) (ys : List Tm), i ≤ m ∧ t12 = .int .i64 (i : Int) ∧ t11 = .bool put ∧ t10 = .slice a1 n1 c1 ∧ Hid (RRow wx V.heap.size (.slice a1 n1 c1) ys ∧ Below V.heap.size V wx ∧ SetP (k, t) Q i put ys)) (fun _ _ t12 _ => m - (intOf t12).toNat)
  case atStart => exact ⟨0, false, none, 0, 0, [], Nat.zero_le _, rfl, rfl, rfl, ERow.nil _ _ _ _ _, Below.refl _ _, Or.inl ⟨rfl, rfl, fun y hy => by cases hy⟩⟩
  case round =>
    obtain ⟨i, put, a1, n1, c1, ys, hi, rfl, rfl, rfl, HJ⟩ := hrel
    by_cases hlt : i < m
    · have hlt1 : (i : Int) < m := by omega
      obtain ⟨⟨k', t'⟩, hx⟩ : ∃ x, Q[i]? = some x := ⟨_, List.getElem?_eq_getElem (by have := HV.out.2.2.2.1; omega)⟩
      obtain ⟨g, rfl, hg, hcg⟩ := HV.out.2.2.1.at_ encR_len hx
      obtain ⟨T', hT'⟩ : ∃ N : Int, (t' : Int) = N := ⟨_, rfl⟩
      have HC : Hid (∀ z, Below V.heap.size V z → z.cell? ⟨tb, 0, none⟩ = some (.int .i64 k) ∧ z.cell? ⟨tb, 1, none⟩ = some (.string ⟨#[]⟩) ∧ z.cell? ⟨tb, 2, none⟩ = some (.int .i64 T) ∧ z.cell? ⟨g, i * 3, none⟩ = some (.int .i64 k') ∧ z.cell? ⟨g, i * 3 + 1, none⟩ = some (.string ⟨#[]⟩) ∧ z.cell? ⟨g, i * 3 + 2, none⟩ = some (.int .i64 T')) := fun z hz => by
        have hg0 := hcg 0 (by omega)
        have hg1 := hcg 1 (by omega)
        have hg2 : V.cell? ⟨g, i * 3 + 2, none⟩ = some (.int .i64 (t' : Int)) := hcg 2 (by omega)
        rw [hT'] at hg2
        exact ⟨(hz.cell (p := ⟨tb, 0, none⟩) HV.out.2.1).trans (HV.out.2.2.2.2.2 0), (hz.cell (p := ⟨tb, 1, none⟩) HV.out.2.1).trans (HV.out.2.2.2.2.2 1), (hz.cell (p := ⟨tb, 2, none⟩) HV.out.2.1).trans (HV.out.2.2.2.2.2 2), (hz.cell (p := ⟨g, i * 3, none⟩) hg).trans hg0, (hz.cell (p := ⟨g, i * 3 + 1, none⟩) hg).trans hg1, (hz.cell (p := ⟨g, i * 3 + 2, none⟩) hg).trans hg2⟩
      obtain ⟨b, hbb⟩ : ∃ b, ahB (k, t) (k', t') = b := ⟨_, rfl⟩
      have HAh : Hid (∀ z, Below wr.heap.size wr z → Calls Tryd.prog 59 #[.agg #[.int .i64 k, .string ⟨#[]⟩, .int .i64 T], .agg #[.int .i64 k', .string ⟨#[]⟩, .int .i64 T']] z fun e w' => e = .returned (.bool b) ∧ Hid (Below wr.heap.size wr w') ∧ w'.cell? ⟨tb, 0, none⟩ = some (.int .i64 k) ∧ w'.cell? ⟨tb, 1, none⟩ = some (.string ⟨#[]⟩) ∧ w'.cell? ⟨tb, 2, none⟩ = some (.int .i64 T) ∧ w'.cell? ⟨g, i * 3, none⟩ = some (.int .i64 k') ∧ w'.cell? ⟨g, i * 3 + 1, none⟩ = some (.string ⟨#[]⟩) ∧ w'.cell? ⟨g, i * 3 + 2, none⟩ = some (.int .i64 T')) := fun z hz => by
        have h5 := rahead_any k k' t t' z
        rw [HTT.out.1, hT', hbb] at h5
        exact h5.mono fun e w' ⟨he, hb⟩ => ⟨he, below_then hz hb, HC.out w' (HJ.out.2.1.trans ((below_then hz hb).mono HJ.out.2.1.size))⟩
      have HBB : Hid ((b = true ↔ tlt (k, t) (k', t')) ∧ Q[i]? = some (k', t') ∧ (t' : Int) = T') := ⟨by rw [← hbb]; exact ahB_iff _ _, hx, hT'⟩
      obtain ⟨u0, u1, u2, u3, u4, u5⟩ := HC.out wr HJ.out.2.1
      clear hcg hx hg hT' hbb
      go_wp2_with fail
      go_region_held3 (fun z => z.cell? ⟨tb, 0, none⟩ = some (.int .i64 k) ∧ z.cell? ⟨tb, 1, none⟩ = some (.string ⟨#[]⟩) ∧ z.cell? ⟨tb, 2, none⟩ = some (.int .i64 T) ∧ z.cell? ⟨g, i * 3, none⟩ = some (.int .i64 k') ∧ z.cell? ⟨g, i * 3 + 1, none⟩ = some (.string ⟨#[]⟩) ∧ z.cell? ⟨g, i * 3 + 2, none⟩ = some (.int .i64 T')) (simp [*]) (first | (go_at_call 59; refine (HAh.out _ ?_).mono ?_; (first | (with_reducible exact Below.refl _ _) | exact Below.drew (Below.refl _ _) | exact below_drewN (Below.refl _ _) _); clear HAh; rintro _ w5 ⟨rfl, H5, s0, s1, s2, s3, s4, s5⟩))
      clear u0 u1 u2 u3 u4 u5
      have HJ5 : Hid (RRow w5 V.heap.size (.slice a1 n1 c1) ys ∧ Below V.heap.size V w5 ∧ SetP (k, t) Q i put ys) := ⟨ERow.below HJ.out.1 H5.out, HJ.out.2.1.trans (H5.out.mono HJ.out.2.1.size), HJ.out.2.2⟩
      clear H5 HJ
      have one : ∀ (W : World) (a2 : Option Addr) (n2 c2 : Nat) (zs : List Tm), RRow W V.heap.size (.slice a2 n2 c2) zs → Below V.heap.size V W → zs.length ≤ 6000 → ∃ a3 c3 W1, (Builtin.append_ #[28, 28] 28 #[.slice a2 n2 c2, .slice (some ⟨W.heap.size, 0, none⟩) 1 1]).run Tryd.prog (W.alloc (.cells #[.int .i64 k', .string ⟨#[]⟩, .int .i64 T'] 100)) = .ok (.slice a3 (n2 + 1) c3) W1 ∧ Hid (RRow W1 V.heap.size (.slice a3 (n2 + 1) c3) (zs ++ [(k', t')]) ∧ Below V.heap.size V W1) := fun W a2 n2 c2 zs hr hb hz => by
        obtain ⟨a3, c3, W1, hap, HN⟩ := rpush k' t' hr hb.size (by omega)
        rw [HBB.out.2.2] at hap
        exact ⟨a3, c3, W1, hap, HN.out.1, hb.trans HN.out.2⟩
      have HONE : Hid (type_of% one) := one
      clear one
      have hys : ys.length ≤ 5001 := by have h1 := HJ5.out.2.2.len; have h2 := HV.out.2.2.2.2.1; omega
      by_cases hc : put = false ∧ b = true
      · obtain ⟨rfl, rfl⟩ := hc
        obtain ⟨a3, c3, W1, hap, HN⟩ := rpush k t HJ5.out.1 HJ5.out.2.1.size (by omega)
        rw [HTT.out.1] at hap
        have bW1 : Below V.heap.size V W1 := HJ5.out.2.1.trans HN.out.2
        obtain ⟨a4, c4, W2, hap2, HN2⟩ := HONE.out W1 a3 (n1 + 1) c3 _ HN.out.1 bW1 (by rw [List.length_append]; simp; omega)
        have HF : Hid (RRow W2 V.heap.size (.slice a4 (n1 + 1 + 1) c4) (ys ++ [(k, t)] ++ [(k', t')]) ∧ Below V.heap.size V W2 ∧ SetP (k, t) Q (i + 1) true (ys ++ [(k, t)] ++ [(k', t')])) := ⟨HN2.out.1, HN2.out.2, HJ5.out.2.2.both HBB.out.2.1 (HBB.out.1.1 rfl)⟩
        obtain ⟨_, _, _, v3, v4, v5⟩ := HC.out W1 bW1
        clear HN HN2 HONE HJ5 bW1 hys
        go_wp2_with (at_builtin; first | (refine wpList_append_run rfl (.tmp 71) (.tmp 73) 28 _ rfl hap ?_; clear hap) | (refine wpList_append_run rfl (.tmp 75) (.tmp 80) 28 _ rfl hap2 ?_))
        go_roundw
        case rel => exact ⟨i + 1, true, a4, n1 + 1 + 1, c4, _, hlt, by go_num, rfl, rfl, HF.out⟩
        case measure => simp [intOf]; omega
      · have hc1 : put = true ∨ ¬ tlt (k, t) (k', t') := by
          cases put with
          | true => exact Or.inl rfl
          | false =>
            cases b with
            | true => exact absurd ⟨rfl, rfl⟩ hc
            | false => exact Or.inr fun g => by have := HBB.out.1.2 g; cases this
        obtain ⟨a4, c4, W2, hap2, HN2⟩ := HONE.out w5 a1 n1 c1 _ HJ5.out.1 HJ5.out.2.1 (by omega)
        have HF : Hid (RRow W2 V.heap.size (.slice a4 (n1 + 1) c4) (ys ++ [(k', t')]) ∧ Below V.heap.size V W2 ∧ SetP (k, t) Q (i + 1) put (ys ++ [(k', t')])) := ⟨HN2.out.1, HN2.out.2, HJ5.out.2.2.one HBB.out.2.1 hc1⟩
        clear HN2 HONE HJ5 hc1 hys
        cases put with
        | true =>
          clear hc
          go_wp2_with (at_builtin; refine wpList_append_run rfl (.tmp 75) (.tmp 80) 28 _ rfl hap2 ?_)
          go_roundw
          case rel => exact ⟨i + 1, true, a4, n1 + 1, c4, _, hlt, by go_num, rfl, rfl, HF.out⟩
          case measure => simp [intOf]; omega
        | false =>
          cases b with
          | true => exact absurd ⟨rfl, rfl⟩ hc
          | false =>
            clear hc
            go_wp2_with (at_builtin; refine wpList_append_run rfl (.tmp 75) (.tmp 80) 28 _ rfl hap2 ?_)
            go_roundw
            case rel => exact ⟨i + 1, false, a4, n1 + 1, c4, _, hlt, by go_num, rfl, rfl, HF.out⟩
            case measure => simp [intOf]; omega
    · have hlt1 : ¬ (i : Int) < m := by omega
      have hfin := HJ.out.2.2.fin (by have := HV.out.2.2.2.1; omega)
      have HE : Hid (∀ (W : World) (a2 : Option Addr) (n2 c2 : Nat), RRow W V.heap.size (.slice a2 n2 c2) (ins (k, t) Q) → Below V.heap.size V W → RWQ w rb now (ins (k, t) Q) (W.setCell ⟨rb, 2, none⟩ (.slice a2 n2 c2))) := fun W a2 n2 c2 hr hb => by
        have bw : Below w.heap.size w W := HV.out.1.trans (hb.mono HV.out.1.size)
        have hbx := ((HR.out.1.below bw).box).pPut (j := 2) (by simp) (.slice a2 n2 c2)
        have o1 : Off (fun g => g = rb) W (W.setCell ⟨rb, 2, none⟩ (.slice a2 n2 c2)) := Off.setCell (P := fun g => g = rb) (p := ⟨rb, 2, none⟩) (Off.refl _ _) rfl _
        have hrb : rb < w.heap.size := HR.out.1.lt
        have hvs := HV.out.1.size
        exact ⟨a2, n2, c2, ⟨hbx.cell, hbx.free, hbx.lt, ERow.base (ERow.off hr o1 fun g hg e => by have := (ERow.lt hr hg).1; omega) (by omega), typ_set (HR.out.1.below bw).typ⟩, (Off.of_below bw).join o1 fun _ _ g => g⟩
      have HCR : Hid (∀ W, Below V.heap.size V W → Box W rb #[.bool true, .int .i64 (now : Int), .slice a n c] ∧ W.cell? ⟨tb, 0, none⟩ = some (.int .i64 k) ∧ W.cell? ⟨tb, 1, none⟩ = some (.string ⟨#[]⟩) ∧ W.cell? ⟨tb, 2, none⟩ = some (.int .i64 T)) := fun W hz => ⟨(HR.out.1.below (HV.out.1.trans (hz.mono HV.out.1.size))).box, (hz.cell (p := ⟨tb, 0, none⟩) HV.out.2.1).trans (HV.out.2.2.2.2.2 0), (hz.cell (p := ⟨tb, 1, none⟩) HV.out.2.1).trans (HV.out.2.2.2.2.2 1), (hz.cell (p := ⟨tb, 2, none⟩) HV.out.2.1).trans (HV.out.2.2.2.2.2 2)⟩
      cases put with
      | true =>
        have hye := hfin.1 rfl
        have hr := HJ.out.1
        rw [hye] at hr
        have HF := HE.out wr a1 n1 c1 hr HJ.out.2.1
        have HFF : Hid (type_of% HF) := HF
        obtain ⟨bx, _, _, _⟩ := HCR.out wr HJ.out.2.1
        have cb := bx.cell
        have fb := bx.free
        clear hfin hye hr HF bx HJ HE HCR
        go_wp2_with fail
        go_ret
        exact ⟨rfl, by rw [HQE.out]; exact HFF.out⟩
      | false =>
        have hye := hfin.2 rfl
        obtain ⟨a3, c3, W1, hap, HN⟩ := rpush k t HJ.out.1 HJ.out.2.1.size (by have h1 := HJ.out.2.2.len; have h2 := HV.out.2.2.2.2.1; omega)
        rw [HTT.out.1] at hap
        have hr := HN.out.1
        rw [hye] at hr
        have bW : Below V.heap.size V W1 := HJ.out.2.1.trans HN.out.2
        have HF := HE.out W1 a3 (n1 + 1) c3 hr bW
        have HFF : Hid (type_of% HF) := HF
        obtain ⟨_, e0, e1, e2⟩ := HCR.out wr HJ.out.2.1
        obtain ⟨bx, _, _, _⟩ := HCR.out W1 bW
        have cb := bx.cell
        have fb := bx.free
        clear hfin hye hr HF bx HJ HE HCR HN bW
        go_wp2_with (at_builtin; refine wpList_append_run rfl (.tmp 84) (.tmp 86) 28 _ rfl hap ?_)
        go_ret
        exact ⟨rfl, by rw [HQE.out]; exact HFF.out⟩
end Go.Proofs.YtdglnobapnohmaaDoor
