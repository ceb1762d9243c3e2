/-
  The law DiskTorn, walked: area 1, fuse: neg.
-/
import Derived.Test.YtaclonopgifgjaaTornBase
namespace Go.Proofs.Ytaclonopgifgjaa
open Go.RowKit

set_option maxRecDepth 100000 in
set_option maxHeartbeats 8000000 in
theorem torn1_neg {sa ta : Option Addr} {sl sc tl tc : Nat} {ss ts : List Int} {tk tz fu ar : Int} (w : World) (hS : Byts w sa sl ss) (hsn : sa = none → sc = 0) (hT : Byts w ta tl ts) (htn : ta = none → tc = 0) (htc : tl ≤ tc) (hlen : sl + tl ≤ 16777216) (hbit : bits BinOp.and IntKind.i64 ar 1 = 1) (hfu : fu ≤ 9223372036854775807)  (hf : fu < 0) :
    Calls Try.prog 4 #[.slice sa sl sc, .slice ta tl tc, .agg #[.int .i64 tk, .int .i64 tz], .int .i64 fu, .int .i64 ar] w fun e w' => e = .returned (.bool true) ∧ Below w.heap.size w w' := by
  have HS : Hid (Byts w sa sl ss) := hS
  have HT : Hid (Byts w ta tl ts) := hT
  have HSn : Hid (sa = none → sc = 0) := hsn
  have HTn : Hid (ta = none → tc = 0) := htn
  clear hS hT hsn htn
  go_enter Try.func4, Try.ntmps4
  go_wp2_with fail
  refine (heads_true _).mono ?_
  rintro e w0 ⟨rfl, b0⟩
  have HB0 : Hid (Below w.heap.size w w0) := (((Below.refl _ _).alloc (Nat.le_refl _) _)).trans (b0.mono (by simp))
  have HK0 : Hid (w0.cell? ⟨w.heap.size, 0, none⟩ = some (.int .i64 tk) ∧ w0.cell? ⟨w.heap.size, 1, none⟩ = some (.int .i64 tz) ∧ w.heap.size < w0.heap.size) := ⟨by rw [(bcell b0).1 _ _ (by simp)]; simp, by rw [(bcell b0).1 _ _ (by simp)]; simp, by have := b0.size; simp at this; omega⟩
  clear b0
  have hl2 : (sl : Int) + tl ≤ 16777216 := by omega
  go_wp2_with fail
  refine (New_any _).mono ?_
  rintro e w1 ⟨rfl, hw1⟩
  have H1 : Hid (Dsk w1 w0.heap.size w0.heap.size (.slice none 0 0) (.slice none 0 0) [] [] 0 0 1 (-1) 0 0 0) := by unfold Hid; rw [hw1]; exact dsk_new w0
  have HB1 : Hid (Below w0.heap.size w0 w1) := by unfold Hid; rw [hw1]; exact (Below.refl _ _).alloc (Nat.le_refl _) _
  clear hw1
  obtain ⟨a2, n2, c2, w2, hr2, r2, b2⟩ := run_copy_bytes (w := w1) ((HS.out.below HB0.out).below HB1.out) HSn.out (by omega)
  have H2 : Hid (Dsk w2 w0.heap.size w0.heap.size (.slice none 0 0) (.slice none 0 0) [] [] 0 0 1 (-1) 0 0 0) := H1.out.below b2
  have HB2 : Hid (Below w0.heap.size w0 w2) := HB1.out.trans (b2.mono HB1.out.size)
  have HR2 : Hid (Row w2 w1.heap.size (.slice a2 n2 c2) ss) := r2
  have HL2 : Hid (n2 = ss.length ∧ ss.length = sl) := ⟨r2.byts'.1, HS.out.len⟩
  clear r2 b2
  go_wp2_with (at_builtin; refine wpList_append_run rfl (.tmp 40) (.tmp 41) 24 _ rfl hr2 ?_)
  refine (Append1_ok HR2.out.byts'.2.1 HR2.out.byts'.2.2.1 (fun b o e g => by have h9 := HR2.out.byts'.2.2.2 b o e; have := (H1.out.foot_lt g).2; omega) H2.out (by decide) (by have := HL2.out; simp; omega)).mono ?_
  rintro e w3 ⟨rfl, u3, d3, t3⟩
  have H3 : Hid (Dsk w3 w0.heap.size w0.heap.size (.slice none 0 0) u3 [] ss 0 0 1 (-1) 1 0 0) := d3
  have HB3 : Hid (Below w0.heap.size w0 w3) := HB2.out.trans (t3.off.below HB2.out.size (fun k g => (H2.out.foot_lt g).1))
  clear d3 t3 hr2
  go_wp2_with fail
  refine (Sync1_ok H3.out (by decide)).mono ?_
  rintro e w4 ⟨rfl, d4, t4⟩
  have H4 : Hid (Dsk w4 w0.heap.size w0.heap.size (.slice none 0 0) u3 [] ss 0 ss.length 1 (-1) 1 1 0) := d4
  have HB4 : Hid (Below w0.heap.size w0 w4) := HB3.out.trans (t4.off.below HB3.out.size (fun k g => (H3.out.foot_lt g).1))
  clear d4 t4
  obtain ⟨a5, n5, c5, w5, hr5, r5, b5⟩ := run_copy_bytes (w := w4) ((HT.out.below HB0.out).below HB4.out) HTn.out (by omega)
  have H5 : Hid (Dsk w5 w0.heap.size w0.heap.size (.slice none 0 0) u3 [] ss 0 ss.length 1 (-1) 1 1 0) := H4.out.below b5
  have HB5 : Hid (Below w0.heap.size w0 w5) := HB4.out.trans (b5.mono HB4.out.size)
  have HR5 : Hid (Row w5 w4.heap.size (.slice a5 n5 c5) ts) := r5
  have HL5 : Hid (n5 = ts.length ∧ ts.length = tl) := ⟨r5.byts'.1, HT.out.len⟩
  clear r5 b5
  go_wp2_with (at_builtin; refine wpList_append_run_g (by simp [Region.wanted, yielded]) (.tmp 54) (.tmp 55) 24 _ rfl hr5 ?_)
  refine (Append1_ok HR5.out.byts'.2.1 HR5.out.byts'.2.2.1 (fun b o e g => by have h9 := HR5.out.byts'.2.2.2 b o e; have := (H4.out.foot_lt g).2; omega) H5.out (by decide) (by have := HL2.out; have := HL5.out; omega)).mono ?_
  rintro e w6 ⟨rfl, u6, d6, t6⟩
  have H6 : Hid (Dsk w6 w0.heap.size w0.heap.size (.slice none 0 0) u6 [] (ss ++ ts) 0 ss.length 1 (-1) 2 1 0) := d6
  have HB6 : Hid (Below w0.heap.size w0 w6) := HB5.out.trans (t6.off.below HB5.out.size (fun k g => (H5.out.foot_lt g).1))
  clear d6 t6 hr5 HR5 HR2 H1 H2 H3 H4 H5 HB1 HB2 HB3 HB4 HB5
  go_wp2_with fail
  refine (Fuse_ok fu H6.out hfu).mono ?_
  rintro e w7 ⟨rfl, d7, t7⟩
  have H7 : Hid (Dsk w7 w0.heap.size w0.heap.size (.slice none 0 0) u6 [] (ss ++ ts) 0 ss.length 1 (max fu (-1)) 2 1 0) := d7
  have HB7 : Hid (Below w0.heap.size w0 w7) := HB6.out.trans (t7.off.below HB6.out.size (fun k g => (H6.out.foot_lt g).1))
  clear d7 t7 H6 HB6
  rw [show max fu (-1) = -1 by omega] at H7
  have k0 : w7.cell? ⟨w.heap.size, 0, none⟩ = some (.int .i64 tk) := by rw [HB7.out.cell (p := ⟨w.heap.size, 0, none⟩) HK0.out.2.2]; exact HK0.out.1
  have k1 : w7.cell? ⟨w.heap.size, 1, none⟩ = some (.int .i64 tz) := by rw [HB7.out.cell (p := ⟨w.heap.size, 1, none⟩) HK0.out.2.2]; exact HK0.out.2.1
  have hsz : w.heap.size < w7.heap.size := Nat.lt_of_lt_of_le HK0.out.2.2 HB7.out.size
  obtain ⟨k, hk, hkb⟩ := betw_nat tk (m := ((ss ++ ts).length : Int) - ss.length) (by rw [List.length_append]; omega)
  obtain ⟨z, hz, hzb⟩ := betw_nat tz (m := ((ss ++ ts).length : Int) - ss.length - k) (by omega)
  have HKb : Hid (betw tk (((ss ++ ts).length : Int) - ss.length) = k) := hk
  have HZb : Hid (betw tz (((ss ++ ts).length : Int) - ss.length - k) = z) := hz
  have HKZ : Hid (k + z ≤ ts.length ∧ k ≤ ts.length) := by simp at hkb hzb; constructor <;> omega
  clear hk hz hkb hzb
  go_wp2_with fail
  have HT8 : Hid (Dsk (w7.alloc (.cells #[.int .i64 5, .int .i64 5, .int .i64 tk, .int .i64 tz] 37)) w0.heap.size w0.heap.size (.slice none 0 0) u6 [] (ss ++ ts) 0 ss.length 1 (-1) 2 1 0) := H7.out.off (P := fun _ => False) ((Off.refl _ _).alloc _) (fun _ _ => id)
  refine (Crash_ok (k0 := 0) (z0 := 0) (k1 := k) (z1 := z) HT8.out (by decide) (by decide) (by decide) HKb.out HZb.out).mono ?_
  rintro e w8 ⟨rfl, g1, g0, d8, t8⟩
  have H8 : Hid (Dsk w8 w0.heap.size w0.heap.size g1 g0 [] (torn (ss ++ ts) ss.length k z) 0 (torn (ss ++ ts) ss.length k z).length 1 (-1) 2 1 0) := d8
  have HB8 : Hid (Below w0.heap.size w0 w8) := (HB7.out.alloc HB7.out.size _).trans (t8.off.below (by have := HB7.out.size; simp; omega) (fun k g => (HT8.out.foot_lt g).1))
  clear d8 t8 HT8 k0 k1 hsz
  go_wp2_with fail
  refine (Image_ok H8.out (by decide)).mono ?_
  rintro e w9 ⟨a8, n8, c8, a9, n9, c9, rfl, r8, r9, b9⟩
  rw [List.take_length] at r9
  have hx9 : ((torn (ss ++ ts) ss.length k z).length : Int) = ss.length + k + z := by unfold torn; have := HKZ.out; simp; omega
  have hn8 : n8 = 0 := r8.byts'.1
  have hn9 : n9 = (torn (ss ++ ts) ss.length k z).length := r9.byts'.1
  obtain ⟨_, c9', e9, hc9, hm9, hz9⟩ := r9.slice
  simp only [Value.slice.injEq] at e9
  obtain ⟨rfl, e9n, rfl⟩ := e9
  clear e9n
  have HR9 : Hid (Row w9 w8.heap.size (.slice a9 n9 c9) (torn (ss ++ ts) ss.length k z)) := r9
  have HC9 : Hid ((torn (ss ++ ts) ss.length k z).length ≤ c9 ∧ c9 ≤ maxLen ∧ (a9 = none → c9 = 0)) := ⟨hc9, hm9, fun e => (hz9 e).2⟩
  have H9' : Hid (Dsk w9 w0.heap.size w0.heap.size g1 g0 [] (torn (ss ++ ts) ss.length k z) 0 (torn (ss ++ ts) ss.length k z).length 1 (-1) 2 1 0) := H8.out.below b9
  have HB9' : Hid (Below w0.heap.size w0 w9) := HB8.out.trans (b9.mono HB8.out.size)
  have k0 : w9.cell? ⟨w.heap.size, 0, none⟩ = some (.int .i64 tk) := by rw [HB9'.out.cell (p := ⟨w.heap.size, 0, none⟩) HK0.out.2.2]; exact HK0.out.1
  have k1 : w9.cell? ⟨w.heap.size, 1, none⟩ = some (.int .i64 tz) := by rw [HB9'.out.cell (p := ⟨w.heap.size, 1, none⟩) HK0.out.2.2]; exact HK0.out.2.1
  have hsz : w.heap.size < w9.heap.size := Nat.lt_of_lt_of_le HK0.out.2.2 HB9'.out.size
  have hc9' := hc9
  clear r8 r9 b9 hc9 hm9 hz9
  subst hn8
  go_wp2_with fail
  have hXl : (torn (ss ++ ts) ss.length k z).length = sl + k + z := by have h5 := HL2.out.2; omega
  rw [hXl] at hn9 hc9' ⊢
  clear hx9
  subst hn9
  have HXW : Hid (sl + k + z = (torn (ss ++ ts) ss.length k z).length ∧ Byts (w9.alloc (.cells #[.slice a8 0 c8, .slice a9 (sl + k + z) c9] 53)) a9 (sl + k + z) (torn (ss ++ ts) ss.length k z)) := ⟨HR9.out.byts'.1, HR9.out.byts'.2.1.off (P := fun _ => False) ((Off.refl _ _).alloc _) (fun _ _ _ => id)⟩
  have HW : Hid (Dsk (w9.alloc (.cells #[.slice a8 0 c8, .slice a9 (sl + k + z) c9] 53)) w0.heap.size w0.heap.size g1 g0 [] (torn (ss ++ ts) ss.length k z) 0 (torn (ss ++ ts) ss.length k z).length 1 (-1) 2 1 0) := H9'.out.off (P := fun _ => False) ((Off.refl _ _).alloc _) (fun _ _ => id)
  have HBW : Hid (Below w.heap.size w (w9.alloc (.cells #[.slice a8 0 c8, .slice a9 (sl + k + z) c9] 53))) := (HB0.out.trans (HB9'.out.mono HB0.out.size)).alloc (Nat.le_of_lt hsz) _
  have HSW : Hid (Byts (w9.alloc (.cells #[.slice a8 0 c8, .slice a9 (sl + k + z) c9] 53)) sa sl ss) := HS.out.below HBW.out
  have HTW : Hid (Byts (w9.alloc (.cells #[.slice a8 0 c8, .slice a9 (sl + k + z) c9] 53)) ta tl ts) := HT.out.below HBW.out
  have HLT : Hid (ss.length = sl ∧ ts.length = tl) := ⟨HL2.out.2, HL5.out.2⟩
  have HXl : Hid ((torn (ss ++ ts) ss.length k z).length = sl + k + z) := hXl
  clear hXl
  refine (Len1_ok HW.out (by decide)).mono ?_
  rintro e y1 ⟨he, rfl⟩
  rw [HXl.out] at he
  subst he
  go_wp2_with fail
  refine (Synced1_ok HW.out (by decide)).mono ?_
  rintro e y1 ⟨he, rfl⟩
  rw [HXl.out] at he
  subst he
  go_wp2_with fail
  refine (Alive_ok HW.out).mono ?_
  rintro e y1 ⟨rfl, rfl⟩
  go_wp2_with fail
  refine (begins_true (xs := (torn (ss ++ ts) ss.length k z)) (ys := ss) HXW.out.2 (by omega) HC9.out.2.1 HC9.out.2.2 HSW.out (torn_pre (by have := HLT.out; omega))).mono ?_
  rintro e y1 ⟨rfl, nd, rfl⟩
  have hm9 : c9 ≤ 2 ^ 63 - 1 := HC9.out.2.1
  have HYB : Hid (∀ C, C = c9 → (c9 = sl → Byts ((w9.alloc (.cells #[.slice a8 0 c8, .slice a9 (sl + k + z) c9] 53)).drewN nd) a9 (k + z) (ts.take k ++ List.replicate z 0)) ∧ (∀ g, a9 = some ⟨g, 0, none⟩ → Byts ((w9.alloc (.cells #[.slice a8 0 c8, .slice a9 (sl + k + z) c9] 53)).drewN nd) (some ⟨g, sl, none⟩) (k + z) (ts.take k ++ List.replicate z 0))) := fun C hC => torn_rest HXW.out.2 HLT.out.1 hc9' nd
  have HBD : Hid (Below w.heap.size w ((w9.alloc (.cells #[.slice a8 0 c8, .slice a9 (sl + k + z) c9] 53)).drewN nd)) := below_drewN HBW.out nd
  have p0 : ((w9.alloc (.cells #[.slice a8 0 c8, .slice a9 (sl + k + z) c9] 53)).drewN nd).cell? ⟨w9.heap.size, 1, none⟩ = some (.slice a9 (sl + k + z) c9) := by simp
  have k0' : ((w9.alloc (.cells #[.slice a8 0 c8, .slice a9 (sl + k + z) c9] 53)).drewN nd).cell? ⟨w.heap.size, 0, none⟩ = some (.int .i64 tk) := by simp [World.cell?_alloc_lt, hsz, k0]
  have k1' : ((w9.alloc (.cells #[.slice a8 0 c8, .slice a9 (sl + k + z) c9] 53)).drewN nd).cell? ⟨w.heap.size, 1, none⟩ = some (.int .i64 tz) := by simp [World.cell?_alloc_lt, hsz, k1]
  have HTD : Hid (Byts ((w9.alloc (.cells #[.slice a8 0 c8, .slice a9 (sl + k + z) c9] 53)).drewN nd) ta tl ts) := HTW.out.drew nd
  clear k0 k1
  generalize (w9.alloc (.cells #[.slice a8 0 c8, .slice a9 (sl + k + z) c9] 53)).drewN nd = W2 at HYB HBD p0 k0' k1' HTD ⊢
  go_upto_region 24 with fail
  go_cut [20] (fun s20 wx => ∃ (PO : Option Addr) (C : Nat), s20 = .slice PO (k + z) C ∧ k + z ≤ C ∧ C ≤ 2 ^ 63 - 1 ∧ wx = W2 ∧ Hid ((PO = none → C = 0) ∧ Byts W2 PO (k + z) (ts.take k ++ List.replicate z 0)))
  case first =>
    rcases HR9.out.form with ⟨e, hX0⟩ | ⟨g, cap, e, _⟩
    · simp only [Value.slice.injEq] at e
      obtain ⟨rfl, e2, rfl⟩ := e
      have hz0 : k + z = 0 := by omega
      go_wp2_with fail
      go_meet
      exact ⟨none, 0, by rw [hz0], by omega, by omega, rfl, fun _ => rfl, by rw [hz0]; exact ⟨(by have h1 : k = 0 := (by omega); have h2 : z = 0 := (by omega); rw [h1, h2]; simp), fun j hj => (by omega)⟩⟩
    · simp only [Value.slice.injEq] at e
      obtain ⟨rfl, e2, rfl⟩ := e
      clear e2
      by_cases hcs : c9 = sl
      · have hb8 := (HYB.out c9 rfl).1 hcs
        have HB8' : Hid (type_of% hb8) := hb8
        clear hb8
        go_wp2_with fail
        go_meet
        exact ⟨some ⟨g, 0, none⟩, 0, by rw [show sl + k + z - sl = k + z by omega], by omega, by omega, rfl, fun e => (by cases e), HB8'.out⟩
      · have hb8 := (HYB.out c9 rfl).2 g rfl
        have HB8' : Hid (type_of% hb8) := hb8
        clear hb8
        go_wp2_with fail
        go_meet
        exact ⟨some ⟨g, sl, none⟩, c9 - sl, by rw [show sl + k + z - sl = k + z by omega], by omega, by omega, rfl, fun e => (by cases e), HB8'.out⟩
  case rest =>
  obtain ⟨PO, C, rfl, hC1, hC2, hwc, HPB⟩ := hcut
  rw [hwc]
  clear hwc
  have HKM : Hid (min (max tk 0) (tl : Int) = k) := by have e := HKb.out; unfold betw at e; rw [List.length_append] at e; have := HLT.out; unfold Hid; omega
  have HZM : Hid (min (max tz 0) ((tl : Int) - k) = z) := by have e := HZb.out; unfold betw at e; rw [List.length_append] at e; have := HLT.out; unfold Hid; omega
  have hkz : k + z ≤ tl := by have := HKZ.out; have := HLT.out; omega
  go_upto_if 153 with fail
  go_cut [21] (fun s21 wx => s21 = .int .i64 (max tk 0) ∧ wx = W2)
  case first =>
    by_cases g : tk < 0
    · go_wp2_with fail
      go_meet
      exact ⟨by rw [show max tk 0 = 0 by omega], rfl⟩
    · go_wp2_with fail
      go_meet
      exact ⟨by rw [show max tk 0 = tk by omega], rfl⟩
  case rest =>
  obtain ⟨rfl, hwc⟩ := hcut
  rw [hwc]
  clear hwc
  obtain ⟨M, hM⟩ : ∃ M, max tk 0 = M := ⟨_, rfl⟩
  rw [hM] at HKM ⊢
  clear hM
  go_upto_if 157 with fail
  go_cut [21] (fun s21 wx => s21 = .int .i64 (k : Int) ∧ wx = W2)
  case first =>
    by_cases g : (tl : Int) < M
    · go_wp2_with fail
      go_meet
      exact ⟨congrArg _ (by have := HKM.out; omega), rfl⟩
    · go_wp2_with fail
      go_meet
      exact ⟨congrArg _ (by have := HKM.out; omega), rfl⟩
  case rest =>
  obtain ⟨rfl, hwc⟩ := hcut
  rw [hwc]
  clear hwc
  have hkC : ¬ ((k : Int) + z < k) := by omega
  have hktc : (k : Int) ≤ tc := by omega
  go_wp2_with fail
  refine (begins_true (xs := ts.take k ++ List.replicate z 0) (ys := ts.take k) HPB.out.2 hC1 hC2 HPB.out.1 (HTD.out.take (m := k) (by omega)) ⟨by simp, by rw [List.take_append_of_le_length (Nat.le_refl _), List.take_length]⟩).mono ?_
  rintro e y1 ⟨rfl, nd2, rfl⟩
  go_wp2_with fail
  have HCE : Hid (∀ j, k ≤ j → j < k + z → ∃ b o, PO = some ⟨b, o, none⟩ ∧ (W2.drewN nd2).cell? ⟨b, o + j, none⟩ = some (.int .u8 0)) := fun j h1 h2 => by
    obtain ⟨b, o, e, _, hc⟩ := HPB.out.2.cell j h2
    refine ⟨b, o, e, ?_⟩
    have e2 : (W2.drewN nd2).cell? ⟨b, o + j, none⟩ = W2.cell? ⟨b, o + j, none⟩ := rfl
    rw [e2, hc]
    congr 2
    have h3 : (ts.take k).length = k := by have := HKZ.out; simp; omega
    rw [List.getD_eq_getElem?_getD, List.getElem?_append_right (by omega), List.getElem?_replicate]
    split <;> rfl
  have hkzl : k + z ≤ 16777216 := by omega
  go_loopw [22] (fun ti wx => ∃ j : Nat, k ≤ j ∧ j ≤ k + z ∧ ti = .int .i64 j ∧ wx = W2.drewN nd2) (fun ti _ => (k + z) - (intOf ti).toNat)
  case atStart => exact ⟨k, Nat.le_refl _, by omega, rfl, rfl⟩
  case round =>
    obtain ⟨j, hj1, hj2, rfl, rfl⟩ := hrel
    by_cases hlt : j < k + z
    · obtain ⟨b, o, rfl, hcj⟩ := HCE.out j hj1 hlt
      have hlt1 : (j : Int) < (k : Int) + z := by omega
      go_wp2_with fail
      go_roundw
      case rel => exact ⟨j + 1, by omega, hlt, by go_num, by trivial⟩
      case measure => simp [intOf]; omega
    · have hlt1 : ¬ ((j : Int) < (k : Int) + z) := by omega
      clear hlt
      go_upto_if 187 with fail
      go_cut [23] (fun s23 wx => s23 = .int .i64 (max tz 0) ∧ wx = W2.drewN nd2)
      case first =>
        by_cases g : tz < 0
        · go_wp2_with fail
          go_meet
          exact ⟨by rw [show max tz 0 = 0 by omega], rfl⟩
        · go_wp2_with fail
          go_meet
          exact ⟨by rw [show max tz 0 = tz by omega], rfl⟩
      case rest =>
      obtain ⟨rfl, hwc⟩ := hcut
      rw [hwc]
      clear hwc
      obtain ⟨M2, hM2⟩ : ∃ M2, max tz 0 = M2 := ⟨_, rfl⟩
      rw [hM2] at HZM ⊢
      clear hM2
      go_upto_if 193 with fail
      go_cut [23] (fun s23 wx => s23 = .int .i64 (z : Int) ∧ wx = W2.drewN nd2)
      case first =>
        by_cases g : (tl : Int) - k < M2
        · go_wp2_with fail
          go_meet
          exact ⟨congrArg _ (by have := HZM.out; omega), rfl⟩
        · go_wp2_with fail
          go_meet
          exact ⟨congrArg _ (by have := HZM.out; omega), rfl⟩
      case rest =>
      obtain ⟨rfl, hwc⟩ := hcut
      rw [hwc]
      clear hwc
      go_wp2_with fail
      go_ret
      exact ⟨by simp, below_drewN HBD.out _⟩
end Go.Proofs.Ytaclonopgifgjaa
