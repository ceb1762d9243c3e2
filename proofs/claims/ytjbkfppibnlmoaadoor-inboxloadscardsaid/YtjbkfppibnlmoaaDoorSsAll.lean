/-
  The strong pair: tells of Last; all.
-/
import Derived.Test.YtjbkfppibnlmoaaDoorSsTell
namespace Go.Proofs.YtjbkfppibnlmoaaDoor
open Go.RowKit

section
variable {W w w' w2 : World} {X K n m : Nat} {bv mk ke rm L : Value} {o : Option (Int × Int)} {A A' : List Ent} {τ τ' : Nat → Nat} {P : Nat → Prop}
set_option maxRecDepth 100000 in
set_option maxHeartbeats 8000000 in
theorem tells4_s {mm : Nat} (h : SS W X K bv mk ke rm L o A A τ n mm w) (hn : n ≤ 700000) (po : Option Addr) (q co : Nat) : Calls Tryd.prog 15 #[.pointer (some ⟨X, 0, none⟩), .int .i64 4, .slice po q co] w fun e w' => e = .returned (.bool true) ∧ Hid (SQ W X K bv mk ke rm L o A A τ (n + 6) mm w w' (fun _ => False)) := by
  obtain ⟨q1, q2, q3⟩ := las_bnd h.sx.bnd.2.2
  have HI : Hid (SS W X K bv mk ke rm L o A A τ n mm w) := h
  have HU : Hid (∀ z, Below w.heap.size w z → Calls Tryd.prog 35 #[bv] z (EnS z (lasE A) (decide (0 < A.length)))) := fun z hz => x_last (h.below hz).sx
  have HR : Hid (∀ z, Below w.heap.size w z → Calls Tryd.prog 36 #[.pointer (some ⟨X, 1, none⟩)] z (EnQ z (lasE A) (decide (0 < A.length)))) := fun z hz => xr_last (h.below hz).sx
  have HX0 : Hid (∀ z, Below w.heap.size w z → z.cell? ⟨X, 0, none⟩ = some bv) := fun z hz => (h.below hz).cells.1
  have x0 := h.cells.1
  generalize lasE A = m at q1 q2 q3 HR HU
  generalize decide (0 < A.length) = t at HU HR
  have HN : Hid (m.tn ≤ 8192 ∧ m.cn ≤ 2048 ∧ m.an ≤ 2048) := ⟨q1, q2, q3⟩
  have hfu := HU.out w (Below.refl _ _)
  clear q1 q2 q3 h
  go_enter Tryd.func15, Tryd.ntmps15
  go_wp2_with fail
  refine hfu.mono ?_
  rintro _ w1 ⟨a, c, a', c', a'', c'', rfl, ho1, b1, s1⟩
  clear hfu x0
  go_upto_region 4 with fail
  have HV1 : Hid (Below w.heap.size w (w1.alloc (.cells #[.string m.ct, .slice a m.tn c, .int .i64 m.nu, .int .i64 m.tk, .slice a' m.cn c', .string m.cd, .slice a'' m.an c''] 30)) ∧ (w1.alloc (.cells #[.string m.ct, .slice a m.tn c, .int .i64 m.nu, .int .i64 m.tk, .slice a' m.cn c', .string m.cd, .slice a'' m.an c''] 30)).heap[w1.heap.size]? = some (.cells #[.string m.ct, .slice a m.tn c, .int .i64 m.nu, .int .i64 m.tk, .slice a' m.cn c', .string m.cd, .slice a'' m.an c''] 30 (0, 0)) ∧ Own (w1.alloc (.cells #[.string m.ct, .slice a m.tn c, .int .i64 m.nu, .int .i64 m.tk, .slice a' m.cn c', .string m.cd, .slice a'' m.an c''] 30)) w.heap.size (m.wi a c a' c' a'' c'')) := ⟨b1.alloc b1.size _, heap_alloc_new _ _, ho1.below ((Below.refl _ _).alloc (Nat.le_refl _) _)⟩
  have B01 : Hid (w.heap.size ≤ w1.heap.size) := b1.size
  have HS1 : Hid (Sep (m.wi a c a' c' a'' c'') ∧ ∀ q, Blk (m.wi a c a' c' a'' c'') q → w.heap.size ≤ q ∧ q < w1.heap.size) := ⟨s1, fun q hq => ho1.blk hq⟩
  have HW1 : Hid (w1.heap.size ≤ (w1.alloc (.cells #[.string m.ct, .slice a m.tn c, .int .i64 m.nu, .int .i64 m.tk, .slice a' m.cn c', .string m.cd, .slice a'' m.an c''] 30)).heap.size) := by unfold Hid; simp
  clear ho1 b1 s1
  obtain ⟨V1, hV1⟩ : ∃ V, w1.alloc (.cells #[.string m.ct, .slice a m.tn c, .int .i64 m.nu, .int .i64 m.tk, .slice a' m.cn c', .string m.cd, .slice a'' m.an c''] 30) = V := ⟨_, rfl⟩
  rw [hV1] at HV1 HW1 ⊢
  clear hV1
  obtain ⟨A1, hA1⟩ : ∃ b, w1.heap.size = b := ⟨_, rfl⟩
  rw [hA1] at HV1 ⊢
  have b0s : Hid (w.heap.size ≤ w1.heap.size) := B01.out
  have HA1 : Hid (w.heap.size ≤ A1) := by unfold Hid; rw [← hA1]; exact B01.out
  clear hA1
  have hfr := HR.out V1 HV1.out.1
  go_wp2_with fail
  refine hfr.mono ?_
  rintro _ w2 ⟨p, d, p', d', p'', d'', rfl, ho2, b2⟩
  clear hfr HR
  go_upto_region 5 with fail
  have HV2 : Hid (Below w.heap.size w (w2.alloc (.cells #[.string m.ct, .slice p m.tn d, .int .i64 m.nu, .int .i64 m.tk, .slice p' m.cn d', .string m.cd, .slice p'' m.an d''] 30)) ∧ (w2.alloc (.cells #[.string m.ct, .slice p m.tn d, .int .i64 m.nu, .int .i64 m.tk, .slice p' m.cn d', .string m.cd, .slice p'' m.an d''] 30)).heap[w2.heap.size]? = some (.cells #[.string m.ct, .slice p m.tn d, .int .i64 m.nu, .int .i64 m.tk, .slice p' m.cn d', .string m.cd, .slice p'' m.an d''] 30 (0, 0)) ∧ Own (w2.alloc (.cells #[.string m.ct, .slice p m.tn d, .int .i64 m.nu, .int .i64 m.tk, .slice p' m.cn d', .string m.cd, .slice p'' m.an d''] 30)) V1.heap.size (m.wi p d p' d' p'' d'') ∧ (w2.alloc (.cells #[.string m.ct, .slice p m.tn d, .int .i64 m.nu, .int .i64 m.tk, .slice p' m.cn d', .string m.cd, .slice p'' m.an d''] 30)).heap[A1]? = some (.cells #[.string m.ct, .slice a m.tn c, .int .i64 m.nu, .int .i64 m.tk, .slice a' m.cn c', .string m.cd, .slice a'' m.an c''] 30 (0, 0)) ∧ Own (w2.alloc (.cells #[.string m.ct, .slice p m.tn d, .int .i64 m.nu, .int .i64 m.tk, .slice p' m.cn d', .string m.cd, .slice p'' m.an d''] 30)) w.heap.size (m.wi a c a' c' a'' c'')) := by
    have b3 : Below V1.heap.size V1 (w2.alloc (.cells #[.string m.ct, .slice p m.tn d, .int .i64 m.nu, .int .i64 m.tk, .slice p' m.cn d', .string m.cd, .slice p'' m.an d''] 30)) := b2.alloc b2.size _
    exact ⟨below_then HV1.out.1 b3, heap_alloc_new _ _, ho2.below ((Below.refl _ _).alloc (Nat.le_refl _) _), blk_below HV1.out.2.1 b3, HV1.out.2.2.below b3⟩
  have B02 : Hid (w.heap.size ≤ w2.heap.size) := Nat.le_trans HV1.out.1.size b2.size
  have HV21 : Hid (V1.heap.size ≤ (w2.alloc (.cells #[.string m.ct, .slice p m.tn d, .int .i64 m.nu, .int .i64 m.tk, .slice p' m.cn d', .string m.cd, .slice p'' m.an d''] 30)).heap.size) := (b2.alloc b2.size _).size
  clear ho2 b2 HV1
  obtain ⟨V2, hV2⟩ : ∃ V, w2.alloc (.cells #[.string m.ct, .slice p m.tn d, .int .i64 m.nu, .int .i64 m.tk, .slice p' m.cn d', .string m.cd, .slice p'' m.an d''] 30) = V := ⟨_, rfl⟩
  rw [hV2] at HV2 HV21 ⊢
  clear hV2
  obtain ⟨A2, hA2⟩ : ∃ b, w2.heap.size = b := ⟨_, rfl⟩
  rw [hA2] at HV2 ⊢
  have HA2 : Hid (w.heap.size ≤ A2) := by unfold Hid; rw [← hA2]; exact B02.out
  clear hA2
  have hfv := HU.out V2 HV2.out.1
  have x2 := HX0.out V2 HV2.out.1
  go_wp2_with fail
  refine hfv.mono ?_
  rintro _ w3 ⟨g, k, g', k', g'', k'', rfl, ho3, b3, s3⟩
  clear hfv HU x2 HX0
  go_upto_region 6 with fail
  have HV3 : Hid (Below w.heap.size w (w3.alloc (.cells #[.string m.ct, .slice g m.tn k, .int .i64 m.nu, .int .i64 m.tk, .slice g' m.cn k', .string m.cd, .slice g'' m.an k''] 30)) ∧ (w3.alloc (.cells #[.string m.ct, .slice g m.tn k, .int .i64 m.nu, .int .i64 m.tk, .slice g' m.cn k', .string m.cd, .slice g'' m.an k''] 30)).heap[w3.heap.size]? = some (.cells #[.string m.ct, .slice g m.tn k, .int .i64 m.nu, .int .i64 m.tk, .slice g' m.cn k', .string m.cd, .slice g'' m.an k''] 30 (0, 0)) ∧ Own (w3.alloc (.cells #[.string m.ct, .slice g m.tn k, .int .i64 m.nu, .int .i64 m.tk, .slice g' m.cn k', .string m.cd, .slice g'' m.an k''] 30)) V2.heap.size (m.wi g k g' k' g'' k'') ∧ (w3.alloc (.cells #[.string m.ct, .slice g m.tn k, .int .i64 m.nu, .int .i64 m.tk, .slice g' m.cn k', .string m.cd, .slice g'' m.an k''] 30)).heap[A2]? = some (.cells #[.string m.ct, .slice p m.tn d, .int .i64 m.nu, .int .i64 m.tk, .slice p' m.cn d', .string m.cd, .slice p'' m.an d''] 30 (0, 0)) ∧ Own (w3.alloc (.cells #[.string m.ct, .slice g m.tn k, .int .i64 m.nu, .int .i64 m.tk, .slice g' m.cn k', .string m.cd, .slice g'' m.an k''] 30)) V1.heap.size (m.wi p d p' d' p'' d'') ∧ (w3.alloc (.cells #[.string m.ct, .slice g m.tn k, .int .i64 m.nu, .int .i64 m.tk, .slice g' m.cn k', .string m.cd, .slice g'' m.an k''] 30)).heap[A1]? = some (.cells #[.string m.ct, .slice a m.tn c, .int .i64 m.nu, .int .i64 m.tk, .slice a' m.cn c', .string m.cd, .slice a'' m.an c''] 30 (0, 0)) ∧ Own (w3.alloc (.cells #[.string m.ct, .slice g m.tn k, .int .i64 m.nu, .int .i64 m.tk, .slice g' m.cn k', .string m.cd, .slice g'' m.an k''] 30)) w.heap.size (m.wi a c a' c' a'' c'')) := by
    have b4 : Below V2.heap.size V2 (w3.alloc (.cells #[.string m.ct, .slice g m.tn k, .int .i64 m.nu, .int .i64 m.tk, .slice g' m.cn k', .string m.cd, .slice g'' m.an k''] 30)) := b3.alloc b3.size _
    exact ⟨below_then HV2.out.1 b4, heap_alloc_new _ _, ho3.below ((Below.refl _ _).alloc (Nat.le_refl _) _), blk_below HV2.out.2.1 b4, HV2.out.2.2.1.below b4, blk_below HV2.out.2.2.2.1 b4, HV2.out.2.2.2.2.below b4⟩
  have B03 : Hid (w.heap.size ≤ w3.heap.size) := Nat.le_trans HV2.out.1.size b3.size
  have HS3 : Hid (Sep (m.wi g k g' k' g'' k'') ∧ (∀ q, Blk (m.wi g k g' k' g'' k'') q → V2.heap.size ≤ q) ∧ w1.heap.size ≤ V2.heap.size) := ⟨s3, fun q hq => (ho3.blk hq).1, Nat.le_trans HW1.out HV21.out⟩
  clear ho3 b3 HV2 s3
  obtain ⟨V3, hV3⟩ : ∃ V, w3.alloc (.cells #[.string m.ct, .slice g m.tn k, .int .i64 m.nu, .int .i64 m.tk, .slice g' m.cn k', .string m.cd, .slice g'' m.an k''] 30) = V := ⟨_, rfl⟩
  rw [hV3] at HV3 ⊢
  clear hV3
  obtain ⟨A3, hA3⟩ : ∃ b, w3.heap.size = b := ⟨_, rfl⟩
  rw [hA3] at HV3 ⊢
  have HAs : Hid (w.heap.size ≤ A1 ∧ w.heap.size ≤ A2 ∧ w.heap.size ≤ A3) := ⟨HA1.out, HA2.out, by rw [← hA3]; exact B03.out⟩
  clear hA3
  have HWs := HI.out.bel.size
  have Hnew := HI.out.new
  have hws := HV3.out.1.size
  have hv2 : w.heap.size ≤ V2.heap.size := by have := HS3.out.2.2; have := b0s.out; omega
  have E1 : Hid (TkE V3 W.heap.size τ (m.wi a c a' c' a'' c'')) := ⟨HV3.out.2.2.2.2.2.2.base HWs, HS1.out.1, fun q hq => Hnew q (HS1.out.2 q hq).1, HN.out.1, HN.out.2.1, HN.out.2.2⟩
  have E3 : Hid (TkE V3 W.heap.size τ (m.wi g k g' k' g'' k'')) := ⟨HV3.out.2.2.1.base (by omega), HS3.out.1, fun q hq => Hnew q (by have := HS3.out.2.1 q hq; omega), HN.out.1, HN.out.2.1, HN.out.2.2⟩
  have cx := hcell HV3.out.2.2.2.2.2.1
  have htk := (SQ.start (HI.out.below HV3.out.1)).tk (by omega) (m.wi a c a' c' a'' c'') E1.out fun q _ => id
  go_wp2_with fail
  refine htk.mono ?_
  rintro _ w4 ⟨rfl, H4⟩
  clear htk cx
  have hA : ∀ q, w.heap.size ≤ q → τ q = 0 := Hnew
  have l3 : ∀ {q : Nat} {x : Obj}, V3.heap[q]? = some x → q < V3.heap.size := fun hx => blk_lt hx
  have HB3 : Hid (w.heap.size ≤ A1 ∧ w.heap.size ≤ A2 ∧ w.heap.size ≤ A3) := HAs
  have cx := hcell (H4.out.blk HV3.out.2.1 (hA _ HB3.out.2.2))
  have htk := H4.out.tk (by omega) (m.wi g k g' k' g'' k'') E3.out fun q hq pp => pp.elim id fun pp => by
    have := (HS1.out.2 q pp).2
    have := HS3.out.2.1 q hq
    have := HS3.out.2.2
    omega
  go_wp2_with fail
  refine htk.mono ?_
  rintro _ w5 ⟨rfl, H5⟩
  clear htk cx
  have HV5 : Hid (w5.heap[A3]? = some (.cells #[.string m.ct, .slice g m.tn k, .int .i64 m.nu, .int .i64 m.tk, .slice g' m.cn k', .string m.cd, .slice g'' m.an k''] 30 (0, 0)) ∧ Own w5 W.heap.size (m.wi g k g' k' g'' k'') ∧ w5.heap[A2]? = some (.cells #[.string m.ct, .slice p m.tn d, .int .i64 m.nu, .int .i64 m.tk, .slice p' m.cn d', .string m.cd, .slice p'' m.an d''] 30 (0, 0)) ∧ Own w5 V1.heap.size (m.wi p d p' d' p'' d'') ∧ w5.heap[A1]? = some (.cells #[.string m.ct, .slice a m.tn c, .int .i64 m.nu, .int .i64 m.tk, .slice a' m.cn c', .string m.cd, .slice a'' m.an c''] 30 (0, 0)) ∧ Own w5 W.heap.size (m.wi a c a' c' a'' c'')) := ⟨H5.out.blk HV3.out.2.1 (hA _ HB3.out.2.2), H5.out.own E3.out.own E3.out.free, H5.out.blk HV3.out.2.2.2.1 (hA _ HB3.out.2.1), H5.out.own HV3.out.2.2.2.2.1 (fun q hq => hA q (by have := (HV3.out.2.2.2.2.1.blk hq).1; have := b0s.out; have := HW1.out; omega)), H5.out.blk HV3.out.2.2.2.2.2.1 (hA _ HB3.out.1), H5.out.own E1.out.own E1.out.free⟩
  have HQ5 : Hid (SQ W X K bv mk ke rm L o A A τ (n + 6) mm w w5 (fun _ => False)) := SQ.lift HV3.out.1 H5.out fun q hq => by
    rcases hq with (p | p) | p
    · exact p.elim
    · exact (HS1.out.2 q p).1
    · have := HS3.out.2.1 q p; omega
  clear H5 H4 HV3 HI hA E1 E3 l3 Hnew
  have cx := hcell HV5.out.2.2.2.2.1
  have cy := hcell HV5.out.2.2.1
  have hsm := same_true (m.wi a c a' c' a'' c'') (w := w5) (p := p) (c := d) (q := p') (d := d') (r := p'') (f := d'') HV5.out.2.2.2.2.2.lies HV5.out.2.2.2.1.lies (by show m.tn ≤ _; have := HN.out.1; omega) (by show m.cn ≤ _; have := HN.out.2.1; omega) (by show m.an ≤ _; have := HN.out.2.2; omega)
  go_wp2_with fail
  refine hsm.mono ?_
  rintro _ w6 ⟨rfl, b6⟩
  clear hsm cx cy
  have cx := hcell (blk_below HV5.out.1 b6)
  have cy := hcell (blk_below HV5.out.2.2.1 b6)
  have hsm := same_true (m.wi g k g' k' g'' k'') (w := w6) (p := p) (c := d) (q := p') (d := d') (r := p'') (f := d'') (HV5.out.2.1.below b6).lies (HV5.out.2.2.2.1.below b6).lies (by show m.tn ≤ _; have := HN.out.1; omega) (by show m.cn ≤ _; have := HN.out.2.1; omega) (by show m.an ≤ _; have := HN.out.2.2; omega)
  have HL : Hid (SQ W X K bv mk ke rm L o A A τ (n + 6) mm w w6 (fun _ => False)) := HQ5.out.below b6
  clear HV5 b6
  go_wp2_with fail
  refine hsm.mono ?_
  rintro _ w7 ⟨rfl, b7⟩
  have HZ : Hid (SQ W X K bv mk ke rm L o A A τ (n + 6) mm w w7 (fun _ => False)) := HL.out.below b7
  clear hsm b7 cx cy
  go_wp2_with fail
  go_ret
  exact ⟨rfl, HZ⟩
set_option maxRecDepth 100000 in
set_option maxHeartbeats 8000000 in
theorem all_s (h : SS W X K bv mk ke rm L o A A τ n m w) (hn : n ≤ 500000) (hm : m + 4 ≤ 80) : Calls Tryd.prog 5 #[.pointer (some ⟨X, 0, none⟩)] w fun e w' => e = .returned (.bool true) ∧ Hid (SQ W X K bv mk ke rm L o A A τ (n + 2000) (m + 4) w w' (fun _ => False)) := by
  have HL : Hid (SS W X K bv mk ke rm L o A A τ n m w) := h
  have hop := xr_open h.sx
  clear h
  go_enter Tryd.func5, Tryd.ntmps5
  go_wp2_with fail
  refine hop.mono ?_
  rintro _ w1 ⟨a, c, rfl, t1, b1⟩
  have L1 : Hid (SS W X K bv mk ke rm L o A A τ n m w1 ∧ TRow w1 w.heap.size (.slice a (opS A).length c) (opS A) ∧ Below w.heap.size w w1 ∧ ∀ q, w.heap.size ≤ q → τ q = 0) := ⟨HL.out.below b1, t1, b1, HL.out.new⟩
  obtain ⟨ol, hol⟩ : ∃ k, (opS A).length = k := ⟨_, rfl⟩
  rw [hol] at L1 ⊢
  clear hop t1 b1 HL hol
  go_wp2_with fail
  refine (tells4_s L1.out.1 (by omega) a ol c).mono ?_
  rintro _ w2 ⟨rfl, H2⟩
  go_wp2_with fail
  have R2 : Hid (∃ τ2, SS W X K bv mk ke rm L o A A τ2 (n + 6) m w2 ∧ TkQ τ τ2 w1 w2 (fun _ => False)) := H2.out
  obtain ⟨τ2, S2, T2⟩ := R2.out
  have z2 : ∀ b, (Value.slice a ol c).ownBlock = some b → τ2 b = 0 := fun b hb => by rw [T2.keep b (ERow.lt L1.out.2.1 hb).2 id]; exact L1.out.2.2.2 b (ERow.lt L1.out.2.1 hb).1
  have t2 := H2.out.row L1.out.2.1 fun b hb => L1.out.2.2.2 b (ERow.lt L1.out.2.1 hb).1
  refine (tells5_s S2 (by omega) t2 z2).mono ?_
  rintro _ w3 ⟨rfl, H3⟩
  have R3 : Hid (∃ τ3, SS W X K bv mk ke rm L o A A τ3 (n + 6) (m + 2) w3 ∧ TkQ τ τ3 w1 w3 (fun _ => False)) := by
    obtain ⟨τ3, S3, T3⟩ := H3.out
    exact ⟨τ3, S3, T2.trans T3 (fun q hq => Or.inl hq) fun q hq => hq.elim id id⟩
  clear H2 H3 R2 S2 T2 z2 t2
  go_wp2_with fail
  obtain ⟨τ3, S3, T3⟩ := R3.out
  refine (tells6_s S3 (by omega) (by omega) a ol c).mono ?_
  rintro _ w4 ⟨rfl, H4⟩
  have R4 : Hid (SQ W X K bv mk ke rm L o A A τ (n + 2000) (m + 4) w1 w4 (fun _ => False)) := by
    obtain ⟨τ4, S4, T4⟩ := H4.out
    exact ⟨τ4, S4.mono (by omega) (by omega), T3.trans T4 (fun q hq => Or.inl hq) fun q hq => hq.elim id id⟩
  clear H4 R3 S3 T3
  go_wp2_with fail
  refine (tells7_s R4.out.sx a ol c).mono ?_
  rintro _ w5 ⟨rfl, b5⟩
  have HZ : Hid (SQ W X K bv mk ke rm L o A A τ (n + 2000) (m + 4) w w5 (fun _ => False)) := SQ.lift L1.out.2.2.1 (R4.out.below b5) fun q hq => hq.elim
  clear R4 b5 L1
  go_wp2_with fail
  go_ret
  exact ⟨rfl, HZ⟩
end
end Go.Proofs.YtjbkfppibnlmoaaDoor
