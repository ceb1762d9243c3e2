/-
  The law's 'lives', walked.
-/
import Derived.Test.YtelhiihbgnfpiaaDoorIbLives
namespace Go.Proofs.YtelhiihbgnfpiaaDoor
open Go.RowKit

section
variable {W w : World} {b sb M : Nat} {es : List Ent}
theorem lv_acc {ct : ByteArray} {tk : Int} {g : Nat} (L : Li W w b sb M 1 3 es) (hk : KeyS ct) (hl : Lies w (plE ct tk g)) (hz : accC 3 es (plE ct tk g) = 0) : Calls Tryd.prog 10 #[.pointer (some ⟨b, 0, none⟩), .agg #[.string ct, .slice (some ⟨g, 0, none⟩) 1 1, .int .i64 0, .int .i64 tk, .slice none 0 0, .string ⟨#[]⟩, .slice none 0 0]] w fun r w' => r = .returned .nilIface ∧ Hid (∃ A : Ad, Li W w' b sb M 1 3 (es ++ [lvE ct tk A])) :=
  (li_acc_yes L (plE ct tk g) hk hl hz).mono fun r w' ⟨h1, h2⟩ => ⟨h1, by
    obtain ⟨a, c, a', c', a'', c'', h3⟩ := h2.out
    exact ⟨⟨a, c, a', c', a'', c''⟩, h3⟩⟩
theorem vdAA : vdB kAA = true := by kernel_rfl
theorem lv_decB {A1 A2 A3 : Ad} {po : Option Addr} {co : Nat} (L : Li W w b sb M 1 3 [lvE nA 0 A1, lvE nB 1 A2, lvE nC 1 A3]) (hb : Byts w po 1 [121]) : Calls Tryd.prog 12 #[.pointer (some ⟨b, 0, none⟩), .string ⟨#[98]⟩, .string ⟨#[65, 65]⟩, .slice po 1 co] w fun r w' => ∃ a k, r = .returned (.tuple #[.slice a 0 k, .nilIface]) ∧ Hid (∃ A2, Li W w' b sb M 1 3 [lvE nA 0 A1, lvD nB 1 A2 1 [121], lvE nC 1 A3]) :=
  (li_dec_yes L (key1 _) hb vdAA (by decide) lv4 rfl (by kernel_rfl)).mono fun r w' ⟨a, k, m, h1, h2⟩ => by
    obtain ⟨p, c, h3, h4, h5⟩ := h2.out
    rw [lv5] at h4
    rw [lv6] at h5
    obtain rfl : m = 0 := h4
    exact ⟨a, k, h1, _, h5⟩
theorem lv_decC {A1 A2 A3 : Ad} (L : Li W w b sb M 1 3 [lvE nA 0 A1, lvD nB 1 A2 1 [121], lvE nC 1 A3]) : Calls Tryd.prog 12 #[.pointer (some ⟨b, 0, none⟩), .string ⟨#[99]⟩, .string ⟨#[65, 65]⟩, .slice none 0 0] w fun r w' => ∃ a k, r = .returned (.tuple #[.slice a 0 k, .nilIface]) ∧ Hid (∃ A3, Li W w' b sb M 1 3 [lvE nA 0 A1, lvD nB 1 A2 1 [121], lvD nC 1 A3 0 []]) :=
  (li_dec_yes L (key1 _) (Byts.nil _ _) vdAA (by decide) lv7 rfl (by kernel_rfl)).mono fun r w' ⟨a, k, m, h1, h2⟩ => by
    obtain ⟨p, c, h3, h4, h5⟩ := h2.out
    rw [lv8] at h4
    rw [lv9] at h5
    obtain rfl : m = 0 := h4
    exact ⟨a, k, h1, _, h5⟩
theorem lv_decA {A1 A2 A3 : Ad} (L : Li W w b sb M 1 3 [lvE nA 0 A1, lvD nB 1 A2 1 [121], lvD nC 1 A3 0 []]) : Calls Tryd.prog 12 #[.pointer (some ⟨b, 0, none⟩), .string ⟨#[97]⟩, .string ⟨#[65, 65]⟩, .slice none 0 0] w fun r w' => ∃ a k, r = .returned (.tuple #[.slice a 1 k, .nilIface]) ∧ Hid (TRow w' w.heap.size (.slice a 1 k) [nA] ∧ Li W w' b sb M 1 3 [lvD nB 1 A2 1 [121], lvD nC 1 A3 0 []]) :=
  (li_dec_yes L (key1 _) (Byts.nil _ _) vdAA (by decide) lv10 rfl (by kernel_rfl)).mono fun r w' ⟨a, k, m, h1, h2⟩ => by
    obtain ⟨p, c, h3, h4, h5⟩ := h2.out
    rw [lv11] at h4 h3
    rw [lv12] at h5
    obtain rfl : m = 1 := h4
    exact ⟨a, k, h1, h3, h5⟩
theorem lv_findB {A2 A3 : Ad} (L : Li W w b sb M 1 3 [lvD nB 1 A2 1 [121], lvD nC 1 A3 0 []]) : Calls Tryd.prog 13 #[.pointer (some ⟨b, 0, none⟩), .string ⟨#[98]⟩] w fun r w' => ∃ A : Ad, r = .returned (.tuple #[.agg #[.string nB, .slice A.p 1 A.c, .int .i64 0, .int .i64 1, .slice A.p' 0 A.c', .string kAA, .slice A.p'' 1 A.c''], .bool true]) ∧ Hid (Byts w' A.p'' 1 [121] ∧ Below w.heap.size w w') :=
  (li_find_yes L (key1 _) lv13 rfl).mono fun _ _ ⟨a, c, a', c', a'', c'', h1, h2, h3⟩ => ⟨⟨a, c, a', c', a'', c''⟩, h1, h2.a.byts, h3⟩
theorem lv_findA {A2 A3 : Ad} (L : Li W w b sb M 1 3 [lvD nB 1 A2 1 [121], lvD nC 1 A3 0 []]) : Calls Tryd.prog 13 #[.pointer (some ⟨b, 0, none⟩), .string ⟨#[97]⟩] w fun r w' => ∃ A : Ad, r = .returned (.tuple #[.agg #[.string ⟨#[]⟩, .slice A.p 0 A.c, .int .i64 0, .int .i64 0, .slice A.p' 0 A.c', .string ⟨#[]⟩, .slice A.p'' 0 A.c''], .bool false]) ∧ Hid (Below w.heap.size w w') :=
  (li_find_no L (key1 _) lv14).mono fun _ _ ⟨a, c, a', c', a'', c'', h1, _, h3⟩ => ⟨⟨a, c, a', c', a'', c''⟩, h1, h3⟩
end
theorem strOf_y : strOf [121] = ⟨#[121]⟩ := by kernel_rfl
set_option maxRecDepth 100000 in
set_option maxHeartbeats 8000000 in
theorem lives_any (w : World) : Calls Tryd.prog 5 #[] w fun r w' => r = .returned (.bool true) ∧ Below w.heap.size w w' := by
  go_enter Tryd.func5, Tryd.ntmps5
  go_wp2_with fail
  refine (li_new w w (Below.refl _ _) (K := 1) (R := 3) (by decide) (by decide) (by decide) (by decide)).mono ?_
  rintro _ w1 ⟨b, sb, M, rfl, H1⟩
  go_wp2_with fail
  refine (plain_any _ _ w1).mono ?_
  rintro _ w2 ⟨rfl, hl2, hb2⟩
  have hac := lv_acc (H1.out.1.below hb2) (key1 _) hl2 (lv1 _)
  clear hl2 hb2 H1
  go_wp2_with fail
  refine hac.mono ?_
  rintro _ w3 ⟨rfl, h3⟩
  obtain ⟨A1, h3⟩ := h3.out
  have H3 : Hid (Li w w3 b sb M 1 3 [lvE nA 0 A1]) := h3
  clear hac h3
  go_wp2_with fail
  refine (plain_any _ _ w3).mono ?_
  rintro _ w4 ⟨rfl, hl4, hb4⟩
  have hac := lv_acc (H3.out.below hb4) (key1 _) hl4 (lv2 _)
  clear hl4 hb4 H3
  go_wp2_with fail
  refine hac.mono ?_
  rintro _ w5 ⟨rfl, h5⟩
  obtain ⟨A2, h5⟩ := h5.out
  have H5 : Hid (Li w w5 b sb M 1 3 [lvE nA 0 A1, lvE nB 1 A2]) := h5
  clear hac h5
  go_wp2_with fail
  refine (plain_any _ _ w5).mono ?_
  rintro _ w6 ⟨rfl, hl6, hb6⟩
  have hac := lv_acc (H5.out.below hb6) (key1 _) hl6 (lv3 _)
  clear hl6 hb6 H5
  go_wp2_with fail
  refine hac.mono ?_
  rintro _ w7 ⟨rfl, h7⟩
  obtain ⟨A3, h7⟩ := h7.out
  have H7 : Hid (Li w w7 b sb M 1 3 [lvE nA 0 A1, lvE nB 1 A2, lvE nC 1 A3]) := h7
  clear hac h7
  have hcv := Lib.run_convert_bytes_const (P := Tryd.prog) w7 33 5 #[.int .u8 121] 1 1 Tryd.underlying33 Tryd.underlying5
  rw [show (#[Value.int .u8 121] : Array Value).size = 1 from rfl] at hcv
  have hdb := lv_decB (po := some ⟨w7.heap.size, 0, none⟩) (co := 1) (H7.out.below ((Below.refl _ _).alloc (Nat.le_refl _) (.cells #[.int .u8 121] 5 (1, 2)))) (byts_x w7 121)
  clear H7
  go_wp2_with fail
  refine hdb.mono ?_
  rintro _ w8 ⟨a8, k8, rfl, h8⟩
  obtain ⟨B2, h8⟩ := h8.out
  have H8 : Hid (Li w w8 b sb M 1 3 [lvE nA 0 A1, lvD nB 1 B2 1 [121], lvE nC 1 A3]) := h8
  clear hdb hcv h8
  have hdc := lv_decC H8.out
  go_wp2_with fail
  refine hdc.mono ?_
  rintro _ w9 ⟨a9, k9, rfl, h9⟩
  obtain ⟨B3, h9⟩ := h9.out
  have H9 : Hid (Li w w9 b sb M 1 3 [lvE nA 0 A1, lvD nB 1 B2 1 [121], lvD nC 1 B3 0 []]) := h9
  clear hdc h9 H8
  have hda := lv_decA H9.out
  go_wp2_with fail
  refine hda.mono ?_
  rintro _ w10 ⟨a10, k10, rfl, h10⟩
  have H10 : Hid (TRow w10 0 (.slice a10 1 k10) [nA] ∧ Li w w10 b sb M 1 3 [lvD nB 1 B2 1 [121], lvD nC 1 B3 0 []]) := ⟨ERow.base h10.out.1 (Nat.zero_le _), h10.out.2⟩
  clear hda h10 H9
  have hfb := lv_findB H10.out.2
  go_wp2_with fail
  refine hfb.mono ?_
  rintro _ w11 ⟨E1, rfl, h11⟩
  have bE : Below w11.heap.size w11 (w11.alloc (.cells #[.string nB, .slice E1.p 1 E1.c, .int .i64 0, .int .i64 1, .slice E1.p' 0 E1.c', .string kAA, .slice E1.p'' 1 E1.c''] 35)) := (Below.refl _ _).alloc (Nat.le_refl _) _
  have bxE := Box.new w11 #[.string nB, .slice E1.p 1 E1.c, .int .i64 0, .int .i64 1, .slice E1.p' 0 E1.c', .string kAA, .slice E1.p'' 1 E1.c''] 35
  obtain ⟨V, hV⟩ : ∃ V, w11.alloc (.cells #[.string nB, .slice E1.p 1 E1.c, .int .i64 0, .int .i64 1, .slice E1.p' 0 E1.c', .string kAA, .slice E1.p'' 1 E1.c''] 35) = V := ⟨_, rfl⟩
  rw [hV] at bE bxE
  have HV : Hid (Byts V E1.p'' 1 [121] ∧ Box V w11.heap.size #[.string nB, .slice E1.p 1 E1.c, .int .i64 0, .int .i64 1, .slice E1.p' 0 E1.c', .string kAA, .slice E1.p'' 1 E1.c''] ∧ TRow V 0 (.slice a10 1 k10) [nA] ∧ Li w V b sb M 1 3 [lvD nB 1 B2 1 [121], lvD nC 1 B3 0 []]) := ⟨h11.out.1.below bE, bxE, (H10.out.1.below h11.out.2).below bE, (H10.out.2.below h11.out.2).below bE⟩
  clear hfb h11 bE bxE H10
  have hfa := lv_findA HV.out.2.2.2
  go_wp2_with fail
  clear hV
  refine hfa.mono ?_
  rintro _ w12 ⟨E2, rfl, h12⟩
  have bF : Below w12.heap.size w12 (w12.alloc (.cells #[.string ⟨#[]⟩, .slice E2.p 0 E2.c, .int .i64 0, .int .i64 0, .slice E2.p' 0 E2.c', .string ⟨#[]⟩, .slice E2.p'' 0 E2.c''] 35)) := (Below.refl _ _).alloc (Nat.le_refl _) _
  obtain ⟨V2, hV2⟩ : ∃ V2, w12.alloc (.cells #[.string ⟨#[]⟩, .slice E2.p 0 E2.c, .int .i64 0, .int .i64 0, .slice E2.p' 0 E2.c', .string ⟨#[]⟩, .slice E2.p'' 0 E2.c''] 35) = V2 := ⟨_, rfl⟩
  rw [hV2] at bF
  have b12 : Below V.heap.size V V2 := below_then h12.out bF
  obtain ⟨eb, heb⟩ : ∃ eb, w11.heap.size = eb := ⟨_, rfl⟩
  have HV2 : Hid (Byts V2 E1.p'' 1 [121] ∧ Box V2 eb #[.string nB, .slice E1.p 1 E1.c, .int .i64 0, .int .i64 1, .slice E1.p' 0 E1.c', .string kAA, .slice E1.p'' 1 E1.c''] ∧ TRow V2 0 (.slice a10 1 k10) [nA] ∧ Below w.heap.size w V2) := ⟨HV.out.1.below b12, by rw [← heb]; exact HV.out.2.1.below b12, HV.out.2.2.1.below b12, (HV.out.2.2.2.below b12).2⟩
  clear hfa h12 bF b12 HV
  have bG : Below V2.heap.size V2 (V2.alloc (.cells #[.string nA] 9)) := (Below.refl _ _).alloc (Nat.le_refl _) _
  have hst := sameTexts_true (HV2.out.2.2.1.below bG) (trow_one V2 0 nA (Nat.zero_le _))
  have cE := (HV2.out.2.1.below bG).cell
  have hcs : ∀ n, (convert 33 9 (.slice E1.p'' 1 E1.c'')).run Tryd.prog ((V2.alloc (.cells #[.string nA] 9)).drewN n) = .ok (.string ⟨#[121]⟩) ((V2.alloc (.cells #[.string nA] 9)).drewN n) := fun n => by
    have := run_conv_bytes ((HV2.out.1.below bG).below (below_drewN (Below.refl _ _) n)) E1.c''
    rw [strOf_y] at this
    exact this
  have HB : Hid (∀ n, Below w.heap.size w ((V2.alloc (.cells #[.string nA] 9)).drewN n)) := fun n => below_drewN (below_then HV2.out.2.2.2 bG) n
  clear bG HV2
  go_wp2_with fail
  clear hV2
  refine hst.mono ?_
  rintro _ w13 ⟨rfl, m, rfl⟩
  have hcm := hcs m
  clear hst hcs
  go_wp2_with fail
  go_ret
  exact ⟨rfl, HB.out m⟩
end Go.Proofs.YtelhiihbgnfpiaaDoor
