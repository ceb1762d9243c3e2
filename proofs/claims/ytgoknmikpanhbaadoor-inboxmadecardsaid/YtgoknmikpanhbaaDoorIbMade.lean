/-
  The law InboxMade, walked.
-/
import Derived.Test.YtgoknmikpanhbaaDoorIbMd
import Derived.Test.YtgoknmikpanhbaaDoorIbHanded
namespace Go.Proofs.YtgoknmikpanhbaaDoor
open Go.RowKit

section
variable {w : World} {x : Value}
theorem un_find (h : Un w x) (s : ByteArray) : Calls Tryd.prog 6 #[x, .string s] w fun r w' => ∃ a c a' c' a'' c'', r = .returned (.tuple #[.agg #[.string ⟨#[]⟩, .slice a 0 c, .int .i64 0, .int .i64 0, .slice a' 0 c', .string ⟨#[]⟩, .slice a'' 0 c''], .bool false]) ∧ Below w.heap.size w w' := (find_un h s).mono fun _ _ ⟨a, c, a', c', a'', c'', he, _, hb⟩ => ⟨a, c, a', c', a'', c'', he, hb⟩
theorem un_last (h : Un w x) : Calls Tryd.prog 7 #[x] w fun r w' => ∃ a c a' c' a'' c'', r = .returned (.tuple #[.agg #[.string ⟨#[]⟩, .slice a 0 c, .int .i64 0, .int .i64 0, .slice a' 0 c', .string ⟨#[]⟩, .slice a'' 0 c''], .bool false]) ∧ Below w.heap.size w w' := (last_un h).mono fun _ _ ⟨a, c, a', c', a'', c'', he, _, hb⟩ => ⟨a, c, a', c', a'', c'', he, hb⟩
end
set_option maxRecDepth 100000 in
set_option maxHeartbeats 8000000 in
theorem made_law (k r : Int) (e : Ent) (s : ByteArray) (W : World) (hE : ErrType W) (hl : Lies W e) (h1 : e.tn + 90 ≤ 140737488355328) (h2 : e.cn + 90 ≤ 140737488355328) (h3 : e.an + 90 ≤ 140737488355328) :
    Calls Tryd.prog 3 #[.int .i64 k, .int .i64 r, .agg #[.string e.ct, .slice e.tp e.tn e.tc, .int .i64 e.nu, .int .i64 e.tk, .slice e.cp e.cn e.cc, .string e.cd, .slice e.ap e.an e.ac], .string s] W fun r w' => r = .returned (.bool true) ∧ Below W.heap.size W w' := by
  have HI : Hid (ErrType W ∧ Lies W e ∧ e.tn + 90 ≤ 140737488355328 ∧ e.cn + 90 ≤ 140737488355328 ∧ e.an + 90 ≤ 140737488355328) := ⟨hE, hl, h1, h2, h3⟩
  have HB0 : Hid (Below W.heap.size W (W.alloc (.cells #[.string e.ct, .slice e.tp e.tn e.tc, .int .i64 e.nu, .int .i64 e.tk, .slice e.cp e.cn e.cc, .string e.cd, .slice e.ap e.an e.ac] 24)) ∧ (W.alloc (.cells #[.string e.ct, .slice e.tp e.tn e.tc, .int .i64 e.nu, .int .i64 e.tk, .slice e.cp e.cn e.cc, .string e.cd, .slice e.ap e.an e.ac] 24)).heap[W.heap.size]? = some (.cells #[.string e.ct, .slice e.tp e.tn e.tc, .int .i64 e.nu, .int .i64 e.tk, .slice e.cp e.cn e.cc, .string e.cd, .slice e.ap e.an e.ac] 24 (0, 0))) := ⟨(Below.refl _ _).alloc (Nat.le_refl _) _, heap_alloc_new _ _⟩
  clear hE hl h1 h2 h3
  go_enter Tryd.func3, Tryd.ntmps3
  go_wp2_with fail
  obtain ⟨V0, hV0⟩ : ∃ V, W.alloc (.cells #[.string e.ct, .slice e.tp e.tn e.tc, .int .i64 e.nu, .int .i64 e.tk, .slice e.cp e.cn e.cc, .string e.cd, .slice e.ap e.an e.ac] 24) = V := ⟨_, rfl⟩
  rw [hV0] at HB0 ⊢
  clear hV0
  refine (made_any k r (errType_below HI.out.1 HB0.out.1)).mono ?_
  rintro _ w1 ⟨X, K, bv, mk, ke, rm, rfl, L1⟩
  go_wp2_with fail
  refine (all0 L1.out).mono ?_
  rintro _ w2 ⟨rfl, B2⟩
  clear L1
  have HU : Hid (∀ i, i < 2 → ∃ x, ∀ z, Below ((w2.alloc (.cells #[.pointer none] 32)).alloc (.cells #[.pointer none, .pointer (some ⟨w2.heap.size, 0, none⟩)] 29)).heap.size ((w2.alloc (.cells #[.pointer none] 32)).alloc (.cells #[.pointer none, .pointer (some ⟨w2.heap.size, 0, none⟩)] 29)) z → z.cell? ⟨w2.heap.size + 1, i, none⟩ = some x ∧ Un z x) := fun i hi => by
    have hL : ((w2.alloc (.cells #[.pointer none] 32)).alloc (.cells #[.pointer none, .pointer (some ⟨w2.heap.size, 0, none⟩)] 29)).heap[w2.heap.size + 1]? = some (.cells #[.pointer none, .pointer (some ⟨w2.heap.size, 0, none⟩)] 29 (0, 0)) := blk_new (by simp) rfl
    have hP : ((w2.alloc (.cells #[.pointer none] 32)).alloc (.cells #[.pointer none, .pointer (some ⟨w2.heap.size, 0, none⟩)] 29)).heap[w2.heap.size]? = some (.cells #[.pointer none] 32 (0, 0)) := blk_alloc (blk_new rfl rfl) _
    rcases (by omega : i = 0 ∨ i = 1) with rfl | rfl
    · exact ⟨.pointer none, fun z hz => ⟨hcell (blk_below hL hz) 0, Or.inl rfl⟩⟩
    · exact ⟨.pointer (some ⟨w2.heap.size, 0, none⟩), fun z hz => ⟨hcell (blk_below hL hz) 1, Or.inr ⟨_, rfl, hcell (blk_below hP hz) 0⟩⟩⟩
  have HB3 : Hid (Below V0.heap.size V0 ((w2.alloc (.cells #[.pointer none] 32)).alloc (.cells #[.pointer none, .pointer (some ⟨w2.heap.size, 0, none⟩)] 29))) := below_alloc' (below_alloc' B2.out _) _
  clear B2
  go_wp2_with fail
  obtain ⟨V3, hV3⟩ : ∃ V, (w2.alloc (.cells #[.pointer none] 32)).alloc (.cells #[.pointer none, .pointer (some ⟨w2.heap.size, 0, none⟩)] 29) = V := ⟨_, rfl⟩
  rw [hV3] at HU HB3 ⊢
  clear hV3
  obtain ⟨Lb, hLb⟩ : ∃ L, w2.heap.size + 1 = L := ⟨_, rfl⟩
  rw [hLb] at HU ⊢
  clear hLb
  go_loopw [14] (fun ti wx => ∃ i : Nat, i ≤ 2 ∧ ti = .int .i64 i ∧ Hid (Below V3.heap.size V3 wx)) (fun ti _ => 2 - (intOf ti).toNat)
  case atStart => exact ⟨0, by omega, rfl, Below.refl _ _⟩
  case round =>
    obtain ⟨i, hi, rfl, HR⟩ := hrel
    by_cases hlt : i < 2
    · have hlt1 : (i : Int) < 2 := by omega
      obtain ⟨x, hx⟩ := HU.out i hlt
      have HX : Hid (∀ z, Below V3.heap.size V3 z → z.cell? ⟨Lb, i, none⟩ = some x ∧ Un z x) := hx
      have x0 := (HX.out wr HR.out).1
      clear hx
      go_wp2_with fail
      refine (un_find (HX.out wr HR.out).2 s).mono ?_
      rintro _ w4 ⟨a, c, a', c', a'', c'', rfl, b4⟩
      have H4 : Hid (Below V3.heap.size V3 (w4.alloc (.cells #[.string ⟨#[]⟩, .slice a 0 c, .int .i64 0, .int .i64 0, .slice a' 0 c', .string ⟨#[]⟩, .slice a'' 0 c''] 24)) ∧ (w4.alloc (.cells #[.string ⟨#[]⟩, .slice a 0 c, .int .i64 0, .int .i64 0, .slice a' 0 c', .string ⟨#[]⟩, .slice a'' 0 c''] 24)).heap[w4.heap.size]? = some (.cells #[.string ⟨#[]⟩, .slice a 0 c, .int .i64 0, .int .i64 0, .slice a' 0 c', .string ⟨#[]⟩, .slice a'' 0 c''] 24 (0, 0))) := ⟨below_alloc' (below_then HR.out b4) _, heap_alloc_new _ _⟩
      have x4 := (HX.out _ H4.out.1).1
      clear b4 x0
      go_wp2_with fail
      obtain ⟨V4, hV4⟩ : ∃ V, w4.alloc (.cells #[.string ⟨#[]⟩, .slice a 0 c, .int .i64 0, .int .i64 0, .slice a' 0 c', .string ⟨#[]⟩, .slice a'' 0 c''] 24) = V := ⟨_, rfl⟩
      rw [hV4] at H4 ⊢
      clear hV4 x4
      obtain ⟨A1, hA1⟩ : ∃ A, w4.heap.size = A := ⟨_, rfl⟩
      rw [hA1] at H4 ⊢
      clear hA1
      refine (un_last (HX.out V4 H4.out.1).2).mono ?_
      rintro _ w5 ⟨p, d, p', d', p'', d'', rfl, b5⟩
      have H5 : Hid (Below V3.heap.size V3 (w5.alloc (.cells #[.string ⟨#[]⟩, .slice p 0 d, .int .i64 0, .int .i64 0, .slice p' 0 d', .string ⟨#[]⟩, .slice p'' 0 d''] 24)) ∧ (w5.alloc (.cells #[.string ⟨#[]⟩, .slice p 0 d, .int .i64 0, .int .i64 0, .slice p' 0 d', .string ⟨#[]⟩, .slice p'' 0 d''] 24)).heap[A1]? = some (.cells #[.string ⟨#[]⟩, .slice a 0 c, .int .i64 0, .int .i64 0, .slice a' 0 c', .string ⟨#[]⟩, .slice a'' 0 c''] 24 (0, 0)) ∧ (w5.alloc (.cells #[.string ⟨#[]⟩, .slice p 0 d, .int .i64 0, .int .i64 0, .slice p' 0 d', .string ⟨#[]⟩, .slice p'' 0 d''] 24)).heap[w5.heap.size]? = some (.cells #[.string ⟨#[]⟩, .slice p 0 d, .int .i64 0, .int .i64 0, .slice p' 0 d', .string ⟨#[]⟩, .slice p'' 0 d''] 24 (0, 0))) := ⟨below_alloc' (below_then H4.out.1 b5) _, blk_alloc (blk_below H4.out.2 b5) _, heap_alloc_new _ _⟩
      have x5 := (HX.out _ H5.out.1).1
      clear b5 H4
      go_wp2_with fail
      obtain ⟨V5, hV5⟩ : ∃ V, w5.alloc (.cells #[.string ⟨#[]⟩, .slice p 0 d, .int .i64 0, .int .i64 0, .slice p' 0 d', .string ⟨#[]⟩, .slice p'' 0 d''] 24) = V := ⟨_, rfl⟩
      rw [hV5] at H5 ⊢
      clear hV5 x5
      obtain ⟨A2, hA2⟩ : ∃ A, w5.heap.size = A := ⟨_, rfl⟩
      rw [hA2] at H5 ⊢
      clear hA2
      refine (decide_un (HX.out V5 H5.out.1).2 s _ _ _ _).mono ?_
      rintro _ w6 ⟨rfl, h6⟩
      have H6 : Hid (Below V3.heap.size V3 w6 ∧ w6.heap[A1]? = some (.cells #[.string ⟨#[]⟩, .slice a 0 c, .int .i64 0, .int .i64 0, .slice a' 0 c', .string ⟨#[]⟩, .slice a'' 0 c''] 24 (0, 0)) ∧ w6.heap[A2]? = some (.cells #[.string ⟨#[]⟩, .slice p 0 d, .int .i64 0, .int .i64 0, .slice p' 0 d', .string ⟨#[]⟩, .slice p'' 0 d''] 24 (0, 0)) ∧ IFault w6 V5.heap.size 0 3) := ⟨below_then H5.out.1 h6.out.2, blk_below H5.out.2.1 h6.out.2, blk_below H5.out.2.2 h6.out.2, h6.out.1⟩
      have x6 := (HX.out _ H6.out.1).1
      clear h6 H5
      go_wp2_with fail
      clear x6
      refine (count_un (HX.out w6 H6.out.1).2).mono ?_
      rintro _ w9 ⟨rfl, h9⟩
      subst w9
      have f1 := hcell H6.out.2.1
      go_wp2_with fail
      clear f1
      refine (same0 a c a' c' a'' c'' none 0 none 0 none 0 _).mono ?_
      rintro _ w7 ⟨rfl, b7⟩
      have H7 : Hid (Below V3.heap.size V3 w7 ∧ w7.heap[A2]? = some (.cells #[.string ⟨#[]⟩, .slice p 0 d, .int .i64 0, .int .i64 0, .slice p' 0 d', .string ⟨#[]⟩, .slice p'' 0 d''] 24 (0, 0)) ∧ IFault w7 V5.heap.size 0 3) := ⟨below_then H6.out.1 b7, blk_below H6.out.2.2.1 b7, H6.out.2.2.2.below b7⟩
      have f2 := hcell H7.out.2.1
      clear b7 H6
      go_wp2_with fail
      clear f2
      refine (same0 p d p' d' p'' d'' none 0 none 0 none 0 _).mono ?_
      rintro _ w8 ⟨rfl, b8⟩
      have H8 : Hid (Below V3.heap.size V3 w8 ∧ IFault w8 V5.heap.size 0 3) := ⟨below_then H7.out.1 b8, H7.out.2.2.below b8⟩
      clear b8 H7
      go_wp2_with fail
      refine (code_any (B := 0) (v := .iface 90 (.pointer (some ⟨V5.heap.size, 0, none⟩))) (c := 3) (Or.inr ⟨by decide, _, rfl, Nat.zero_le _, H8.out.2⟩) (errType_below HI.out.1 (below_then HB0.out.1 (below_then HB3.out H8.out.1)))).mono ?_
      rintro _ w9 ⟨rfl, b9⟩
      have H9 : Hid (Below V3.heap.size V3 w9) := below_then H8.out.1 b9
      clear b9 H8
      have HEb : Hid (∀ z, Below w9.heap.size w9 z → Below V0.heap.size V0 z ∧ Below V3.heap.size V3 z) := fun z hz => ⟨below_then (below_then HB3.out H9.out) hz, below_then H9.out hz⟩
      have gs : ∀ {z : World}, Below w9.heap.size w9 z → z.cell? ⟨Lb, i, none⟩ = some x ∧ z.cell? ⟨W.heap.size, 0, none⟩ = some (.string e.ct) ∧ z.cell? ⟨W.heap.size, 1, none⟩ = some (.slice e.tp e.tn e.tc) ∧ z.cell? ⟨W.heap.size, 2, none⟩ = some (.int .i64 e.nu) ∧ z.cell? ⟨W.heap.size, 3, none⟩ = some (.int .i64 e.tk) ∧ z.cell? ⟨W.heap.size, 4, none⟩ = some (.slice e.cp e.cn e.cc) ∧ z.cell? ⟨W.heap.size, 5, none⟩ = some (.string e.cd) ∧ z.cell? ⟨W.heap.size, 6, none⟩ = some (.slice e.ap e.an e.ac) := fun {z} hz => by
        have hb := blk_below HB0.out.2 (HEb.out z hz).1
        exact ⟨(HX.out z (HEb.out z hz).2).1, hcell hb 0, hcell hb 1, hcell hb 2, hcell hb 3, hcell hb 4, hcell hb 5, hcell hb 6⟩
      have HH : Hid (∀ z, Below w9.heap.size w9 z → Calls Tryd.prog 13 #[.agg #[.string e.ct, .slice e.tp e.tn e.tc, .int .i64 e.nu, .int .i64 e.tk, .slice e.cp e.cn e.cc, .string e.cd, .slice e.ap e.an e.ac]] z fun q z' => ∃ a c a' c' a'' c'', q = .returned (.agg #[.string e.ct, .slice a e.tn c, .int .i64 e.nu, .int .i64 e.tk, .slice a' e.cn c', .string e.cd, .slice a'' e.an c'']) ∧ Hid (Below w9.heap.size w9 z')) := fun z hz =>
        (handed_any e z (HI.out.2.1.below (below_then HB0.out.1 (HEb.out z hz).1)) HI.out.2.2.1 HI.out.2.2.2.1 HI.out.2.2.2.2).mono fun q z' ⟨a, c, a', c', a'', c'', e1, _, e2⟩ => ⟨a, c, a', c', a'', c'', e1, below_then hz e2⟩
      have HA : Hid (∀ z a c a' c' a'' c'', Below w9.heap.size w9 z → Calls Tryd.prog 12 #[x, .agg #[.string e.ct, .slice a e.tn c, .int .i64 e.nu, .int .i64 e.tk, .slice a' e.cn c', .string e.cd, .slice a'' e.an c'']] z fun q z' => ∃ b, q = .returned (.iface 90 (.pointer (some ⟨b, 0, none⟩))) ∧ Hid (Below w9.heap.size w9 z') ∧ Hid (IFault z' b 0 3)) := fun z a c a' c' a'' c'' hz =>
        (accept_un (HX.out z (HEb.out z hz).2).2 (e.wi a c a' c' a'' c'')).mono fun q z' ⟨b, e1, e2⟩ => ⟨b, e1, below_then hz e2.out.2.2, e2.out.1⟩
      have HC : Hid (∀ z0 z b, IFault z0 b 0 3 → Below w9.heap.size w9 z0 → Below z0.heap.size z0 z → Calls Tryd.prog 11 #[.iface 90 (.pointer (some ⟨b, 0, none⟩))] z fun q z' => q = .returned (.int .i64 3) ∧ Hid (Below w9.heap.size w9 z')) := fun z0 z b hf h0 hz =>
        (code_any (B := 0) (v := .iface 90 (.pointer (some ⟨b, 0, none⟩))) (c := 3) (Or.inr ⟨by decide, _, rfl, Nat.zero_le _, hf.below hz⟩) (errType_below HI.out.1 (below_then HB0.out.1 (HEb.out z (below_then h0 hz)).1))).mono fun q z' ⟨e1, e2⟩ => ⟨e1, below_then (below_then h0 hz) e2⟩
      have HO : Hid (∀ z, Below w9.heap.size w9 z → Calls Tryd.prog 14 #[x] z fun q z' => q = .returned (.slice none 0 0) ∧ Hid (Below w9.heap.size w9 z')) := fun z hz =>
        (open_un (HX.out z (HEb.out z hz).2).2).mono fun q z' ⟨e1, e2⟩ => ⟨e1, by rw [e2]; exact hz⟩
      have HLi : Hid (∀ z, Below w9.heap.size w9 z → Calls Tryd.prog 15 #[x] z fun q z' => q = .returned (.slice none 0 0) ∧ Hid (Below w9.heap.size w9 z')) := fun z hz =>
        (list_un (HX.out z (HEb.out z hz).2).2).mono fun q z' ⟨e1, e2⟩ => ⟨e1, by rw [e2]; exact hz⟩
      go_upto_region 16 with fail
      go_cut [139] from 41 to 139 (fun t wx => t = .bool false ∧ Hid (Below V3.heap.size V3 wx))
      case first =>
        have HD : Hid (∀ z, Below w9.heap.size w9 z → Below V3.heap.size V3 z) := fun z hz => (HEb.out z hz).2
        clear HI HB0 HB3 HU HX HR HEb H9
        go_region_held3 (fun z => z.cell? ⟨Lb, i, none⟩ = some x ∧ z.cell? ⟨W.heap.size, 0, none⟩ = some (.string e.ct) ∧ z.cell? ⟨W.heap.size, 1, none⟩ = some (.slice e.tp e.tn e.tc) ∧ z.cell? ⟨W.heap.size, 2, none⟩ = some (.int .i64 e.nu) ∧ z.cell? ⟨W.heap.size, 3, none⟩ = some (.int .i64 e.tk) ∧ z.cell? ⟨W.heap.size, 4, none⟩ = some (.slice e.cp e.cn e.cc) ∧ z.cell? ⟨W.heap.size, 5, none⟩ = some (.string e.cd) ∧ z.cell? ⟨W.heap.size, 6, none⟩ = some (.slice e.ap e.an e.ac)) ((refine gs ?_; (repeat' (first | (with_reducible exact Below.refl _ _) | (with_reducible exact Hid.out (by assumption)) | (with_reducible refine below_drew' ?_))))) ((first | (go_at_call 13; refine (HH.out _ ?_).mono ?_; (repeat' (first | (with_reducible exact Below.refl _ _) | (with_reducible exact Hid.out (by assumption)) | (with_reducible refine below_drew' ?_))); rintro _ y1 ⟨g1, g2, g3, g4, g5, g6, rfl, hb1⟩) | (go_at_call 12; refine (HA.out _ _ _ _ _ _ _ ?_).mono ?_; (repeat' (first | (with_reducible exact Below.refl _ _) | (with_reducible exact Hid.out (by assumption)) | (with_reducible refine below_drew' ?_))); rintro _ y2 ⟨bf, rfl, hb2, hf2⟩) | (go_at_call 11; refine (HC.out y2 _ _ hf2.out hb2.out ?_).mono ?_; (first | exact Below.refl _ _ | exact (Below.refl _ _).drew); rintro _ y3 ⟨rfl, hb3⟩) | (go_at_call 14; refine (HO.out _ ?_).mono ?_; (repeat' (first | (with_reducible exact Below.refl _ _) | (with_reducible exact Hid.out (by assumption)) | (with_reducible refine below_drew' ?_))); rintro _ y4 ⟨rfl, hb4⟩) | (go_at_call 15; refine (HLi.out _ ?_).mono ?_; (repeat' (first | (with_reducible exact Below.refl _ _) | (with_reducible exact Hid.out (by assumption)) | (with_reducible refine below_drew' ?_))); rintro _ y5 ⟨rfl, hb5⟩)))
        all_goals
          clear gs HH HA HC HO HLi
          go_wp2_with fail
          go_meet
          refine ⟨rfl, HD.out _ ?_⟩
          (repeat' (first | (with_reducible exact Below.refl _ _) | (with_reducible exact Hid.out (by assumption)) | (with_reducible refine below_drew' ?_)))
      case rest =>
        obtain ⟨rfl, HX9⟩ := hcut
        clear gs HH HA HC HO HLi HEb H9 HX
        go_wp2_with fail
        go_roundw
        case rel => exact ⟨i + 1, hlt, by go_num, HX9⟩
        case measure => simp [intOf]; omega
    · have hlt1 : ¬ (i : Int) < 2 := by omega
      have HB9 : Hid (Below W.heap.size W wr) := below_then HB0.out.1 (below_then HB3.out HR.out)
      clear HR HU
      go_wp2_with fail
      go_ret
      exact ⟨rfl, HB9.out⟩
end Go.Proofs.YtgoknmikpanhbaaDoor
