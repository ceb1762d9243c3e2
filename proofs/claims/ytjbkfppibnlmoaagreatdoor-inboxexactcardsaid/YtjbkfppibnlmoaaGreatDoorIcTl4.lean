import Derived.Test.YtjbkfppibnlmoaaGreatDoorIcTl
/-
  The law's tells.
-/
namespace Go.Proofs.YtjbkfppibnlmoaaGreatDoor
open Go.RowKit

section
variable {W w w' : World} {X K n C D E : Nat} {bv mk ke rm L : Value} {o : Option (Int × Int)} {A A' : List Ent}
set_option maxRecDepth 100000 in
set_option maxHeartbeats 8000000 in
theorem tells5 (h : LS W X K bv mk ke rm L C D E o A A n w) (hn : n ≤ 700000) {B : Nat} {p : Option Addr} {q c : Nat} (hop : TRow w B (.slice p q c) (opS A)) : Calls Tryz.prog 7 #[.pointer (some ⟨X, 0, none⟩), .int .i64 5, .slice p q c] w fun e w' => e = .returned (.bool true) ∧ Hid (LS W X K bv mk ke rm L C D E o A A (n + 2) w') := by
  have HU : Hid (∀ z, LS W X K bv mk ke rm L C D E o A A n z → Calls Tryz.prog 29 #[bv] z fun r w' => ∃ a c, r = .returned (.slice a (opS A).length c) ∧ TRow w' z.heap.size (.slice a (opS A).length c) (opS A) ∧ Below z.heap.size z w') := fun z hz => u_open hz
  have hlen : (opS A).length ≤ 97 := by
    unfold opS
    rw [List.length_map]
    exact Nat.le_trans (List.length_filter_le _ _) h.bnd.1
  have eq : q = (opS A).length := ERow.len hop
  subst eq
  have HL : Hid (LS W X K bv mk ke rm L C D E o A A n w ∧ (opS A).length ≤ 97 ∧ TRow w B (.slice p (opS A).length c) (opS A)) := ⟨h, hlen, hop⟩
  have x0 := h.cells.1
  have hop1 := HU.out w h
  clear h hop hlen
  generalize opS A = l at HL hop1 HU ⊢
  go_enter Tryz.func7, Tryz.ntmps7
  go_wp2_with fail
  refine hop1.mono ?_
  rintro _ w1 ⟨a, k, rfl, t1, b1⟩
  have L1 : Hid (LS W X K bv mk ke rm L C D E o A A n w1 ∧ TRow w1 B (.slice p l.length c) l ∧ TRow w1 w.heap.size (.slice a l.length k) l) := ⟨HL.out.1.below b1, ERow.below HL.out.2.2 b1, t1⟩
  have x1 := L1.out.1.cells.1
  have hop2 := HU.out w1 L1.out.1
  clear t1 b1 x0 hop1
  go_wp2_with fail
  refine hop2.mono ?_
  rintro _ w2 ⟨a', k', rfl, t2, b2⟩
  have L2 : Hid (LS W X K bv mk ke rm L C D E o A A n w2 ∧ TRow w2 B (.slice p l.length c) l ∧ TRow w2 w.heap.size (.slice a l.length k) l ∧ TRow w2 w1.heap.size (.slice a' l.length k') l) := ⟨L1.out.1.below b2, ERow.below L1.out.2.1 b2, ERow.below L1.out.2.2 b2, t2⟩
  have x2 := L2.out.1.cells.2.2.2.1
  have htx := texts_any L2.out.1 (by omega) L2.out.2.2.1 (by have := HL.out.2.1; omega)
  clear t2 b2 x1 hop2 HU L1
  go_wp2_with fail
  refine htx.mono ?_
  rintro _ w3 ⟨rfl, H3⟩
  have L3 : Hid (LS W X K bv mk ke rm L C D E o A A (n + 1) w3 ∧ TRow w3 B (.slice p l.length c) l ∧ TRow w3 w.heap.size (.slice a l.length k) l ∧ TRow w3 w1.heap.size (.slice a' l.length k') l) := ⟨H3.out.1, ERow.kp L2.out.2.1 H3.out.2 nLS, ERow.kp L2.out.2.2.1 H3.out.2 nLS, ERow.kp L2.out.2.2.2 H3.out.2 nLS⟩
  have x3 := L3.out.1.cells.2.2.2.1
  have htx2 := texts_any L3.out.1 (by omega) L3.out.2.2.2 (by have := HL.out.2.1; omega)
  clear htx H3 L2 x2
  go_wp2_with fail
  refine htx2.mono ?_
  rintro _ w4 ⟨rfl, H4⟩
  have L4 : Hid (LS W X K bv mk ke rm L C D E o A A (n + 2) w4 ∧ TRow w4 B (.slice p l.length c) l ∧ TRow w4 w.heap.size (.slice a l.length k) l ∧ TRow w4 w1.heap.size (.slice a' l.length k') l) := ⟨H4.out.1, ERow.kp L3.out.2.1 H4.out.2 nLS, ERow.kp L3.out.2.2.1 H4.out.2 nLS, ERow.kp L3.out.2.2.2 H4.out.2 nLS⟩
  have hs1 := sameTexts_true L4.out.2.2.1 L4.out.2.1
  clear htx2 H4 L3 x3
  go_wp2_with fail
  refine hs1.mono ?_
  rintro _ w5 ⟨rfl, m5, rfl⟩
  have b5 := below_drewN (Below.refl w4.heap.size w4) m5
  have hs2 := sameTexts_true (ERow.below L4.out.2.2.2 b5) (ERow.below L4.out.2.1 b5)
  clear hs1 b5
  go_wp2_with fail
  refine hs2.mono ?_
  rintro _ w6 ⟨rfl, m6, rfl⟩
  rw [World.drewN_drewN]
  have HZ : Hid (LS W X K bv mk ke rm L C D E o A A (n + 2) (w4.drewN (m5 + m6))) := L4.out.1.below (below_drewN (Below.refl _ _) _)
  clear hs2 L4
  go_wp2_with fail
  go_ret
  exact ⟨rfl, HZ⟩
set_option maxRecDepth 100000 in
set_option maxHeartbeats 8000000 in
theorem tells6 (h : LS W X K bv mk ke rm L C D E o A A n w) (hn : n ≤ 600000) (p : Option Addr) (q c : Nat) : Calls Tryz.prog 7 #[.pointer (some ⟨X, 0, none⟩), .int .i64 6, .slice p q c] w fun e w' => e = .returned (.bool true) ∧ Hid (LS W X K bv mk ke rm L C D E o A A (n + 1000) w') := by
  have HU : Hid (∀ z, LS W X K bv mk ke rm L C D E o A A n z → Calls Tryz.prog 32 #[bv] z (LtQ z A)) := fun z hz => u_list hz
  have HL : Hid (LS W X K bv mk ke rm L C D E o A A n w ∧ A.length ≤ 97 ∧ ∀ e ∈ A, mayB e = true) := ⟨h, h.bnd.1, h.bnd.2.2⟩
  have HB : Hid (∀ ls, Tws ls A → ∀ l ∈ ls, l.tn ≤ 8192 ∧ l.cn ≤ 2048 ∧ l.an ≤ 2048) := fun ls ht l hl => by
    obtain ⟨i, hi, rfl⟩ := List.getElem_of_mem hl
    have hj : i < A.length := by rw [← ht.1]; exact hi
    have h1 := may_bnd (HL.out.2.2 A[i] (List.getElem_mem hj))
    obtain ⟨a, c, a', c', a'', c'', e1⟩ := ht.2 i _ _ (List.getElem?_eq_getElem hi) (List.getElem?_eq_getElem hj)
    rw [e1] at h1
    exact h1
  have x0 := h.cells.1
  have hop1 := HU.out w h
  clear h
  obtain ⟨ln, hln⟩ : ∃ k, A.length = k := ⟨_, rfl⟩
  have HLN : Hid (A.length = ln) := hln
  clear hln
  go_enter Tryz.func7, Tryz.ntmps7
  go_wp2_with fail
  refine hop1.mono ?_
  rintro _ w1 ⟨ls, a, k, rfl, r1, o1, t1, b1⟩
  rw [HLN.out] at r1
  have L1 : Hid (LS W X K bv mk ke rm L C D E o A A n w1 ∧ NRow w1 w.heap.size (.slice a ln k) ls ∧ (∀ l ∈ ls, Own w1 w.heap.size l) ∧ Tws ls A) := ⟨HL.out.1.below b1, r1, o1, t1⟩
  have x1 := L1.out.1.cells.1
  have hop2 := HU.out w1 L1.out.1
  rw [HLN.out]
  clear r1 o1 t1 b1 x0 hop1
  go_wp2_with fail
  refine hop2.mono ?_
  rintro _ w2 ⟨ls', a', k', rfl, r2, o2, t2, b2⟩
  rw [HLN.out] at r2
  have L2 : Hid (LS W X K bv mk ke rm L C D E o A A n w2 ∧ NRow w2 w.heap.size (.slice a ln k) ls ∧ (∀ l ∈ ls, Own w2 w.heap.size l) ∧ NRow w2 w1.heap.size (.slice a' ln k') ls' ∧ (∀ l ∈ ls', Own w2 w1.heap.size l) ∧ Tws ls A ∧ Tws ls' A) := ⟨L1.out.1.below b2, ERow.below L1.out.2.1 b2, fun l hl => (L1.out.2.2.1 l hl).below b2, r2, o2, L1.out.2.2.2, t2⟩
  rw [HLN.out]
  have htk := takeList_any L2.out.1 (by omega) L2.out.2.1 (fun l hl => ⟨⟨_, L2.out.2.2.1 l hl⟩, by have := (HB.out ls L2.out.2.2.2.2.2.1 l hl).1; omega, by have := (HB.out ls L2.out.2.2.2.2.2.1 l hl).2.1; omega, by have := (HB.out ls L2.out.2.2.2.2.2.1 l hl).2.2; omega⟩) (by have := HL.out.2.1; have := HLN.out; omega)
  clear r2 o2 t2 b2 x1 hop2 HU L1
  go_wp2_with fail
  refine htk.mono ?_
  rintro _ w3 ⟨rfl, H3⟩
  have L3 : Hid (LS W X K bv mk ke rm L C D E o A A (n + 3 * ln + 1) w3 ∧ NRow w3 w.heap.size (.slice a ln k) ls ∧ (∀ l ∈ ls, Own w3 w.heap.size l) ∧ NRow w3 w1.heap.size (.slice a' ln k') ls' ∧ (∀ l ∈ ls', Own w3 w1.heap.size l) ∧ Tws ls A ∧ Tws ls' A) := ⟨H3.out.1, ERow.kp L2.out.2.1 H3.out.2 nLE, fun l hl => (L2.out.2.2.1 l hl).kp H3.out.2, ERow.kp L2.out.2.2.2.1 H3.out.2 nLE, fun l hl => (L2.out.2.2.2.2.1 l hl).kp H3.out.2, L2.out.2.2.2.2.2.1, L2.out.2.2.2.2.2.2⟩
  have htk2 := takeList_any L3.out.1 (by have := HL.out.2.1; have := HLN.out; omega) L3.out.2.2.2.1 (fun l hl => ⟨⟨_, L3.out.2.2.2.2.1 l hl⟩, by have := (HB.out ls' L3.out.2.2.2.2.2.2 l hl).1; omega, by have := (HB.out ls' L3.out.2.2.2.2.2.2 l hl).2.1; omega, by have := (HB.out ls' L3.out.2.2.2.2.2.2 l hl).2.2; omega⟩) (by have := HL.out.2.1; have := HLN.out; omega)
  clear htk H3 L2
  go_wp2_with fail
  refine htk2.mono ?_
  rintro _ w4 ⟨rfl, H4⟩
  have L4 : Hid (LS W X K bv mk ke rm L C D E o A A (n + 1000) w4 ∧ NRow w4 w.heap.size (.slice a ln k) ls ∧ (∀ l ∈ ls, Own w4 w.heap.size l) ∧ NRow w4 w1.heap.size (.slice a' ln k') ls' ∧ (∀ l ∈ ls', Own w4 w1.heap.size l) ∧ Tws ls A ∧ Tws ls' A) := ⟨H4.out.1.mono (by have := HL.out.2.1; have := HLN.out; omega), ERow.kp L3.out.2.1 H4.out.2 nLE, fun l hl => (L3.out.2.2.1 l hl).kp H4.out.2, ERow.kp L3.out.2.2.2.1 H4.out.2 nLE, fun l hl => (L3.out.2.2.2.2.1 l hl).kp H4.out.2, L3.out.2.2.2.2.2.1, L3.out.2.2.2.2.2.2⟩
  clear htk2 H4 L3
  have HD : Hid (∃ ad cd ld, L = .slice ad ln cd ∧ ∀ z, Below w4.heap.size w4 z → NRow z W.heap.size (.slice ad ln cd) ld ∧ (∀ l ∈ ld, Lies z l) ∧ Tws ld A) := by
    obtain ⟨ad, cd, ld, e1, e2, e3, e4, _⟩ := L4.out.1.docrow
    rw [HLN.out] at e1 e2
    exact ⟨ad, cd, ld, e1, fun z hz => ⟨ERow.below e2 hz, fun l hl => ((e3 l hl).below hz).lies, e4⟩⟩
  have x4 := L4.out.1.cells.2.2.1
  obtain ⟨ad, cd, ld, e1, hd⟩ := HD.out
  have HD2 : Hid (∀ z, Below w4.heap.size w4 z → NRow z W.heap.size (.slice ad ln cd) ld ∧ (∀ l ∈ ld, Lies z l) ∧ Tws ld A) := hd
  rw [e1] at x4
  clear HD hd e1
  obtain ⟨d1, d2, d3⟩ := HD2.out w4 (Below.refl _ _)
  have hs1 := sameList_true L4.out.2.1 d1 (L4.out.2.2.2.2.2.1.trans d3.symm) (fun l hl => (L4.out.2.2.1 l hl).lies) d2 fun l hl => ⟨by have := (HB.out ls L4.out.2.2.2.2.2.1 l hl).1; omega, by have := (HB.out ls L4.out.2.2.2.2.2.1 l hl).2.1; omega, by have := (HB.out ls L4.out.2.2.2.2.2.1 l hl).2.2; omega⟩
  clear d1 d2 d3
  go_wp2_with fail
  refine hs1.mono ?_
  rintro _ w5 ⟨rfl, b5⟩
  have x5 : w5.cell? ⟨X, 4, none⟩ = some (.slice ad ln cd) := by rw [b5.cell (p := ⟨X, 4, none⟩) L4.out.1.cells.2.2.2.2]; exact x4
  obtain ⟨d1, d2, d3⟩ := HD2.out w5 b5
  have hs2 := sameList_true (ERow.below L4.out.2.2.2.1 b5) d1 (L4.out.2.2.2.2.2.2.trans d3.symm) (fun l hl => ((L4.out.2.2.2.2.1 l hl).below b5).lies) d2 fun l hl => ⟨by have := (HB.out ls' L4.out.2.2.2.2.2.2 l hl).1; omega, by have := (HB.out ls' L4.out.2.2.2.2.2.2 l hl).2.1; omega, by have := (HB.out ls' L4.out.2.2.2.2.2.2 l hl).2.2; omega⟩
  have HB5 : Hid (Below w4.heap.size w4 w5) := b5
  clear d1 d2 d3 hs1 x4 b5
  go_wp2_with fail
  refine hs2.mono ?_
  rintro _ w6 ⟨rfl, b6⟩
  have HZ : Hid (LS W X K bv mk ke rm L C D E o A A (n + 1000) w6) := L4.out.1.below (below_then HB5.out b6)
  clear hs2 L4 b6 x5 HD2
  go_wp2_with fail
  go_ret
  exact ⟨rfl, HZ⟩
end
end Go.Proofs.YtjbkfppibnlmoaaGreatDoor

/-
  The law's tells: Last, Count, the rest.
-/
namespace Go.Proofs.YtjbkfppibnlmoaaGreatDoor
open Go.RowKit

section
variable {W w w' : World} {X K n C D E : Nat} {bv mk ke rm L : Value} {o : Option (Int × Int)} {A A' : List Ent}
set_option maxRecDepth 100000 in
set_option maxHeartbeats 8000000 in
theorem tells4 (h : LS W X K bv mk ke rm L C D E o A A n w) (hn : n ≤ 700000) (po : Option Addr) (q co : Nat) : Calls Tryz.prog 7 #[.pointer (some ⟨X, 0, none⟩), .int .i64 4, .slice po q co] w fun e w' => e = .returned (.bool true) ∧ Hid (LS W X K bv mk ke rm L C D E o A A (n + 6) w') := by
  obtain ⟨q1, q2, q3⟩ := las_bnd h.bnd.2.2
  have HI : Hid (LS W X K bv mk ke rm L C D E o A A n w) := h
  have HU : Hid (∀ z, Below w.heap.size w z → Calls Tryz.prog 26 #[bv] z (EnQ z (lasE A) (decide (0 < A.length)))) := fun z hz => u_last (h.below hz)
  have HR : Hid (∀ z, Below w.heap.size w z → Calls Tryz.prog 22 #[.pointer (some ⟨X, 1, none⟩)] z (EnQ z (lasE A) (decide (0 < A.length)))) := fun z hz => r_last (h.below hz)
  have HX0 : Hid (∀ z, Below w.heap.size w z → z.cell? ⟨X, 0, none⟩ = some bv) := fun z hz => (h.below hz).cells.1
  have x0 := h.cells.1
  generalize lasE A = m at q1 q2 q3 HR HU
  generalize decide (0 < A.length) = t at HU HR
  have HN : Hid (m.tn ≤ 8192 ∧ m.cn ≤ 2048 ∧ m.an ≤ 2048) := ⟨q1, q2, q3⟩
  have hfu := HU.out w (Below.refl _ _)
  clear q1 q2 q3 h
  go_enter Tryz.func7, Tryz.ntmps7
  go_wp2_with fail
  refine hfu.mono ?_
  rintro _ w1 ⟨a, c, a', c', a'', c'', rfl, ho1, b1⟩
  clear hfu x0
  go_upto_region 4 with fail
  have HV1 : Hid (Below w.heap.size w (w1.alloc (.cells #[.string m.ct, .slice a m.tn c, .int .i64 m.nu, .int .i64 m.tk, .slice a' m.cn c', .string m.cd, .slice a'' m.an c''] 30)) ∧ (w1.alloc (.cells #[.string m.ct, .slice a m.tn c, .int .i64 m.nu, .int .i64 m.tk, .slice a' m.cn c', .string m.cd, .slice a'' m.an c''] 30)).heap[w1.heap.size]? = some (.cells #[.string m.ct, .slice a m.tn c, .int .i64 m.nu, .int .i64 m.tk, .slice a' m.cn c', .string m.cd, .slice a'' m.an c''] 30 (0, 0)) ∧ Own (w1.alloc (.cells #[.string m.ct, .slice a m.tn c, .int .i64 m.nu, .int .i64 m.tk, .slice a' m.cn c', .string m.cd, .slice a'' m.an c''] 30)) w.heap.size (m.wi a c a' c' a'' c'')) := ⟨b1.alloc b1.size _, heap_alloc_new _ _, ho1.below ((Below.refl _ _).alloc (Nat.le_refl _) _)⟩
  clear ho1 b1
  obtain ⟨V1, hV1⟩ : ∃ V, w1.alloc (.cells #[.string m.ct, .slice a m.tn c, .int .i64 m.nu, .int .i64 m.tk, .slice a' m.cn c', .string m.cd, .slice a'' m.an c''] 30) = V := ⟨_, rfl⟩
  rw [hV1] at HV1 ⊢
  clear hV1
  obtain ⟨A1, hA1⟩ : ∃ b, w1.heap.size = b := ⟨_, rfl⟩
  rw [hA1] at HV1 ⊢
  clear hA1
  have hfr := HR.out V1 HV1.out.1
  go_wp2_with fail
  refine hfr.mono ?_
  rintro _ w2 ⟨p, d, p', d', p'', d'', rfl, ho2, b2⟩
  clear hfr HR
  go_upto_region 5 with fail
  have HV2 : Hid (Below w.heap.size w (w2.alloc (.cells #[.string m.ct, .slice p m.tn d, .int .i64 m.nu, .int .i64 m.tk, .slice p' m.cn d', .string m.cd, .slice p'' m.an d''] 30)) ∧ (w2.alloc (.cells #[.string m.ct, .slice p m.tn d, .int .i64 m.nu, .int .i64 m.tk, .slice p' m.cn d', .string m.cd, .slice p'' m.an d''] 30)).heap[w2.heap.size]? = some (.cells #[.string m.ct, .slice p m.tn d, .int .i64 m.nu, .int .i64 m.tk, .slice p' m.cn d', .string m.cd, .slice p'' m.an d''] 30 (0, 0)) ∧ Own (w2.alloc (.cells #[.string m.ct, .slice p m.tn d, .int .i64 m.nu, .int .i64 m.tk, .slice p' m.cn d', .string m.cd, .slice p'' m.an d''] 30)) V1.heap.size (m.wi p d p' d' p'' d'') ∧ (w2.alloc (.cells #[.string m.ct, .slice p m.tn d, .int .i64 m.nu, .int .i64 m.tk, .slice p' m.cn d', .string m.cd, .slice p'' m.an d''] 30)).heap[A1]? = some (.cells #[.string m.ct, .slice a m.tn c, .int .i64 m.nu, .int .i64 m.tk, .slice a' m.cn c', .string m.cd, .slice a'' m.an c''] 30 (0, 0)) ∧ Own (w2.alloc (.cells #[.string m.ct, .slice p m.tn d, .int .i64 m.nu, .int .i64 m.tk, .slice p' m.cn d', .string m.cd, .slice p'' m.an d''] 30)) w.heap.size (m.wi a c a' c' a'' c'')) := by
    have b3 : Below V1.heap.size V1 (w2.alloc (.cells #[.string m.ct, .slice p m.tn d, .int .i64 m.nu, .int .i64 m.tk, .slice p' m.cn d', .string m.cd, .slice p'' m.an d''] 30)) := b2.alloc b2.size _
    exact ⟨below_then HV1.out.1 b3, heap_alloc_new _ _, ho2.below ((Below.refl _ _).alloc (Nat.le_refl _) _), blk_below HV1.out.2.1 b3, HV1.out.2.2.below b3⟩
  clear ho2 b2 HV1
  obtain ⟨V2, hV2⟩ : ∃ V, w2.alloc (.cells #[.string m.ct, .slice p m.tn d, .int .i64 m.nu, .int .i64 m.tk, .slice p' m.cn d', .string m.cd, .slice p'' m.an d''] 30) = V := ⟨_, rfl⟩
  rw [hV2] at HV2 ⊢
  clear hV2
  obtain ⟨A2, hA2⟩ : ∃ b, w2.heap.size = b := ⟨_, rfl⟩
  rw [hA2] at HV2 ⊢
  clear hA2
  have hfv := HU.out V2 HV2.out.1
  have x2 := HX0.out V2 HV2.out.1
  go_wp2_with fail
  refine hfv.mono ?_
  rintro _ w3 ⟨g, k, g', k', g'', k'', rfl, ho3, b3⟩
  clear hfv HU x2 HX0
  go_upto_region 6 with fail
  have HV3 : Hid (Below w.heap.size w (w3.alloc (.cells #[.string m.ct, .slice g m.tn k, .int .i64 m.nu, .int .i64 m.tk, .slice g' m.cn k', .string m.cd, .slice g'' m.an k''] 30)) ∧ (w3.alloc (.cells #[.string m.ct, .slice g m.tn k, .int .i64 m.nu, .int .i64 m.tk, .slice g' m.cn k', .string m.cd, .slice g'' m.an k''] 30)).heap[w3.heap.size]? = some (.cells #[.string m.ct, .slice g m.tn k, .int .i64 m.nu, .int .i64 m.tk, .slice g' m.cn k', .string m.cd, .slice g'' m.an k''] 30 (0, 0)) ∧ Own (w3.alloc (.cells #[.string m.ct, .slice g m.tn k, .int .i64 m.nu, .int .i64 m.tk, .slice g' m.cn k', .string m.cd, .slice g'' m.an k''] 30)) V2.heap.size (m.wi g k g' k' g'' k'') ∧ (w3.alloc (.cells #[.string m.ct, .slice g m.tn k, .int .i64 m.nu, .int .i64 m.tk, .slice g' m.cn k', .string m.cd, .slice g'' m.an k''] 30)).heap[A2]? = some (.cells #[.string m.ct, .slice p m.tn d, .int .i64 m.nu, .int .i64 m.tk, .slice p' m.cn d', .string m.cd, .slice p'' m.an d''] 30 (0, 0)) ∧ Own (w3.alloc (.cells #[.string m.ct, .slice g m.tn k, .int .i64 m.nu, .int .i64 m.tk, .slice g' m.cn k', .string m.cd, .slice g'' m.an k''] 30)) V1.heap.size (m.wi p d p' d' p'' d'') ∧ (w3.alloc (.cells #[.string m.ct, .slice g m.tn k, .int .i64 m.nu, .int .i64 m.tk, .slice g' m.cn k', .string m.cd, .slice g'' m.an k''] 30)).heap[A1]? = some (.cells #[.string m.ct, .slice a m.tn c, .int .i64 m.nu, .int .i64 m.tk, .slice a' m.cn c', .string m.cd, .slice a'' m.an c''] 30 (0, 0)) ∧ Own (w3.alloc (.cells #[.string m.ct, .slice g m.tn k, .int .i64 m.nu, .int .i64 m.tk, .slice g' m.cn k', .string m.cd, .slice g'' m.an k''] 30)) w.heap.size (m.wi a c a' c' a'' c'')) := by
    have b4 : Below V2.heap.size V2 (w3.alloc (.cells #[.string m.ct, .slice g m.tn k, .int .i64 m.nu, .int .i64 m.tk, .slice g' m.cn k', .string m.cd, .slice g'' m.an k''] 30)) := b3.alloc b3.size _
    exact ⟨below_then HV2.out.1 b4, heap_alloc_new _ _, ho3.below ((Below.refl _ _).alloc (Nat.le_refl _) _), blk_below HV2.out.2.1 b4, HV2.out.2.2.1.below b4, blk_below HV2.out.2.2.2.1 b4, HV2.out.2.2.2.2.below b4⟩
  clear ho3 b3 HV2
  obtain ⟨V3, hV3⟩ : ∃ V, w3.alloc (.cells #[.string m.ct, .slice g m.tn k, .int .i64 m.nu, .int .i64 m.tk, .slice g' m.cn k', .string m.cd, .slice g'' m.an k''] 30) = V := ⟨_, rfl⟩
  rw [hV3] at HV3 ⊢
  clear hV3
  obtain ⟨A3, hA3⟩ : ∃ b, w3.heap.size = b := ⟨_, rfl⟩
  rw [hA3] at HV3 ⊢
  clear hA3
  have hT : Hid (∀ a c a' c' a'' c'' z B, Own z B (m.wi a c a' c' a'' c'') → Tk z (m.wi a c a' c' a'' c'')) := fun a c a' c' a'' c'' z B ho => ⟨⟨_, ho⟩, by show m.tn ≤ _; have := HN.out.1; omega, by show m.cn ≤ _; have := HN.out.2.1; omega, by show m.an ≤ _; have := HN.out.2.2; omega⟩
  have cx := hcell HV3.out.2.2.2.2.2.1
  have htk := tk_any (HI.out.below HV3.out.1) (by omega) (m.wi a c a' c' a'' c'') (hT.out _ _ _ _ _ _ _ _ HV3.out.2.2.2.2.2.2)
  go_wp2_with fail
  refine htk.mono ?_
  rintro _ w4 ⟨rfl, H4⟩
  clear htk cx
  have HV4 : Hid (LS W X K bv mk ke rm L C D E o A A (n + 3) w4 ∧ w4.heap[A3]? = some (.cells #[.string m.ct, .slice g m.tn k, .int .i64 m.nu, .int .i64 m.tk, .slice g' m.cn k', .string m.cd, .slice g'' m.an k''] 30 (0, 0)) ∧ Own w4 V2.heap.size (m.wi g k g' k' g'' k'') ∧ w4.heap[A2]? = some (.cells #[.string m.ct, .slice p m.tn d, .int .i64 m.nu, .int .i64 m.tk, .slice p' m.cn d', .string m.cd, .slice p'' m.an d''] 30 (0, 0)) ∧ Own w4 V1.heap.size (m.wi p d p' d' p'' d'') ∧ w4.heap[A1]? = some (.cells #[.string m.ct, .slice a m.tn c, .int .i64 m.nu, .int .i64 m.tk, .slice a' m.cn c', .string m.cd, .slice a'' m.an c''] 30 (0, 0)) ∧ Own w4 w.heap.size (m.wi a c a' c' a'' c'')) := ⟨H4.out.1, ent_kp HV3.out.2.1 H4.out.2, HV3.out.2.2.1.kp H4.out.2, ent_kp HV3.out.2.2.2.1 H4.out.2, HV3.out.2.2.2.2.1.kp H4.out.2, ent_kp HV3.out.2.2.2.2.2.1 H4.out.2, HV3.out.2.2.2.2.2.2.kp H4.out.2⟩
  clear H4 HV3 HI
  have cx := hcell HV4.out.2.1
  have htk := tk_any HV4.out.1 (by omega) (m.wi g k g' k' g'' k'') (hT.out _ _ _ _ _ _ _ _ HV4.out.2.2.1)
  go_wp2_with fail
  refine htk.mono ?_
  rintro _ w5 ⟨rfl, H5⟩
  clear htk cx hT
  have HV5 : Hid (LS W X K bv mk ke rm L C D E o A A (n + 6) w5 ∧ w5.heap[A3]? = some (.cells #[.string m.ct, .slice g m.tn k, .int .i64 m.nu, .int .i64 m.tk, .slice g' m.cn k', .string m.cd, .slice g'' m.an k''] 30 (0, 0)) ∧ Own w5 V2.heap.size (m.wi g k g' k' g'' k'') ∧ w5.heap[A2]? = some (.cells #[.string m.ct, .slice p m.tn d, .int .i64 m.nu, .int .i64 m.tk, .slice p' m.cn d', .string m.cd, .slice p'' m.an d''] 30 (0, 0)) ∧ Own w5 V1.heap.size (m.wi p d p' d' p'' d'') ∧ w5.heap[A1]? = some (.cells #[.string m.ct, .slice a m.tn c, .int .i64 m.nu, .int .i64 m.tk, .slice a' m.cn c', .string m.cd, .slice a'' m.an c''] 30 (0, 0)) ∧ Own w5 w.heap.size (m.wi a c a' c' a'' c'')) := ⟨H5.out.1, ent_kp HV4.out.2.1 H5.out.2, HV4.out.2.2.1.kp H5.out.2, ent_kp HV4.out.2.2.2.1 H5.out.2, HV4.out.2.2.2.2.1.kp H5.out.2, ent_kp HV4.out.2.2.2.2.2.1 H5.out.2, HV4.out.2.2.2.2.2.2.kp H5.out.2⟩
  clear H5 HV4
  have cx := hcell HV5.out.2.2.2.2.2.1
  have cy := hcell HV5.out.2.2.2.1
  have hsm := same_true (m.wi a c a' c' a'' c'') (w := w5) (p := p) (c := d) (q := p') (d := d') (r := p'') (f := d'') HV5.out.2.2.2.2.2.2.lies HV5.out.2.2.2.2.1.lies (by show m.tn ≤ _; have := HN.out.1; omega) (by show m.cn ≤ _; have := HN.out.2.1; omega) (by show m.an ≤ _; have := HN.out.2.2; omega)
  go_wp2_with fail
  refine hsm.mono ?_
  rintro _ w6 ⟨rfl, b6⟩
  clear hsm cx cy
  have cx := hcell (blk_below HV5.out.2.1 b6)
  have cy := hcell (blk_below HV5.out.2.2.2.1 b6)
  have hsm := same_true (m.wi g k g' k' g'' k'') (w := w6) (p := p) (c := d) (q := p') (d := d') (r := p'') (f := d'') (HV5.out.2.2.1.below b6).lies (HV5.out.2.2.2.2.1.below b6).lies (by show m.tn ≤ _; have := HN.out.1; omega) (by show m.cn ≤ _; have := HN.out.2.1; omega) (by show m.an ≤ _; have := HN.out.2.2; omega)
  have HL : Hid (LS W X K bv mk ke rm L C D E o A A (n + 6) w6) := HV5.out.1.below b6
  clear HV5 b6
  go_wp2_with fail
  refine hsm.mono ?_
  rintro _ w7 ⟨rfl, b7⟩
  have HZ : Hid (LS W X K bv mk ke rm L C D E o A A (n + 6) w7) := HL.out.below b7
  clear hsm b7 cx cy
  go_wp2_with fail
  go_ret
  exact ⟨rfl, HZ⟩
set_option maxRecDepth 100000 in
set_option maxHeartbeats 8000000 in
theorem tells7 (h : LS W X K bv mk ke rm L C D E o A A n w) (po : Option Addr) (q co : Nat) : Calls Tryz.prog 7 #[.pointer (some ⟨X, 0, none⟩), .int .i64 7, .slice po q co] w fun e w' => e = .returned (.bool true) ∧ Hid (LS W X K bv mk ke rm L C D E o A A n w') := by
  have hu := u_count h
  have HR : Hid (∀ z, Below w.heap.size w z → Calls Tryz.prog 36 #[.pointer (some ⟨X, 1, none⟩)] z fun r w' => r = .returned (.tuple #[.int .i64 (A.length : Int), .int .i64 (nOp A : Int)]) ∧ Below z.heap.size z w') := fun z hz => r_count (h.below hz)
  have HI : Hid (LS W X K bv mk ke rm L C D E o A A n w) := h
  have x0 := h.cells.1
  generalize (A.length : Int) = a at hu HR
  generalize (nOp A : Int) = b at hu HR
  clear h
  go_enter Tryz.func7, Tryz.ntmps7
  go_wp2_with fail
  refine hu.mono ?_
  rintro _ w1 ⟨rfl, b1⟩
  have hr := HR.out w1 b1
  have H1 : Hid (LS W X K bv mk ke rm L C D E o A A n w1) := HI.out.below b1
  clear hu HR x0 b1
  go_wp2_with fail
  refine hr.mono ?_
  rintro _ w2 ⟨rfl, b2⟩
  have H2 : Hid (LS W X K bv mk ke rm L C D E o A A n w2) := H1.out.below b2
  clear hr b2
  go_wp2_with fail
  go_ret
  exact ⟨rfl, H2⟩
set_option maxRecDepth 100000 in
set_option maxHeartbeats 8000000 in
theorem tells_no (k : Int) (h4 : ¬ k = 4) (h5 : ¬ k = 5) (h6 : ¬ k = 6) (h7 : ¬ k = 7) (x : Value) (po : Option Addr) (q co : Nat) : Calls Tryz.prog 7 #[x, .int .i64 k, .slice po q co] w fun e w' => e = .returned (.bool true) ∧ w' = w := by
  have k4 : (k == 4) = false := by simpa using h4
  have k5 : (k == 5) = false := by simpa using h5
  have k6 : (k == 6) = false := by simpa using h6
  have k7 : (k == 7) = false := by simpa using h7
  clear h4 h5 h6 h7
  go_enter Tryz.func7, Tryz.ntmps7
  go_wp2_with fail
  go_ret
  exact ⟨rfl, rfl⟩
theorem tells_any (h : LS W X K bv mk ke rm L C D E o A A n w) (hn : n ≤ 600000) (k : Int) {B : Nat} {p : Option Addr} {q c : Nat} (hop : TRow w B (.slice p q c) (opS A)) : Calls Tryz.prog 7 #[.pointer (some ⟨X, 0, none⟩), .int .i64 k, .slice p q c] w fun e w' => e = .returned (.bool true) ∧ Hid (LS W X K bv mk ke rm L C D E o A A (n + 1000) w') := by
  by_cases h4 : k = 4
  · subst h4
    exact (tells4 h (by omega) p q c).mono fun e w' ⟨e1, e2⟩ => ⟨e1, e2.out.mono (by omega)⟩
  by_cases h5 : k = 5
  · subst h5
    exact (tells5 h (by omega) hop).mono fun e w' ⟨e1, e2⟩ => ⟨e1, e2.out.mono (by omega)⟩
  by_cases h6 : k = 6
  · subst h6
    exact tells6 h hn p q c
  by_cases h7 : k = 7
  · subst h7
    exact (tells7 h p q c).mono fun e w' ⟨e1, e2⟩ => ⟨e1, e2.out.mono (by omega)⟩
  exact (tells_no k h4 h5 h6 h7 _ p q c).mono fun e w' ⟨e1, e2⟩ => ⟨e1, by subst e2; exact h.mono (by omega)⟩
end
end Go.Proofs.YtjbkfppibnlmoaaGreatDoor
