import Derived.Test.YtjbkfppibnlmoaaGreatDoorIcPl
import Derived.Deep.RegionHeld3
/-
  The law's plays: Accept with its tick brought up.
-/
namespace Go.Proofs.YtjbkfppibnlmoaaGreatDoor
open Go.RowKit

section
variable {W w w' : World} {X K n C D E : Nat} {bv mk ke rm L : Value} {o : Option (Int × Int)} {A A' : List Ent}
theorem LS.withinT {P : Nat → Prop} (h : LS W X K bv mk ke rm L C D E o A A' n w) (ho : Off P w w') (hP : ∀ q, P q → (C ≤ q ∧ q < D ∧ q < E) ∧ ∃ cs t, w.heap[q]? = some (.cells cs t (0, 0)) ∧ ¬ LTy t) (hC : W.heap.size ≤ C) : LS W X K bv mk ke rm L C D E o A A' n w' :=
  ⟨h.offT ho fun q cs t hc ht hp => by
    obtain ⟨cs', t', hc', ht'⟩ := (hP q hp).2
    rw [hc] at hc'
    simp only [Option.some.injEq, Obj.cells.injEq] at hc'
    exact ht' (hc'.2.1 ▸ ht), h.sd.within ho fun q hp => (hP q hp).1, h.bel.trans (ho.below h.bel.size fun q hp => Nat.le_trans hC (hP q hp).1.1), h.lX, h.lK⟩
theorem nLO : ¬ LTy 32 := fun g => by rcases g with g | g | g | g | g <;> exact absurd g (by decide)
set_option maxRecDepth 100000 in
set_option maxHeartbeats 8000000 in
theorem plays9 (h : LS W X K bv mk ke rm L C D E o A A n w) (hn : n ≤ 500000) (hE : ErrType W) (y : Opv) (hl : Lies W y.e) (hy : Byts W y.ap y.an y.ax) (ho : OpOk y) : Calls Tryz.prog 6 #[.pointer (some ⟨X, 0, none⟩), .agg #[.int .i64 9, .int .i64 y.of_, .int .i64 y.n, .string y.e.ct, .slice y.e.tp y.e.tn y.e.tc, .int .i64 y.e.nu, .int .i64 y.e.tk, .slice y.e.cp y.e.cn y.e.cc, .string y.e.cd, .slice y.e.ap y.e.an y.e.ac, .string y.ct, .string y.cd, .slice y.ap y.an y.ac]] w fun r w' => r = .returned (.bool true) ∧ Hid (PlQ W X K bv mk ke rm o n w') := by
  have bv0 : Below w.heap.size w (w.alloc (.cells #[.int .i64 9, .int .i64 y.of_, .int .i64 y.n, .string y.e.ct, .slice y.e.tp y.e.tn y.e.tc, .int .i64 y.e.nu, .int .i64 y.e.tk, .slice y.e.cp y.e.cn y.e.cc, .string y.e.cd, .slice y.e.ap y.e.an y.e.ac, .string y.ct, .string y.cd, .slice y.ap y.an y.ac] 32)) := (Below.refl _ _).alloc (Nat.le_refl _) _
  have hb0 : (w.alloc (.cells #[.int .i64 9, .int .i64 y.of_, .int .i64 y.n, .string y.e.ct, .slice y.e.tp y.e.tn y.e.tc, .int .i64 y.e.nu, .int .i64 y.e.tk, .slice y.e.cp y.e.cn y.e.cc, .string y.e.cd, .slice y.e.ap y.e.an y.e.ac, .string y.ct, .string y.cd, .slice y.ap y.an y.ac] 32)).heap[w.heap.size]? = some (.cells #[.int .i64 9, .int .i64 y.of_, .int .i64 y.n, .string y.e.ct, .slice y.e.tp y.e.tn y.e.tc, .int .i64 y.e.nu, .int .i64 y.e.tk, .slice y.e.cp y.e.cn y.e.cc, .string y.e.cd, .slice y.e.ap y.e.an y.e.ac, .string y.ct, .string y.cd, .slice y.ap y.an y.ac] 32 (0, 0)) := heap_alloc_new _ _
  obtain ⟨V0, hV0⟩ : ∃ V, w.alloc (.cells #[.int .i64 9, .int .i64 y.of_, .int .i64 y.n, .string y.e.ct, .slice y.e.tp y.e.tn y.e.tc, .int .i64 y.e.nu, .int .i64 y.e.tk, .slice y.e.cp y.e.cn y.e.cc, .string y.e.cd, .slice y.e.ap y.e.an y.e.ac, .string y.ct, .string y.cd, .slice y.ap y.an y.ac] 32) = V := ⟨_, rfl⟩
  rw [hV0] at bv0 hb0
  obtain ⟨ob, hob⟩ : ∃ b, w.heap.size = b := ⟨_, rfl⟩
  rw [hob] at hb0
  have HI : Hid (ErrType W ∧ Lies W y.e ∧ Byts W y.ap y.an y.ax ∧ OpOk y ∧ n ≤ 500000) := ⟨hE, hl, hy, ho, hn⟩
  have HV : Hid (LS W X K bv mk ke rm L C D E o A A n V0 ∧ V0.heap[ob]? = some (.cells #[.int .i64 9, .int .i64 y.of_, .int .i64 y.n, .string y.e.ct, .slice y.e.tp y.e.tn y.e.tc, .int .i64 y.e.nu, .int .i64 y.e.tk, .slice y.e.cp y.e.cn y.e.cc, .string y.e.cd, .slice y.e.ap y.e.an y.e.ac, .string y.ct, .string y.cd, .slice y.ap y.an y.ac] 32 (0, 0))) := ⟨h.below bv0, hb0⟩
  have HW : Hid (LS W X K bv mk ke rm L C D E o A A n w ∧ Below w.heap.size w V0 ∧ w.heap.size = ob) := ⟨h, bv0, hob⟩
  have hop := r_open HV.out.1
  clear h hE hl hy ho hn bv0 hb0
  go_enter Tryz.func6, Tryz.ntmps6
  go_wp2_with fail
  clear hV0 hob
  refine hop.mono ?_
  rintro _ w1 ⟨a, c, rfl, t1, b1⟩
  have H1 : Hid (LS W X K bv mk ke rm L C D E o A A n w1 ∧ w1.heap[ob]? = some (.cells #[.int .i64 9, .int .i64 y.of_, .int .i64 y.n, .string y.e.ct, .slice y.e.tp y.e.tn y.e.tc, .int .i64 y.e.nu, .int .i64 y.e.tk, .slice y.e.cp y.e.cn y.e.cc, .string y.e.cd, .slice y.e.ap y.e.an y.e.ac, .string y.ct, .string y.cd, .slice y.ap y.an y.ac] 32 (0, 0)) ∧ TRow w1 V0.heap.size (.slice a (opS A).length c) (opS A)) := ⟨HV.out.1.below b1, blk_below HV.out.2 b1, t1⟩
  have co := hcell H1.out.2.1
  have HW1 : Hid (Below w.heap.size w w1) := below_then HW.out.2.1 b1
  clear hop t1 b1 HV
  have hla := r_last H1.out.1
  generalize decide (0 < A.length) = t0 at hla
  generalize lasE A = m at hla
  go_wp2_with fail
  refine hla.mono ?_
  rintro _ w2 ⟨p, d, p', d', p'', d'', rfl, _, b2⟩
  clear hla co
  go_upto_region 7 with fail
  have HV2 : Hid (LS W X K bv mk ke rm L C D E o A A n (w2.alloc (.cells #[.string m.ct, .slice p m.tn d, .int .i64 m.nu, .int .i64 m.tk, .slice p' m.cn d', .string m.cd, .slice p'' m.an d''] 30)) ∧ (w2.alloc (.cells #[.string m.ct, .slice p m.tn d, .int .i64 m.nu, .int .i64 m.tk, .slice p' m.cn d', .string m.cd, .slice p'' m.an d''] 30)).heap[ob]? = some (.cells #[.int .i64 9, .int .i64 y.of_, .int .i64 y.n, .string y.e.ct, .slice y.e.tp y.e.tn y.e.tc, .int .i64 y.e.nu, .int .i64 y.e.tk, .slice y.e.cp y.e.cn y.e.cc, .string y.e.cd, .slice y.e.ap y.e.an y.e.ac, .string y.ct, .string y.cd, .slice y.ap y.an y.ac] 32 (0, 0)) ∧ (w2.alloc (.cells #[.string m.ct, .slice p m.tn d, .int .i64 m.nu, .int .i64 m.tk, .slice p' m.cn d', .string m.cd, .slice p'' m.an d''] 30)).heap[w2.heap.size]? = some (.cells #[.string m.ct, .slice p m.tn d, .int .i64 m.nu, .int .i64 m.tk, .slice p' m.cn d', .string m.cd, .slice p'' m.an d''] 30 (0, 0)) ∧ Below w.heap.size w (w2.alloc (.cells #[.string m.ct, .slice p m.tn d, .int .i64 m.nu, .int .i64 m.tk, .slice p' m.cn d', .string m.cd, .slice p'' m.an d''] 30))) := by
    have b3 : Below w1.heap.size w1 (w2.alloc (.cells #[.string m.ct, .slice p m.tn d, .int .i64 m.nu, .int .i64 m.tk, .slice p' m.cn d', .string m.cd, .slice p'' m.an d''] 30)) := b2.alloc b2.size _
    exact ⟨H1.out.1.below b3, blk_below H1.out.2.1 b3, heap_alloc_new _ _, below_then HW1.out b3⟩
  obtain ⟨V2, hV2⟩ : ∃ V, w2.alloc (.cells #[.string m.ct, .slice p m.tn d, .int .i64 m.nu, .int .i64 m.tk, .slice p' m.cn d', .string m.cd, .slice p'' m.an d''] 30) = V := ⟨_, rfl⟩
  rw [hV2] at HV2 ⊢
  clear hV2 b2 HW1
  obtain ⟨A2, hA2⟩ : ∃ b, w2.heap.size = b := ⟨_, rfl⟩
  rw [hA2] at HV2 ⊢
  clear hA2 H1
  have co := hcell HV2.out.2.1
  have cx := hcell HV2.out.2.2.1
  have hac : Calls Tryz.prog 21 #[.pointer (some ⟨X, 0, none⟩), .agg #[.string y.e.ct, .slice y.e.tp y.e.tn y.e.tc, .int .i64 y.e.nu, .int .i64 y.e.tk, .slice y.e.cp y.e.cn y.e.cc, .string y.e.cd, .slice y.e.ap y.e.an y.e.ac]] V2 fun r w' => r = .returned (.bool true) ∧ Hid (PlQ W X K bv mk ke rm o n w') := (accepts_any HV2.out.1 HI.out.1 y.e HI.out.2.1 HI.out.2.2.2.1.k1 HI.out.2.2.2.1.n1 HI.out.2.2.2.1.n2 HI.out.2.2.2.1.n3).mono fun r w' ⟨e1, e2⟩ => ⟨e1, by
    obtain ⟨L', h2⟩ := e2.out
    exact ⟨L', _, h2.mono (by omega)⟩⟩
  cases t0 with
  | false =>
    clear cx
    go_wp2_with fail
    refine hac.mono ?_
    rintro _ w3 ⟨rfl, HZ⟩
    clear hac co
    go_wp2_with fail
    go_ret
    exact ⟨rfl, HZ⟩
  | true =>
    by_cases hlt : y.e.tk < m.tk
    · have HV3 : Hid (LS W X K bv mk ke rm L w.heap.size V2.heap.size V2.heap.size o A A n (V2.setCell ⟨ob, 6, none⟩ (.int .i64 m.tk)) ∧ (V2.setCell ⟨ob, 6, none⟩ (.int .i64 m.tk)).heap[ob]? = some (.cells #[.int .i64 9, .int .i64 y.of_, .int .i64 y.n, .string y.e.ct, .slice y.e.tp y.e.tn y.e.tc, .int .i64 y.e.nu, .int .i64 m.tk, .slice y.e.cp y.e.cn y.e.cc, .string y.e.cd, .slice y.e.ap y.e.an y.e.ac, .string y.ct, .string y.cd, .slice y.ap y.an y.ac] 32 (0, 0))) := by
        have h2 := HW.out.1.hole HV2.out.2.2.2 V2.heap.size V2.heap.size
        refine ⟨h2.withinT (Off.setCell (P := fun q => q = ob) (Off.refl _ _) (p := ⟨ob, 6, none⟩) rfl _) (fun q hq => ?_) HW.out.1.bel.size, set_heap HV2.out.2.1 6 _⟩
        subst hq
        have := blk_lt HV2.out.2.1
        exact ⟨⟨by have := HW.out.2.2; omega, this, this⟩, _, _, HV2.out.2.1, nLO⟩
      have hac2 : Calls Tryz.prog 21 #[.pointer (some ⟨X, 0, none⟩), .agg #[.string y.e.ct, .slice y.e.tp y.e.tn y.e.tc, .int .i64 y.e.nu, .int .i64 m.tk, .slice y.e.cp y.e.cn y.e.cc, .string y.e.cd, .slice y.e.ap y.e.an y.e.ac]] (V2.setCell ⟨ob, 6, none⟩ (.int .i64 m.tk)) fun r w' => r = .returned (.bool true) ∧ Hid (PlQ W X K bv mk ke rm o n w') := (accepts_any HV3.out.1 HI.out.1 { y.e with tk := m.tk } ⟨HI.out.2.1.t, HI.out.2.1.c, HI.out.2.1.a⟩ HI.out.2.2.2.1.k1 HI.out.2.2.2.1.n1 HI.out.2.2.2.1.n2 HI.out.2.2.2.1.n3).mono fun r w' ⟨e1, e2⟩ => ⟨e1, by
        obtain ⟨L', h2⟩ := e2.out
        exact ⟨L', _, h2.mono (by omega)⟩⟩
      have fo := hfroz HV2.out.2.1
      clear hac
      go_upto_region 9 with fail
      obtain ⟨V3, hV3⟩ : ∃ V, V2.setCell ⟨ob, 6, none⟩ (.int .i64 m.tk) = V := ⟨_, rfl⟩
      rw [hV3] at HV3 hac2 ⊢
      clear hV3 cx co fo
      have co := hcell HV3.out.2
      go_wp2_with fail
      refine hac2.mono ?_
      rintro _ w3 ⟨rfl, HZ⟩
      clear hac2 co
      go_wp2_with fail
      go_ret
      exact ⟨rfl, HZ⟩
    · go_wp2_with fail
      refine hac.mono ?_
      rintro _ w3 ⟨rfl, HZ⟩
      clear hac co cx
      go_wp2_with fail
      go_ret
      exact ⟨rfl, HZ⟩
end
end Go.Proofs.YtjbkfppibnlmoaaGreatDoor

/-
  The law's plays: Decide of the N-th open one.
-/
namespace Go.Proofs.YtjbkfppibnlmoaaGreatDoor
open Go.RowKit

section
variable {W w w' : World} {X K n C D E : Nat} {bv mk ke rm L : Value} {o : Option (Int × Int)} {A A' : List Ent}
set_option maxRecDepth 100000 in
set_option maxHeartbeats 8000000 in
theorem plays2 (h : LS W X K bv mk ke rm L C D E o A A n w) (hn : n ≤ 500000) (hE : ErrType W) (y : Opv) (hl : Lies W y.e) (hy : Byts W y.ap y.an y.ax) (ho : OpOk y) : Calls Tryz.prog 6 #[.pointer (some ⟨X, 0, none⟩), .agg #[.int .i64 2, .int .i64 y.of_, .int .i64 y.n, .string y.e.ct, .slice y.e.tp y.e.tn y.e.tc, .int .i64 y.e.nu, .int .i64 y.e.tk, .slice y.e.cp y.e.cn y.e.cc, .string y.e.cd, .slice y.e.ap y.e.an y.e.ac, .string y.ct, .string y.cd, .slice y.ap y.an y.ac]] w fun r w' => r = .returned (.bool true) ∧ Hid (PlQ W X K bv mk ke rm o n w') := by
  have bv0 : Below w.heap.size w (w.alloc (.cells #[.int .i64 2, .int .i64 y.of_, .int .i64 y.n, .string y.e.ct, .slice y.e.tp y.e.tn y.e.tc, .int .i64 y.e.nu, .int .i64 y.e.tk, .slice y.e.cp y.e.cn y.e.cc, .string y.e.cd, .slice y.e.ap y.e.an y.e.ac, .string y.ct, .string y.cd, .slice y.ap y.an y.ac] 32)) := (Below.refl _ _).alloc (Nat.le_refl _) _
  have hb0 : (w.alloc (.cells #[.int .i64 2, .int .i64 y.of_, .int .i64 y.n, .string y.e.ct, .slice y.e.tp y.e.tn y.e.tc, .int .i64 y.e.nu, .int .i64 y.e.tk, .slice y.e.cp y.e.cn y.e.cc, .string y.e.cd, .slice y.e.ap y.e.an y.e.ac, .string y.ct, .string y.cd, .slice y.ap y.an y.ac] 32)).heap[w.heap.size]? = some (.cells #[.int .i64 2, .int .i64 y.of_, .int .i64 y.n, .string y.e.ct, .slice y.e.tp y.e.tn y.e.tc, .int .i64 y.e.nu, .int .i64 y.e.tk, .slice y.e.cp y.e.cn y.e.cc, .string y.e.cd, .slice y.e.ap y.e.an y.e.ac, .string y.ct, .string y.cd, .slice y.ap y.an y.ac] 32 (0, 0)) := heap_alloc_new _ _
  obtain ⟨V0, hV0⟩ : ∃ V, w.alloc (.cells #[.int .i64 2, .int .i64 y.of_, .int .i64 y.n, .string y.e.ct, .slice y.e.tp y.e.tn y.e.tc, .int .i64 y.e.nu, .int .i64 y.e.tk, .slice y.e.cp y.e.cn y.e.cc, .string y.e.cd, .slice y.e.ap y.e.an y.e.ac, .string y.ct, .string y.cd, .slice y.ap y.an y.ac] 32) = V := ⟨_, rfl⟩
  rw [hV0] at bv0 hb0
  obtain ⟨ob, hob⟩ : ∃ b, w.heap.size = b := ⟨_, rfl⟩
  rw [hob] at hb0
  have HI : Hid (ErrType W ∧ Lies W y.e ∧ Byts W y.ap y.an y.ax ∧ OpOk y ∧ n ≤ 500000) := ⟨hE, hl, hy, ho, hn⟩
  have HV : Hid (LS W X K bv mk ke rm L C D E o A A n V0 ∧ V0.heap[ob]? = some (.cells #[.int .i64 2, .int .i64 y.of_, .int .i64 y.n, .string y.e.ct, .slice y.e.tp y.e.tn y.e.tc, .int .i64 y.e.nu, .int .i64 y.e.tk, .slice y.e.cp y.e.cn y.e.cc, .string y.e.cd, .slice y.e.ap y.e.an y.e.ac, .string y.ct, .string y.cd, .slice y.ap y.an y.ac] 32 (0, 0))) := ⟨h.below bv0, hb0⟩
  have hop := r_open HV.out.1
  clear h hE hl hy ho hn bv0 hb0
  go_enter Tryz.func6, Tryz.ntmps6
  go_wp2_with fail
  clear hV0 hob
  refine hop.mono ?_
  rintro _ w1 ⟨a, c, rfl, t1, b1⟩
  have H1 : Hid (LS W X K bv mk ke rm L C D E o A A n w1 ∧ w1.heap[ob]? = some (.cells #[.int .i64 2, .int .i64 y.of_, .int .i64 y.n, .string y.e.ct, .slice y.e.tp y.e.tn y.e.tc, .int .i64 y.e.nu, .int .i64 y.e.tk, .slice y.e.cp y.e.cn y.e.cc, .string y.e.cd, .slice y.e.ap y.e.an y.e.ac, .string y.ct, .string y.cd, .slice y.ap y.an y.ac] 32 (0, 0)) ∧ TRow w1 V0.heap.size (.slice a (opS A).length c) (opS A)) := ⟨HV.out.1.below b1, blk_below HV.out.2 b1, t1⟩
  have co := hcell H1.out.2.1
  clear hop t1 b1 HV
  obtain ⟨nl, hnl⟩ : ∃ k, (opS A).length = k := ⟨_, rfl⟩
  have HT : Hid (TRow w1 V0.heap.size (.slice a nl c) (opS A) ∧ nl ≤ 97 ∧ ∀ s ∈ opS A, KeyS s) := by
    refine ⟨by rw [← hnl]; exact H1.out.2.2, ?_, fun s hs => ?_⟩
    · rw [← hnl]
      unfold opS
      rw [List.length_map]
      exact Nat.le_trans (List.length_filter_le _ _) H1.out.1.bnd.1
    · unfold opS at hs
      obtain ⟨e, he, rfl⟩ := List.mem_map.1 hs
      exact keyS_of (H1.out.1.bnd.2.2 e (List.mem_filter.1 he).1)
  rw [hnl]
  clear hnl
  rcases Nat.eq_zero_or_pos nl with h0 | h0
  · subst h0
    have HZ : Hid (PlQ W X K bv mk ke rm o n w1) := ⟨L, A, H1.out.1.free.mono (by omega)⟩
    clear H1 HT
    go_wp2_with fail
    go_ret
    exact ⟨rfl, HZ⟩
  · have hne : ((nl : Int) == 0) = false := by rw [beq_eq_false_iff_ne]; omega
    obtain ⟨g, hg⟩ : ∃ g, a = some ⟨g, 0, none⟩ := by
      obtain ⟨g, s, e, _⟩ := trow_at HT.out.1 h0
      exact ⟨g, e⟩
    subst hg
    have HWi : Hid (∀ z, Calls Tryz.prog 24 #[.int .i64 y.n, .int .i64 (nl : Int)] z fun r w' => ∃ (j : Nat) (s : ByteArray), r = .returned (.int .i64 (j : Int)) ∧ w' = z ∧ (j : Int) < nl ∧ w1.cell? ⟨g, j, none⟩ = some (.string s) ∧ Hid (s ∈ opS A)) := fun z =>
      (within_any y.n z h0 (by have := HT.out.2.1; omega)).mono fun r w' ⟨j, hj, e1, e2⟩ => by
        obtain ⟨g', s, eg, hs, hc⟩ := trow_at HT.out.1 hj
        simp only [Option.some.injEq, Addr.mk.injEq, and_true] at eg
        subst eg
        exact ⟨j, s, e1, e2, by omega, hc, List.mem_of_getElem? hs⟩
    have HDe : Hid (∀ s, s ∈ opS A → ∀ z, Below w1.heap.size w1 z → Calls Tryz.prog 23 #[.pointer (some ⟨X, 0, none⟩), .string s, .string y.cd, .slice y.ap y.an y.ac] z fun r w' => r = .returned (.bool true) ∧ Hid (PlQ W X K bv mk ke rm o n w')) := fun s hs z hz =>
      (decides_any (cd := y.cd) (co := y.ac) (H1.out.1.below hz) (by have := HI.out.2.2.2.2; omega) HI.out.1 (HT.out.2.2 s hs) HI.out.2.2.1 HI.out.2.2.2.1.n4).mono fun r w' ⟨e1, e2⟩ => ⟨e1, by
        obtain ⟨L', h2⟩ := e2.out
        exact ⟨L', _, h2.mono (by omega)⟩⟩
    have lo := blk_lt H1.out.2.1
    have lg : g < w1.heap.size := (ERow.lt HT.out.1 (g := g) rfl).2
    clear H1 HI HT h0
    go_upto_region 15 with fail
    go_region_law (first | (go_simp; go_at_call 24; refine (HWi.out _).mono ?_; rintro _ y1 ⟨j, s, rfl, hy1, hj, hs, hm⟩; subst hy1) | (go_simp; go_at_call 23; refine (HDe.out _ hm.out _ ?_).mono ?_; (first | exact Below.refl _ _ | exact Below.drew (Below.refl _ _)); rintro _ y2 ⟨rfl, HZ⟩))
    all_goals
      go_wp2_with fail
      go_ret
      first | exact ⟨rfl, HZ⟩ | (obtain ⟨L9, A9, h9⟩ := HZ.out; exact ⟨rfl, L9, A9, h9.below (Below.refl _ _).drew⟩)
end
end Go.Proofs.YtjbkfppibnlmoaaGreatDoor

/-
  The law's plays: Find of the N-th kept one.
-/
namespace Go.Proofs.YtjbkfppibnlmoaaGreatDoor
open Go.RowKit

section
variable {W w w' : World} {X K n C D E : Nat} {bv mk ke rm L : Value} {o : Option (Int × Int)} {A A' : List Ent}
set_option maxRecDepth 100000 in
set_option maxHeartbeats 8000000 in
theorem plays8 (h : LS W X K bv mk ke rm L C D E o A A n w) (hn : n ≤ 500000) (hE : ErrType W) (y : Opv) (hl : Lies W y.e) (hy : Byts W y.ap y.an y.ax) (ho : OpOk y) : Calls Tryz.prog 6 #[.pointer (some ⟨X, 0, none⟩), .agg #[.int .i64 8, .int .i64 y.of_, .int .i64 y.n, .string y.e.ct, .slice y.e.tp y.e.tn y.e.tc, .int .i64 y.e.nu, .int .i64 y.e.tk, .slice y.e.cp y.e.cn y.e.cc, .string y.e.cd, .slice y.e.ap y.e.an y.e.ac, .string y.ct, .string y.cd, .slice y.ap y.an y.ac]] w fun r w' => r = .returned (.bool true) ∧ Hid (PlQ W X K bv mk ke rm o n w') := by
  have bv0 : Below w.heap.size w (w.alloc (.cells #[.int .i64 8, .int .i64 y.of_, .int .i64 y.n, .string y.e.ct, .slice y.e.tp y.e.tn y.e.tc, .int .i64 y.e.nu, .int .i64 y.e.tk, .slice y.e.cp y.e.cn y.e.cc, .string y.e.cd, .slice y.e.ap y.e.an y.e.ac, .string y.ct, .string y.cd, .slice y.ap y.an y.ac] 32)) := (Below.refl _ _).alloc (Nat.le_refl _) _
  have hb0 : (w.alloc (.cells #[.int .i64 8, .int .i64 y.of_, .int .i64 y.n, .string y.e.ct, .slice y.e.tp y.e.tn y.e.tc, .int .i64 y.e.nu, .int .i64 y.e.tk, .slice y.e.cp y.e.cn y.e.cc, .string y.e.cd, .slice y.e.ap y.e.an y.e.ac, .string y.ct, .string y.cd, .slice y.ap y.an y.ac] 32)).heap[w.heap.size]? = some (.cells #[.int .i64 8, .int .i64 y.of_, .int .i64 y.n, .string y.e.ct, .slice y.e.tp y.e.tn y.e.tc, .int .i64 y.e.nu, .int .i64 y.e.tk, .slice y.e.cp y.e.cn y.e.cc, .string y.e.cd, .slice y.e.ap y.e.an y.e.ac, .string y.ct, .string y.cd, .slice y.ap y.an y.ac] 32 (0, 0)) := heap_alloc_new _ _
  obtain ⟨V0, hV0⟩ : ∃ V, w.alloc (.cells #[.int .i64 8, .int .i64 y.of_, .int .i64 y.n, .string y.e.ct, .slice y.e.tp y.e.tn y.e.tc, .int .i64 y.e.nu, .int .i64 y.e.tk, .slice y.e.cp y.e.cn y.e.cc, .string y.e.cd, .slice y.e.ap y.e.an y.e.ac, .string y.ct, .string y.cd, .slice y.ap y.an y.ac] 32) = V := ⟨_, rfl⟩
  rw [hV0] at bv0 hb0
  obtain ⟨ob, hob⟩ : ∃ b, w.heap.size = b := ⟨_, rfl⟩
  rw [hob] at hb0
  have HI : Hid (ErrType W ∧ Lies W y.e ∧ Byts W y.ap y.an y.ax ∧ OpOk y ∧ n ≤ 500000) := ⟨hE, hl, hy, ho, hn⟩
  have HV : Hid (LS W X K bv mk ke rm L C D E o A A n V0 ∧ V0.heap[ob]? = some (.cells #[.int .i64 8, .int .i64 y.of_, .int .i64 y.n, .string y.e.ct, .slice y.e.tp y.e.tn y.e.tc, .int .i64 y.e.nu, .int .i64 y.e.tk, .slice y.e.cp y.e.cn y.e.cc, .string y.e.cd, .slice y.e.ap y.e.an y.e.ac, .string y.ct, .string y.cd, .slice y.ap y.an y.ac] 32 (0, 0))) := ⟨h.below bv0, hb0⟩
  have hop := r_open HV.out.1
  clear h hE hl hy ho hn bv0 hb0
  go_enter Tryz.func6, Tryz.ntmps6
  go_wp2_with fail
  clear hV0 hob
  refine hop.mono ?_
  rintro _ w1 ⟨a, c, rfl, t1, b1⟩
  have H1 : Hid (LS W X K bv mk ke rm L C D E o A A n w1 ∧ w1.heap[ob]? = some (.cells #[.int .i64 8, .int .i64 y.of_, .int .i64 y.n, .string y.e.ct, .slice y.e.tp y.e.tn y.e.tc, .int .i64 y.e.nu, .int .i64 y.e.tk, .slice y.e.cp y.e.cn y.e.cc, .string y.e.cd, .slice y.e.ap y.e.an y.e.ac, .string y.ct, .string y.cd, .slice y.ap y.an y.ac] 32 (0, 0)) ∧ TRow w1 V0.heap.size (.slice a (opS A).length c) (opS A)) := ⟨HV.out.1.below b1, blk_below HV.out.2 b1, t1⟩
  have co := hcell H1.out.2.1
  clear hop t1 b1 HV
  obtain ⟨ad, cd, ld, eL, hrow, hown, htw, hbn⟩ := H1.out.1.docrow
  obtain ⟨nl, hnl⟩ : ∃ k, A.length = k := ⟨_, rfl⟩
  rw [hnl] at eL hrow
  have x4 := H1.out.1.cells.2.2.1
  have lX := H1.out.1.cells.2.2.2.2
  rw [eL] at x4
  have HT : Hid (NRow w1 W.heap.size (.slice ad nl cd) ld ∧ nl ≤ 97 ∧ (∀ s ∈ ld, KeyS s.ct)) := by
    refine ⟨hrow, by rw [← hnl]; exact H1.out.1.bnd.1, fun l hl => ?_⟩
    obtain ⟨i, hi, rfl⟩ := List.getElem_of_mem hl
    have hj : i < A.length := by rw [← htw.1]; exact hi
    obtain ⟨a, c, a', c', a'', c'', e1⟩ := htw.2 i _ _ (List.getElem?_eq_getElem hi) (List.getElem?_eq_getElem hj)
    have h1 := keyS_of (H1.out.1.bnd.2.2 A[i] (List.getElem_mem hj))
    rw [e1] at h1
    exact h1
  clear hrow hown htw hbn hnl eL
  rcases Nat.eq_zero_or_pos nl with h0 | h0
  · subst h0
    have HZ : Hid (PlQ W X K bv mk ke rm o n w1) := ⟨L, A, H1.out.1.free.mono (by omega)⟩
    clear H1 HT
    go_wp2_with fail
    go_ret
    exact ⟨rfl, HZ⟩
  · have hne : ((nl : Int) == 0) = false := by rw [beq_eq_false_iff_ne]; omega
    obtain ⟨g, hg⟩ : ∃ g, ad = some ⟨g, 0, none⟩ := by
      obtain ⟨l, hl⟩ : ∃ l, ld[0]? = some l := ⟨_, List.getElem?_eq_getElem (by rw [← ERow.len HT.out.1]; exact h0)⟩
      obtain ⟨g, e, _⟩ := nrow_cells HT.out.1 hl
      exact ⟨g, e⟩
    subst hg
    have HWi : Hid (∀ z, Calls Tryz.prog 24 #[.int .i64 y.n, .int .i64 (nl : Int)] z fun r w' => ∃ (j : Nat) (s : ByteArray), r = .returned (.int .i64 (j : Int)) ∧ w' = z ∧ (j : Int) < nl ∧ w1.cell? ⟨g, j * 7, none⟩ = some (.string s) ∧ Hid (KeyS s)) := fun z =>
      (within_any y.n z h0 (by have := HT.out.2.1; omega)).mono fun r w' ⟨j, hj, e1, e2⟩ => by
        obtain ⟨l, hl⟩ : ∃ l, ld[j]? = some l := ⟨_, List.getElem?_eq_getElem (by rw [← ERow.len HT.out.1]; exact hj)⟩
        obtain ⟨g', eg, _, d0, _⟩ := nrow_cells HT.out.1 hl
        simp only [Option.some.injEq, Addr.mk.injEq, and_true] at eg
        subst eg
        exact ⟨j, l.ct, e1, e2, by omega, d0, HT.out.2.2 l (List.mem_of_getElem? hl)⟩
    have HDe : Hid (∀ s, KeyS s → ∀ z, Below w1.heap.size w1 z → Calls Tryz.prog 25 #[.pointer (some ⟨X, 0, none⟩), .string s] z fun r w' => r = .returned (.bool true) ∧ Hid (PlQ W X K bv mk ke rm o n w')) := fun s hs z hz =>
      (finds_any (H1.out.1.below hz) (by have := HI.out.2.2.2.2; omega) hs).mono fun r w' ⟨e1, e2⟩ => ⟨e1, ⟨L, A, e2.out.free.mono (by omega)⟩⟩
    have lo := blk_lt H1.out.2.1
    have lg : g < w1.heap.size := (ERow.lt HT.out.1 (g := g) rfl).2
    clear H1 HI HT h0
    go_upto_region 21 with fail
    go_region_law (first | (go_simp; go_at_call 24; refine (HWi.out _).mono ?_; rintro _ y1 ⟨j, s, rfl, hy1, hj, hs, hm⟩; subst hy1) | (go_simp; go_at_call 25; refine (HDe.out _ hm.out _ ?_).mono ?_; (first | exact Below.refl _ _ | exact Below.drew (Below.refl _ _)); rintro _ y2 ⟨rfl, HZ⟩))
    all_goals
      go_wp2_with fail
      go_ret
      first | exact ⟨rfl, HZ⟩ | (obtain ⟨L9, A9, h9⟩ := HZ.out; exact ⟨rfl, L9, A9, h9.below (Below.refl _ _).drew⟩)
end
end Go.Proofs.YtjbkfppibnlmoaaGreatDoor
