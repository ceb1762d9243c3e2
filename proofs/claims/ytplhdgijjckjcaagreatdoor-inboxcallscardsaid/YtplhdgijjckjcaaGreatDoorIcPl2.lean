/-
  The law's plays: Decide of the N-th open one.
-/
import Derived.Test.YtplhdgijjckjcaaGreatDoorIcPl9
import Derived.Deep.RegionHeld3
namespace Go.Proofs.YtplhdgijjckjcaaGreatDoor
open Go.RowKit

section
variable {W w w' : World} {X K n C D E : Nat} {bv mk ke rm L : Value} {o : Option (Int × Int)} {A A' : List Ent}
set_option maxRecDepth 100000 in
set_option maxHeartbeats 8000000 in
theorem plays2 (h : LS W X K bv mk ke rm L C D E o A A n w) (hn : n ≤ 500000) (hE : ErrType W) (y : Opv) (hl : Lies W y.e) (hy : Byts W y.ap y.an y.ax) (ho : OpOk y) : Calls Tryz.prog 5 #[.pointer (some ⟨X, 0, none⟩), .agg #[.int .i64 2, .int .i64 y.of_, .int .i64 y.n, .string y.e.ct, .slice y.e.tp y.e.tn y.e.tc, .int .i64 y.e.nu, .int .i64 y.e.tk, .slice y.e.cp y.e.cn y.e.cc, .string y.e.cd, .slice y.e.ap y.e.an y.e.ac, .string y.ct, .string y.cd, .slice y.ap y.an y.ac]] w fun r w' => r = .returned (.bool true) ∧ Hid (PlQ W X K bv mk ke rm o n w') := by
  have bv0 : Below w.heap.size w (w.alloc (.cells #[.int .i64 2, .int .i64 y.of_, .int .i64 y.n, .string y.e.ct, .slice y.e.tp y.e.tn y.e.tc, .int .i64 y.e.nu, .int .i64 y.e.tk, .slice y.e.cp y.e.cn y.e.cc, .string y.e.cd, .slice y.e.ap y.e.an y.e.ac, .string y.ct, .string y.cd, .slice y.ap y.an y.ac] 31)) := (Below.refl _ _).alloc (Nat.le_refl _) _
  have hb0 : (w.alloc (.cells #[.int .i64 2, .int .i64 y.of_, .int .i64 y.n, .string y.e.ct, .slice y.e.tp y.e.tn y.e.tc, .int .i64 y.e.nu, .int .i64 y.e.tk, .slice y.e.cp y.e.cn y.e.cc, .string y.e.cd, .slice y.e.ap y.e.an y.e.ac, .string y.ct, .string y.cd, .slice y.ap y.an y.ac] 31)).heap[w.heap.size]? = some (.cells #[.int .i64 2, .int .i64 y.of_, .int .i64 y.n, .string y.e.ct, .slice y.e.tp y.e.tn y.e.tc, .int .i64 y.e.nu, .int .i64 y.e.tk, .slice y.e.cp y.e.cn y.e.cc, .string y.e.cd, .slice y.e.ap y.e.an y.e.ac, .string y.ct, .string y.cd, .slice y.ap y.an y.ac] 31 (0, 0)) := heap_alloc_new _ _
  obtain ⟨V0, hV0⟩ : ∃ V, w.alloc (.cells #[.int .i64 2, .int .i64 y.of_, .int .i64 y.n, .string y.e.ct, .slice y.e.tp y.e.tn y.e.tc, .int .i64 y.e.nu, .int .i64 y.e.tk, .slice y.e.cp y.e.cn y.e.cc, .string y.e.cd, .slice y.e.ap y.e.an y.e.ac, .string y.ct, .string y.cd, .slice y.ap y.an y.ac] 31) = V := ⟨_, rfl⟩
  rw [hV0] at bv0 hb0
  obtain ⟨ob, hob⟩ : ∃ b, w.heap.size = b := ⟨_, rfl⟩
  rw [hob] at hb0
  have HI : Hid (ErrType W ∧ Lies W y.e ∧ Byts W y.ap y.an y.ax ∧ OpOk y ∧ n ≤ 500000) := ⟨hE, hl, hy, ho, hn⟩
  have HV : Hid (LS W X K bv mk ke rm L C D E o A A n V0 ∧ V0.heap[ob]? = some (.cells #[.int .i64 2, .int .i64 y.of_, .int .i64 y.n, .string y.e.ct, .slice y.e.tp y.e.tn y.e.tc, .int .i64 y.e.nu, .int .i64 y.e.tk, .slice y.e.cp y.e.cn y.e.cc, .string y.e.cd, .slice y.e.ap y.e.an y.e.ac, .string y.ct, .string y.cd, .slice y.ap y.an y.ac] 31 (0, 0))) := ⟨h.below bv0, hb0⟩
  have hop := r_open HV.out.1
  clear h hE hl hy ho hn bv0 hb0
  go_enter Tryz.func5, Tryz.ntmps5
  go_wp2_with fail
  clear hV0 hob
  refine hop.mono ?_
  rintro _ w1 ⟨a, c, rfl, t1, b1⟩
  have H1 : Hid (LS W X K bv mk ke rm L C D E o A A n w1 ∧ w1.heap[ob]? = some (.cells #[.int .i64 2, .int .i64 y.of_, .int .i64 y.n, .string y.e.ct, .slice y.e.tp y.e.tn y.e.tc, .int .i64 y.e.nu, .int .i64 y.e.tk, .slice y.e.cp y.e.cn y.e.cc, .string y.e.cd, .slice y.e.ap y.e.an y.e.ac, .string y.ct, .string y.cd, .slice y.ap y.an y.ac] 31 (0, 0)) ∧ TRow w1 V0.heap.size (.slice a (opS A).length c) (opS A)) := ⟨HV.out.1.below b1, blk_below HV.out.2 b1, t1⟩
  have co := hcell H1.out.2.1
  clear hop t1 b1 HV
  obtain ⟨nl, hnl⟩ : ∃ k, (opS A).length = k := ⟨_, rfl⟩
  have HT : Hid (TRow w1 V0.heap.size (.slice a nl c) (opS A) ∧ nl ≤ 97 ∧ ∀ s ∈ opS A, KeyS s) := by
    refine ⟨by rw [← hnl]; exact H1.out.2.2, ?_, fun s hs => ?_⟩
    · rw [← hnl]
      unfold opS
      rw [List.length_map]
      exact Nat.le_trans (List.length_filter_le _ _) H1.out.1.bnd.1
    · unfold opS at hs
      obtain ⟨e, he, rfl⟩ := List.mem_map.1 hs
      exact keyS_of (H1.out.1.bnd.2.2 e (List.mem_filter.1 he).1)
  rw [hnl]
  clear hnl
  rcases Nat.eq_zero_or_pos nl with h0 | h0
  · subst h0
    have HZ : Hid (PlQ W X K bv mk ke rm o n w1) := ⟨L, A, H1.out.1.free.mono (by omega)⟩
    clear H1 HT
    go_wp2_with fail
    go_ret
    exact ⟨rfl, HZ⟩
  · have hne : ((nl : Int) == 0) = false := by rw [beq_eq_false_iff_ne]; omega
    obtain ⟨g, hg⟩ : ∃ g, a = some ⟨g, 0, none⟩ := by
      obtain ⟨g, s, e, _⟩ := trow_at HT.out.1 h0
      exact ⟨g, e⟩
    subst hg
    have HWi : Hid (∀ z, Calls Tryz.prog 14 #[.int .i64 y.n, .int .i64 (nl : Int)] z fun r w' => ∃ (j : Nat) (s : ByteArray), r = .returned (.int .i64 (j : Int)) ∧ w' = z ∧ (j : Int) < nl ∧ w1.cell? ⟨g, j, none⟩ = some (.string s) ∧ Hid (s ∈ opS A)) := fun z =>
      (within_any y.n z h0 (by have := HT.out.2.1; omega)).mono fun r w' ⟨j, hj, e1, e2⟩ => by
        obtain ⟨g', s, eg, hs, hc⟩ := trow_at HT.out.1 hj
        simp only [Option.some.injEq, Addr.mk.injEq, and_true] at eg
        subst eg
        exact ⟨j, s, e1, e2, by omega, hc, List.mem_of_getElem? hs⟩
    have HDe : Hid (∀ s, s ∈ opS A → ∀ z, Below w1.heap.size w1 z → Calls Tryz.prog 13 #[.pointer (some ⟨X, 0, none⟩), .string s, .string y.cd, .slice y.ap y.an y.ac] z fun r w' => r = .returned (.bool true) ∧ Hid (PlQ W X K bv mk ke rm o n w')) := fun s hs z hz =>
      (decides_any (cd := y.cd) (co := y.ac) (H1.out.1.below hz) (by have := HI.out.2.2.2.2; omega) HI.out.1 (HT.out.2.2 s hs) HI.out.2.2.1 HI.out.2.2.2.1.n4).mono fun r w' ⟨e1, e2⟩ => ⟨e1, by
        obtain ⟨L', h2⟩ := e2.out
        exact ⟨L', _, h2.mono (by omega)⟩⟩
    have lo := blk_lt H1.out.2.1
    have lg : g < w1.heap.size := (ERow.lt HT.out.1 (g := g) rfl).2
    clear H1 HI HT h0
    go_upto_region 15 with fail
    go_region_law (first | (go_simp; go_at_call 14; refine (HWi.out _).mono ?_; rintro _ y1 ⟨j, s, rfl, hy1, hj, hs, hm⟩; subst hy1) | (go_simp; go_at_call 13; refine (HDe.out _ hm.out _ ?_).mono ?_; (first | exact Below.refl _ _ | exact Below.drew (Below.refl _ _)); rintro _ y2 ⟨rfl, HZ⟩))
    all_goals
      go_wp2_with fail
      go_ret
      first | exact ⟨rfl, HZ⟩ | (obtain ⟨L9, A9, h9⟩ := HZ.out; exact ⟨rfl, L9, A9, h9.below (Below.refl _ _).drew⟩)
end
end Go.Proofs.YtplhdgijjckjcaaGreatDoor
