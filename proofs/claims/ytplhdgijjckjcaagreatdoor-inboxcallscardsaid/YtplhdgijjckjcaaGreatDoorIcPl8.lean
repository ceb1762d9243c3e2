/-
  The law's plays: Find of the N-th kept one.
-/
import Derived.Test.YtplhdgijjckjcaaGreatDoorIcPl9
import Derived.Deep.RegionHeld3
namespace Go.Proofs.YtplhdgijjckjcaaGreatDoor
open Go.RowKit

section
variable {W w w' : World} {X K n C D E : Nat} {bv mk ke rm L : Value} {o : Option (Int × Int)} {A A' : List Ent}
set_option maxRecDepth 100000 in
set_option maxHeartbeats 8000000 in
theorem plays8 (h : LS W X K bv mk ke rm L C D E o A A n w) (hn : n ≤ 500000) (hE : ErrType W) (y : Opv) (hl : Lies W y.e) (hy : Byts W y.ap y.an y.ax) (ho : OpOk y) : Calls Tryz.prog 5 #[.pointer (some ⟨X, 0, none⟩), .agg #[.int .i64 8, .int .i64 y.of_, .int .i64 y.n, .string y.e.ct, .slice y.e.tp y.e.tn y.e.tc, .int .i64 y.e.nu, .int .i64 y.e.tk, .slice y.e.cp y.e.cn y.e.cc, .string y.e.cd, .slice y.e.ap y.e.an y.e.ac, .string y.ct, .string y.cd, .slice y.ap y.an y.ac]] w fun r w' => r = .returned (.bool true) ∧ Hid (PlQ W X K bv mk ke rm o n w') := by
  have bv0 : Below w.heap.size w (w.alloc (.cells #[.int .i64 8, .int .i64 y.of_, .int .i64 y.n, .string y.e.ct, .slice y.e.tp y.e.tn y.e.tc, .int .i64 y.e.nu, .int .i64 y.e.tk, .slice y.e.cp y.e.cn y.e.cc, .string y.e.cd, .slice y.e.ap y.e.an y.e.ac, .string y.ct, .string y.cd, .slice y.ap y.an y.ac] 31)) := (Below.refl _ _).alloc (Nat.le_refl _) _
  have hb0 : (w.alloc (.cells #[.int .i64 8, .int .i64 y.of_, .int .i64 y.n, .string y.e.ct, .slice y.e.tp y.e.tn y.e.tc, .int .i64 y.e.nu, .int .i64 y.e.tk, .slice y.e.cp y.e.cn y.e.cc, .string y.e.cd, .slice y.e.ap y.e.an y.e.ac, .string y.ct, .string y.cd, .slice y.ap y.an y.ac] 31)).heap[w.heap.size]? = some (.cells #[.int .i64 8, .int .i64 y.of_, .int .i64 y.n, .string y.e.ct, .slice y.e.tp y.e.tn y.e.tc, .int .i64 y.e.nu, .int .i64 y.e.tk, .slice y.e.cp y.e.cn y.e.cc, .string y.e.cd, .slice y.e.ap y.e.an y.e.ac, .string y.ct, .string y.cd, .slice y.ap y.an y.ac] 31 (0, 0)) := heap_alloc_new _ _
  obtain ⟨V0, hV0⟩ : ∃ V, w.alloc (.cells #[.int .i64 8, .int .i64 y.of_, .int .i64 y.n, .string y.e.ct, .slice y.e.tp y.e.tn y.e.tc, .int .i64 y.e.nu, .int .i64 y.e.tk, .slice y.e.cp y.e.cn y.e.cc, .string y.e.cd, .slice y.e.ap y.e.an y.e.ac, .string y.ct, .string y.cd, .slice y.ap y.an y.ac] 31) = V := ⟨_, rfl⟩
  rw [hV0] at bv0 hb0
  obtain ⟨ob, hob⟩ : ∃ b, w.heap.size = b := ⟨_, rfl⟩
  rw [hob] at hb0
  have HI : Hid (ErrType W ∧ Lies W y.e ∧ Byts W y.ap y.an y.ax ∧ OpOk y ∧ n ≤ 500000) := ⟨hE, hl, hy, ho, hn⟩
  have HV : Hid (LS W X K bv mk ke rm L C D E o A A n V0 ∧ V0.heap[ob]? = some (.cells #[.int .i64 8, .int .i64 y.of_, .int .i64 y.n, .string y.e.ct, .slice y.e.tp y.e.tn y.e.tc, .int .i64 y.e.nu, .int .i64 y.e.tk, .slice y.e.cp y.e.cn y.e.cc, .string y.e.cd, .slice y.e.ap y.e.an y.e.ac, .string y.ct, .string y.cd, .slice y.ap y.an y.ac] 31 (0, 0))) := ⟨h.below bv0, hb0⟩
  have hop := r_open HV.out.1
  clear h hE hl hy ho hn bv0 hb0
  go_enter Tryz.func5, Tryz.ntmps5
  go_wp2_with fail
  clear hV0 hob
  refine hop.mono ?_
  rintro _ w1 ⟨a, c, rfl, t1, b1⟩
  have H1 : Hid (LS W X K bv mk ke rm L C D E o A A n w1 ∧ w1.heap[ob]? = some (.cells #[.int .i64 8, .int .i64 y.of_, .int .i64 y.n, .string y.e.ct, .slice y.e.tp y.e.tn y.e.tc, .int .i64 y.e.nu, .int .i64 y.e.tk, .slice y.e.cp y.e.cn y.e.cc, .string y.e.cd, .slice y.e.ap y.e.an y.e.ac, .string y.ct, .string y.cd, .slice y.ap y.an y.ac] 31 (0, 0)) ∧ TRow w1 V0.heap.size (.slice a (opS A).length c) (opS A)) := ⟨HV.out.1.below b1, blk_below HV.out.2 b1, t1⟩
  have co := hcell H1.out.2.1
  clear hop t1 b1 HV
  obtain ⟨ad, cd, ld, eL, hrow, hown, htw, hbn⟩ := H1.out.1.docrow
  obtain ⟨nl, hnl⟩ : ∃ k, A.length = k := ⟨_, rfl⟩
  rw [hnl] at eL hrow
  have x4 := H1.out.1.cells.2.2.1
  have lX := H1.out.1.cells.2.2.2.2
  rw [eL] at x4
  have HT : Hid (NRow w1 W.heap.size (.slice ad nl cd) ld ∧ nl ≤ 97 ∧ (∀ s ∈ ld, KeyS s.ct)) := by
    refine ⟨hrow, by rw [← hnl]; exact H1.out.1.bnd.1, fun l hl => ?_⟩
    obtain ⟨i, hi, rfl⟩ := List.getElem_of_mem hl
    have hj : i < A.length := by rw [← htw.1]; exact hi
    obtain ⟨a, c, a', c', a'', c'', e1⟩ := htw.2 i _ _ (List.getElem?_eq_getElem hi) (List.getElem?_eq_getElem hj)
    have h1 := keyS_of (H1.out.1.bnd.2.2 A[i] (List.getElem_mem hj))
    rw [e1] at h1
    exact h1
  clear hrow hown htw hbn hnl eL
  rcases Nat.eq_zero_or_pos nl with h0 | h0
  · subst h0
    have HZ : Hid (PlQ W X K bv mk ke rm o n w1) := ⟨L, A, H1.out.1.free.mono (by omega)⟩
    clear H1 HT
    go_wp2_with fail
    go_ret
    exact ⟨rfl, HZ⟩
  · have hne : ((nl : Int) == 0) = false := by rw [beq_eq_false_iff_ne]; omega
    obtain ⟨g, hg⟩ : ∃ g, ad = some ⟨g, 0, none⟩ := by
      obtain ⟨l, hl⟩ : ∃ l, ld[0]? = some l := ⟨_, List.getElem?_eq_getElem (by rw [← ERow.len HT.out.1]; exact h0)⟩
      obtain ⟨g, e, _⟩ := nrow_cells HT.out.1 hl
      exact ⟨g, e⟩
    subst hg
    have HWi : Hid (∀ z, Calls Tryz.prog 14 #[.int .i64 y.n, .int .i64 (nl : Int)] z fun r w' => ∃ (j : Nat) (s : ByteArray), r = .returned (.int .i64 (j : Int)) ∧ w' = z ∧ (j : Int) < nl ∧ w1.cell? ⟨g, j * 7, none⟩ = some (.string s) ∧ Hid (KeyS s)) := fun z =>
      (within_any y.n z h0 (by have := HT.out.2.1; omega)).mono fun r w' ⟨j, hj, e1, e2⟩ => by
        obtain ⟨l, hl⟩ : ∃ l, ld[j]? = some l := ⟨_, List.getElem?_eq_getElem (by rw [← ERow.len HT.out.1]; exact hj)⟩
        obtain ⟨g', eg, _, d0, _⟩ := nrow_cells HT.out.1 hl
        simp only [Option.some.injEq, Addr.mk.injEq, and_true] at eg
        subst eg
        exact ⟨j, l.ct, e1, e2, by omega, d0, HT.out.2.2 l (List.mem_of_getElem? hl)⟩
    have HDe : Hid (∀ s, KeyS s → ∀ z, Below w1.heap.size w1 z → Calls Tryz.prog 15 #[.pointer (some ⟨X, 0, none⟩), .string s] z fun r w' => r = .returned (.bool true) ∧ Hid (PlQ W X K bv mk ke rm o n w')) := fun s hs z hz =>
      (finds_any (H1.out.1.below hz) (by have := HI.out.2.2.2.2; omega) hs).mono fun r w' ⟨e1, e2⟩ => ⟨e1, ⟨L, A, e2.out.free.mono (by omega)⟩⟩
    have lo := blk_lt H1.out.2.1
    have lg : g < w1.heap.size := (ERow.lt HT.out.1 (g := g) rfl).2
    clear H1 HI HT h0
    go_upto_region 21 with fail
    go_region_law (first | (go_simp; go_at_call 14; refine (HWi.out _).mono ?_; rintro _ y1 ⟨j, s, rfl, hy1, hj, hs, hm⟩; subst hy1) | (go_simp; go_at_call 15; refine (HDe.out _ hm.out _ ?_).mono ?_; (first | exact Below.refl _ _ | exact Below.drew (Below.refl _ _)); rintro _ y2 ⟨rfl, HZ⟩))
    all_goals
      go_wp2_with fail
      go_ret
      first | exact ⟨rfl, HZ⟩ | (obtain ⟨L9, A9, h9⟩ := HZ.out; exact ⟨rfl, L9, A9, h9.below (Below.refl _ _).drew⟩)
end
end Go.Proofs.YtplhdgijjckjcaaGreatDoor
