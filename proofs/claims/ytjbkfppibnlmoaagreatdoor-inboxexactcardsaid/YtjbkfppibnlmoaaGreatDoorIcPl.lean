import Derived.Test.YtjbkfppibnlmoaaGreatDoorSsPl2
import Derived.Deep.RegionHeld3
import Derived.Test.YtjbkfppibnlmoaaGreatDoorIbOpen
import Derived.Test.YtjbkfppibnlmoaaGreatDoorIlLd
import Derived.Test.YtjbkfppibnlmoaaGreatDoorIcTl4
/-
  The law's plays, by the strong pair: Find of the N-th kept one.
-/
namespace Go.Proofs.YtjbkfppibnlmoaaGreatDoor
open Go.RowKit

section
variable {W w w' : World} {X K n mm : Nat} {bv mk ke rm L : Value} {o : Option (Int × Int)} {A A' : List Ent} {τ : Nat → Nat}
set_option maxRecDepth 100000 in
set_option maxHeartbeats 8000000 in
theorem plays8_s (h : SS W X K bv mk ke rm L o A A τ n mm w) (hn : n ≤ 500000) (_ : mm + 2 ≤ 80) (hE : ErrType W) (y : Opv) (hl : Lies W y.e) (hy : Byts W y.ap y.an y.ax) (ho : OpOk y) : Calls Tryz.prog 6 #[.pointer (some ⟨X, 0, none⟩), .agg #[.int .i64 8, .int .i64 y.of_, .int .i64 y.n, .string y.e.ct, .slice y.e.tp y.e.tn y.e.tc, .int .i64 y.e.nu, .int .i64 y.e.tk, .slice y.e.cp y.e.cn y.e.cc, .string y.e.cd, .slice y.e.ap y.e.an y.e.ac, .string y.ct, .string y.cd, .slice y.ap y.an y.ac]] w fun r w' => r = .returned (.bool true) ∧ Hid (PlS W X K bv mk ke rm o τ n mm w w') := by
  have bv0 : Below w.heap.size w (w.alloc (.cells #[.int .i64 8, .int .i64 y.of_, .int .i64 y.n, .string y.e.ct, .slice y.e.tp y.e.tn y.e.tc, .int .i64 y.e.nu, .int .i64 y.e.tk, .slice y.e.cp y.e.cn y.e.cc, .string y.e.cd, .slice y.e.ap y.e.an y.e.ac, .string y.ct, .string y.cd, .slice y.ap y.an y.ac] 32)) := (Below.refl _ _).alloc (Nat.le_refl _) _
  have hb0 : (w.alloc (.cells #[.int .i64 8, .int .i64 y.of_, .int .i64 y.n, .string y.e.ct, .slice y.e.tp y.e.tn y.e.tc, .int .i64 y.e.nu, .int .i64 y.e.tk, .slice y.e.cp y.e.cn y.e.cc, .string y.e.cd, .slice y.e.ap y.e.an y.e.ac, .string y.ct, .string y.cd, .slice y.ap y.an y.ac] 32)).heap[w.heap.size]? = some (.cells #[.int .i64 8, .int .i64 y.of_, .int .i64 y.n, .string y.e.ct, .slice y.e.tp y.e.tn y.e.tc, .int .i64 y.e.nu, .int .i64 y.e.tk, .slice y.e.cp y.e.cn y.e.cc, .string y.e.cd, .slice y.e.ap y.e.an y.e.ac, .string y.ct, .string y.cd, .slice y.ap y.an y.ac] 32 (0, 0)) := heap_alloc_new _ _
  obtain ⟨V0, hV0⟩ : ∃ V, w.alloc (.cells #[.int .i64 8, .int .i64 y.of_, .int .i64 y.n, .string y.e.ct, .slice y.e.tp y.e.tn y.e.tc, .int .i64 y.e.nu, .int .i64 y.e.tk, .slice y.e.cp y.e.cn y.e.cc, .string y.e.cd, .slice y.e.ap y.e.an y.e.ac, .string y.ct, .string y.cd, .slice y.ap y.an y.ac] 32) = V := ⟨_, rfl⟩
  rw [hV0] at bv0 hb0
  obtain ⟨ob, hob⟩ : ∃ b, w.heap.size = b := ⟨_, rfl⟩
  rw [hob] at hb0
  have HI : Hid (ErrType W ∧ Lies W y.e ∧ Byts W y.ap y.an y.ax ∧ OpOk y ∧ n ≤ 500000) := ⟨hE, hl, hy, ho, hn⟩
  have HV : Hid (SS W X K bv mk ke rm L o A A τ n mm V0 ∧ V0.heap[ob]? = some (.cells #[.int .i64 8, .int .i64 y.of_, .int .i64 y.n, .string y.e.ct, .slice y.e.tp y.e.tn y.e.tc, .int .i64 y.e.nu, .int .i64 y.e.tk, .slice y.e.cp y.e.cn y.e.cc, .string y.e.cd, .slice y.e.ap y.e.an y.e.ac, .string y.ct, .string y.cd, .slice y.ap y.an y.ac] 32 (0, 0))) := ⟨h.below bv0, hb0⟩
  have HB0 : Hid (Below w.heap.size w V0 ∧ (∀ q, w.heap.size ≤ q → τ q = 0) ∧ W.heap.size ≤ w.heap.size) := ⟨bv0, h.new, h.bel.size⟩
  have hop := xr_open HV.out.1.sx
  clear h hE hl hy ho hn bv0 hb0
  go_enter Tryz.func6, Tryz.ntmps6
  go_wp2_with fail
  clear hV0 hob
  refine hop.mono ?_
  rintro _ w1 ⟨a, c, rfl, t1, b1⟩
  have H1 : Hid (SS W X K bv mk ke rm L o A A τ n mm w1 ∧ w1.heap[ob]? = some (.cells #[.int .i64 8, .int .i64 y.of_, .int .i64 y.n, .string y.e.ct, .slice y.e.tp y.e.tn y.e.tc, .int .i64 y.e.nu, .int .i64 y.e.tk, .slice y.e.cp y.e.cn y.e.cc, .string y.e.cd, .slice y.e.ap y.e.an y.e.ac, .string y.ct, .string y.cd, .slice y.ap y.an y.ac] 32 (0, 0)) ∧ TRow w1 V0.heap.size (.slice a (opS A).length c) (opS A)) := ⟨HV.out.1.below b1, blk_below HV.out.2 b1, t1⟩
  have co := hcell H1.out.2.1
  have HB1 : Hid (Below w.heap.size w w1) := below_then HB0.out.1 b1
  clear hop t1 b1 HV
  obtain ⟨ad, cd, ld, eL, hrow, hown, htw, hbn⟩ := H1.out.1.sx.docrow
  obtain ⟨nl, hnl⟩ : ∃ k, A.length = k := ⟨_, rfl⟩
  rw [hnl] at eL hrow
  have x4 := H1.out.1.cells.2.2.1
  have lX := H1.out.1.cells.2.2.2.2
  rw [eL] at x4
  have HT : Hid (NRow w1 W.heap.size (.slice ad nl cd) ld ∧ nl ≤ 97 ∧ (∀ s ∈ ld, KeyS s.ct)) := by
    refine ⟨hrow, by rw [← hnl]; exact H1.out.1.sx.bnd.1, fun l hl => ?_⟩
    obtain ⟨i, hi, rfl⟩ := List.getElem_of_mem hl
    have hj : i < A.length := by rw [← htw.1]; exact hi
    obtain ⟨a, c, a', c', a'', c'', e1⟩ := htw.2 i _ _ (List.getElem?_eq_getElem hi) (List.getElem?_eq_getElem hj)
    have h1 := keyS_of (H1.out.1.sx.bnd.2.2 A[i] (List.getElem_mem hj))
    rw [e1] at h1
    exact h1
  clear hrow hown htw hbn hnl eL
  rcases Nat.eq_zero_or_pos nl with h0 | h0
  · subst h0
    have HZ : Hid (PlS W X K bv mk ke rm o τ n mm w w1) := ⟨L, A, τ, H1.out.1.mono (by omega) (by omega), XF.of_below HB1.out⟩
    clear H1 HT
    go_wp2_with fail
    go_ret
    exact ⟨rfl, HZ⟩
  · have hne : ((nl : Int) == 0) = false := by rw [beq_eq_false_iff_ne]; omega
    obtain ⟨g, hg⟩ : ∃ g, ad = some ⟨g, 0, none⟩ := by
      obtain ⟨l, hl⟩ : ∃ l, ld[0]? = some l := ⟨_, List.getElem?_eq_getElem (by rw [← ERow.len HT.out.1]; exact h0)⟩
      obtain ⟨g, e, _⟩ := nrow_cells HT.out.1 hl
      exact ⟨g, e⟩
    subst hg
    have HWi : Hid (∀ z, Calls Tryz.prog 24 #[.int .i64 y.n, .int .i64 (nl : Int)] z fun r w' => ∃ (j : Nat) (s : ByteArray), r = .returned (.int .i64 (j : Int)) ∧ w' = z ∧ (j : Int) < nl ∧ w1.cell? ⟨g, j * 7, none⟩ = some (.string s) ∧ Hid (KeyS s)) := fun z =>
      (within_any y.n z h0 (by have := HT.out.2.1; omega)).mono fun r w' ⟨j, hj, e1, e2⟩ => by
        obtain ⟨l, hl⟩ : ∃ l, ld[j]? = some l := ⟨_, List.getElem?_eq_getElem (by rw [← ERow.len HT.out.1]; exact hj)⟩
        obtain ⟨g', eg, _, d0, _⟩ := nrow_cells HT.out.1 hl
        simp only [Option.some.injEq, Addr.mk.injEq, and_true] at eg
        subst eg
        exact ⟨j, l.ct, e1, e2, by omega, d0, HT.out.2.2 l (List.mem_of_getElem? hl)⟩
    have HDe : Hid (∀ s, KeyS s → ∀ z, Below w1.heap.size w1 z → Calls Tryz.prog 25 #[.pointer (some ⟨X, 0, none⟩), .string s] z fun r w' => r = .returned (.bool true) ∧ Hid (PlS W X K bv mk ke rm o τ n mm w w')) := fun s hs z hz =>
      (finds_s (H1.out.1.below hz) (by have := HI.out.2.2.2.2; omega) hs).mono fun r w' ⟨e1, e2⟩ => ⟨e1, by
        obtain ⟨τ', h2, x2⟩ := e2.out
        exact ⟨L, A, τ', h2.mono (by omega) (by omega), XF.from (below_then HB1.out hz) (XF.of_tk x2)⟩⟩
    have lo := blk_lt H1.out.2.1
    have lg : g < w1.heap.size := (ERow.lt HT.out.1 (g := g) rfl).2
    clear H1 HI HT h0
    go_upto_region 21 with fail
    go_region_law (first | (go_simp; go_at_call 24; refine (HWi.out _).mono ?_; rintro _ y1 ⟨j, s, rfl, hy1, hj, hs, hm⟩; subst hy1) | (go_simp; go_at_call 25; refine (HDe.out _ hm.out _ ?_).mono ?_; (first | exact Below.refl _ _ | exact Below.drew (Below.refl _ _)); rintro _ y2 ⟨rfl, HZ⟩))
    all_goals
      go_wp2_with fail
      go_ret
      first | exact ⟨rfl, HZ⟩ | (obtain ⟨L9, A9, t9, h9, x9⟩ := HZ.out; exact ⟨rfl, L9, A9, t9, h9.below (Below.refl _ _).drew, x9.below (Below.refl _ _).drew⟩)
end
end Go.Proofs.YtjbkfppibnlmoaaGreatDoor

/-
  Arguments opened: lists of entries.
-/
namespace Go.Proofs.YtjbkfppibnlmoaaGreatDoor.Lg
open Go.ChangeShapes Go.WideShapes Go.ChangeAt Go.RowKit Go.Deep

theorem bytesEnt : Tryz.prog.bytesOf 30 = 120 := by kernel_rfl
section
variable {H : Type} {enc : TypeId × Value → H} {W : World} {base : Nat} {spare : Nat → Bool} {held : Bool}
set_option maxRecDepth 100000 in
set_option maxHeartbeats 1000000 in
theorem open_ents {n : Nat} {cs : List Value} {x : DataW H × List MemPlace} (h : DataW.trod enc Tryz.prog W base spare held n 22 cs = some x) :
    ∃ ao cap es, cs = [.slice ao es.length cap] ∧ LsAt W ao es.length es ∧ ((∀ n ∈ x.1.weights Tryz.prog 22, n ≤ reachBytes) → es.length ≤ 1200000000000 ∧ ∀ e ∈ es, EOk e) := by
  rcases open_slice Tryz.underlying22 h with ⟨rfl, _⟩ | ⟨a, len, cap, m, n', D, Pl, rfl, _, hl, hm, hmm, hxe, hx⟩
  · exact ⟨none, 0, [], rfl, ⟨rfl, fun k x hk => (by simp at hk)⟩, fun _ => ⟨by decide, fun y hy => (by cases hy)⟩⟩
  · have hlm : len ≤ m := by rw [hmm]; split <;> omega
    have key : ∀ k, k < len → ∃ y : Ent, (∃ b off, a = ⟨b, off, none⟩ ∧ b < W.heap.size ∧ (∀ q, q < 7 → W.cell? ⟨b, off + k * 7 + q, none⟩ = (encE y)[q]?) ∧ Lies W y) ∧ ((∀ n ∈ (D k).weights Tryz.prog 30, n ≤ reachBytes) → EOk y) := by
      have hsp : 0 < len → a.spot = none := fun h0 => by
        obtain ⟨cs', h1, _⟩ := hx 0 (by omega)
        rw [Nat.zero_mul] at h1
        obtain ⟨b, o, e, _⟩ := cells_at h1 (by rw [cellsEnt]; decide)
        have : a.add 0 = a := rfl
        rw [this] at e; rw [e]
      intro k hk
      obtain ⟨b, off, sp⟩ := a
      obtain rfl : sp = none := hsp (by omega)
      obtain ⟨cs', h1, h2⟩ := hx k (by omega)
      rw [cellsEnt] at h1
      obtain ⟨b', o', e, hc⟩ := cells_at h1 (by decide)
      rw [Addr.add_lit] at e
      obtain ⟨rfl, rfl⟩ : b = b' ∧ off + k * 7 = o' := by simpa using e
      obtain ⟨y, hy, hL, hk, hp⟩ := open_entry h2
      subst hy
      have hq : ∀ q, q < 7 → W.cell? ⟨b, off + k * 7 + q, none⟩ = (encE y)[q]? := fun q hq => by
        obtain ⟨v, hv⟩ : ∃ v, (encE y)[q]? = some v := ⟨_, List.getElem?_eq_getElem (by rw [encE_len]; exact hq)⟩
        rw [hc q v hv, hv]
      exact ⟨y, ⟨b, off, rfl, cell_lt ((hq 0 (by decide)).trans rfl), hq, hL⟩, fun hw => ⟨hk, hp hw⟩⟩
    haveI : Inhabited Ent := ⟨zE⟩
    obtain ⟨Y, hY⟩ := choose_lt (α := Ent) (p := fun k y => (∃ b off, a = ⟨b, off, none⟩ ∧ b < W.heap.size ∧ (∀ q, q < 7 → W.cell? ⟨b, off + k * 7 + q, none⟩ = (encE y)[q]?) ∧ Lies W y) ∧ ((∀ n ∈ (D k).weights Tryz.prog 30, n ≤ reachBytes) → EOk y)) key
    refine ⟨some a, cap, (List.range len).map Y, by simp, ⟨rfl, fun k x hk => ?_⟩, fun hw => ⟨?_, fun y hy => ?_⟩⟩
    · simp only [List.getElem?_map, Option.map_eq_some_iff] at hk
      obtain ⟨i, hi, rfl⟩ := hk
      obtain ⟨hi1, hi2⟩ := List.getElem?_eq_some_iff.1 hi
      simp at hi1 hi2
      subst hi2
      obtain ⟨⟨b, off, e, hb, hc, hL⟩, _⟩ := hY k hi1
      exact ⟨b, off, by rw [e], hb, hc, hL⟩
    · have hw' := hw
      rw [hxe] at hw'
      simp only [DataW.weights, Tryz.underlying22] at hw'
      have h0 := hw' _ List.mem_cons_self
      rw [bytesEnt] at h0
      simp only [List.length_map, List.length_range] at h0 ⊢
      have := reachBytes_90
      omega
    · obtain ⟨i, hi, rfl⟩ := List.mem_map.1 hy
      have hy2 := (hY i (List.mem_range.1 hi)).2
      refine hy2 fun n hn => hw n ?_
      rw [hxe]
      simp only [DataW.weights, Tryz.underlying22]
      exact List.mem_cons_of_mem _ (List.mem_append_left _ (weights_mem_all (List.mem_map_of_mem hi) n hn))
end
end Go.Proofs.YtjbkfppibnlmoaaGreatDoor.Lg

/-
  The law's plays: Accept, Decide, Find, what tells.
-/
namespace Go.Proofs.YtjbkfppibnlmoaaGreatDoor
open Go.RowKit

section
variable {W w w' : World} {X K n C D E : Nat} {bv mk ke rm L : Value} {o : Option (Int × Int)} {A A' : List Ent}
/-- What a play leaves. -/
def PlQ (W : World) (X K : Nat) (bv mk ke rm : Value) (o : Option (Int × Int)) (n : Nat) (w' : World) : Prop := ∃ L' A', LS W X K bv mk ke rm L' 0 0 0 o A' A' (n + 1000) w'
set_option maxRecDepth 100000 in
set_option maxHeartbeats 8000000 in
theorem plays0 (h : LS W X K bv mk ke rm L C D E o A A n w) (hn : n ≤ 500000) (hE : ErrType W) (y : Opv) (hl : Lies W y.e) (hy : Byts W y.ap y.an y.ax) (ho : OpOk y) : Calls Tryz.prog 6 #[.pointer (some ⟨X, 0, none⟩), .agg #[.int .i64 0, .int .i64 y.of_, .int .i64 y.n, .string y.e.ct, .slice y.e.tp y.e.tn y.e.tc, .int .i64 y.e.nu, .int .i64 y.e.tk, .slice y.e.cp y.e.cn y.e.cc, .string y.e.cd, .slice y.e.ap y.e.an y.e.ac, .string y.ct, .string y.cd, .slice y.ap y.an y.ac]] w fun r w' => r = .returned (.bool true) ∧ Hid (PlQ W X K bv mk ke rm o n w') := by
  have bv0 : Below w.heap.size w (w.alloc (.cells #[.int .i64 0, .int .i64 y.of_, .int .i64 y.n, .string y.e.ct, .slice y.e.tp y.e.tn y.e.tc, .int .i64 y.e.nu, .int .i64 y.e.tk, .slice y.e.cp y.e.cn y.e.cc, .string y.e.cd, .slice y.e.ap y.e.an y.e.ac, .string y.ct, .string y.cd, .slice y.ap y.an y.ac] 32)) := (Below.refl _ _).alloc (Nat.le_refl _) _
  have hb0 : (w.alloc (.cells #[.int .i64 0, .int .i64 y.of_, .int .i64 y.n, .string y.e.ct, .slice y.e.tp y.e.tn y.e.tc, .int .i64 y.e.nu, .int .i64 y.e.tk, .slice y.e.cp y.e.cn y.e.cc, .string y.e.cd, .slice y.e.ap y.e.an y.e.ac, .string y.ct, .string y.cd, .slice y.ap y.an y.ac] 32)).heap[w.heap.size]? = some (.cells #[.int .i64 0, .int .i64 y.of_, .int .i64 y.n, .string y.e.ct, .slice y.e.tp y.e.tn y.e.tc, .int .i64 y.e.nu, .int .i64 y.e.tk, .slice y.e.cp y.e.cn y.e.cc, .string y.e.cd, .slice y.e.ap y.e.an y.e.ac, .string y.ct, .string y.cd, .slice y.ap y.an y.ac] 32 (0, 0)) := heap_alloc_new _ _
  obtain ⟨V0, hV0⟩ : ∃ V, w.alloc (.cells #[.int .i64 0, .int .i64 y.of_, .int .i64 y.n, .string y.e.ct, .slice y.e.tp y.e.tn y.e.tc, .int .i64 y.e.nu, .int .i64 y.e.tk, .slice y.e.cp y.e.cn y.e.cc, .string y.e.cd, .slice y.e.ap y.e.an y.e.ac, .string y.ct, .string y.cd, .slice y.ap y.an y.ac] 32) = V := ⟨_, rfl⟩
  rw [hV0] at bv0 hb0
  obtain ⟨ob, hob⟩ : ∃ b, w.heap.size = b := ⟨_, rfl⟩
  rw [hob] at hb0
  have HI : Hid (ErrType W ∧ Lies W y.e ∧ Byts W y.ap y.an y.ax ∧ OpOk y ∧ n ≤ 500000) := ⟨hE, hl, hy, ho, hn⟩
  have HV : Hid (LS W X K bv mk ke rm L C D E o A A n V0 ∧ V0.heap[ob]? = some (.cells #[.int .i64 0, .int .i64 y.of_, .int .i64 y.n, .string y.e.ct, .slice y.e.tp y.e.tn y.e.tc, .int .i64 y.e.nu, .int .i64 y.e.tk, .slice y.e.cp y.e.cn y.e.cc, .string y.e.cd, .slice y.e.ap y.e.an y.e.ac, .string y.ct, .string y.cd, .slice y.ap y.an y.ac] 32 (0, 0))) := ⟨h.below bv0, hb0⟩
  have hop := r_open HV.out.1
  clear h hE hl hy ho hn bv0 hb0
  go_enter Tryz.func6, Tryz.ntmps6
  go_wp2_with fail
  clear hV0 hob
  refine hop.mono ?_
  rintro _ w1 ⟨a, c, rfl, t1, b1⟩
  have H1 : Hid (LS W X K bv mk ke rm L C D E o A A n w1 ∧ w1.heap[ob]? = some (.cells #[.int .i64 0, .int .i64 y.of_, .int .i64 y.n, .string y.e.ct, .slice y.e.tp y.e.tn y.e.tc, .int .i64 y.e.nu, .int .i64 y.e.tk, .slice y.e.cp y.e.cn y.e.cc, .string y.e.cd, .slice y.e.ap y.e.an y.e.ac, .string y.ct, .string y.cd, .slice y.ap y.an y.ac] 32 (0, 0)) ∧ TRow w1 V0.heap.size (.slice a (opS A).length c) (opS A)) := ⟨HV.out.1.below b1, blk_below HV.out.2 b1, t1⟩
  have co := hcell H1.out.2.1
  clear hop t1 b1 HV
  have hac := accepts_any H1.out.1 HI.out.1 y.e HI.out.2.1 HI.out.2.2.2.1.k1 HI.out.2.2.2.1.n1 HI.out.2.2.2.1.n2 HI.out.2.2.2.1.n3
  go_wp2_with fail
  refine hac.mono ?_
  rintro _ w2 ⟨rfl, H2⟩
  have HZ : Hid (PlQ W X K bv mk ke rm o n w2) := by
    obtain ⟨L', h2⟩ := H2.out
    exact ⟨L', _, h2.mono (by omega)⟩
  clear hac co H2
  go_wp2_with fail
  go_ret
  exact ⟨rfl, HZ⟩
set_option maxRecDepth 100000 in
set_option maxHeartbeats 8000000 in
theorem plays1 (h : LS W X K bv mk ke rm L C D E o A A n w) (hn : n ≤ 500000) (hE : ErrType W) (y : Opv) (hl : Lies W y.e) (hy : Byts W y.ap y.an y.ax) (ho : OpOk y) : Calls Tryz.prog 6 #[.pointer (some ⟨X, 0, none⟩), .agg #[.int .i64 1, .int .i64 y.of_, .int .i64 y.n, .string y.e.ct, .slice y.e.tp y.e.tn y.e.tc, .int .i64 y.e.nu, .int .i64 y.e.tk, .slice y.e.cp y.e.cn y.e.cc, .string y.e.cd, .slice y.e.ap y.e.an y.e.ac, .string y.ct, .string y.cd, .slice y.ap y.an y.ac]] w fun r w' => r = .returned (.bool true) ∧ Hid (PlQ W X K bv mk ke rm o n w') := by
  have bv0 : Below w.heap.size w (w.alloc (.cells #[.int .i64 1, .int .i64 y.of_, .int .i64 y.n, .string y.e.ct, .slice y.e.tp y.e.tn y.e.tc, .int .i64 y.e.nu, .int .i64 y.e.tk, .slice y.e.cp y.e.cn y.e.cc, .string y.e.cd, .slice y.e.ap y.e.an y.e.ac, .string y.ct, .string y.cd, .slice y.ap y.an y.ac] 32)) := (Below.refl _ _).alloc (Nat.le_refl _) _
  have hb0 : (w.alloc (.cells #[.int .i64 1, .int .i64 y.of_, .int .i64 y.n, .string y.e.ct, .slice y.e.tp y.e.tn y.e.tc, .int .i64 y.e.nu, .int .i64 y.e.tk, .slice y.e.cp y.e.cn y.e.cc, .string y.e.cd, .slice y.e.ap y.e.an y.e.ac, .string y.ct, .string y.cd, .slice y.ap y.an y.ac] 32)).heap[w.heap.size]? = some (.cells #[.int .i64 1, .int .i64 y.of_, .int .i64 y.n, .string y.e.ct, .slice y.e.tp y.e.tn y.e.tc, .int .i64 y.e.nu, .int .i64 y.e.tk, .slice y.e.cp y.e.cn y.e.cc, .string y.e.cd, .slice y.e.ap y.e.an y.e.ac, .string y.ct, .string y.cd, .slice y.ap y.an y.ac] 32 (0, 0)) := heap_alloc_new _ _
  obtain ⟨V0, hV0⟩ : ∃ V, w.alloc (.cells #[.int .i64 1, .int .i64 y.of_, .int .i64 y.n, .string y.e.ct, .slice y.e.tp y.e.tn y.e.tc, .int .i64 y.e.nu, .int .i64 y.e.tk, .slice y.e.cp y.e.cn y.e.cc, .string y.e.cd, .slice y.e.ap y.e.an y.e.ac, .string y.ct, .string y.cd, .slice y.ap y.an y.ac] 32) = V := ⟨_, rfl⟩
  rw [hV0] at bv0 hb0
  obtain ⟨ob, hob⟩ : ∃ b, w.heap.size = b := ⟨_, rfl⟩
  rw [hob] at hb0
  have HI : Hid (ErrType W ∧ Lies W y.e ∧ Byts W y.ap y.an y.ax ∧ OpOk y ∧ n ≤ 500000) := ⟨hE, hl, hy, ho, hn⟩
  have HV : Hid (LS W X K bv mk ke rm L C D E o A A n V0 ∧ V0.heap[ob]? = some (.cells #[.int .i64 1, .int .i64 y.of_, .int .i64 y.n, .string y.e.ct, .slice y.e.tp y.e.tn y.e.tc, .int .i64 y.e.nu, .int .i64 y.e.tk, .slice y.e.cp y.e.cn y.e.cc, .string y.e.cd, .slice y.e.ap y.e.an y.e.ac, .string y.ct, .string y.cd, .slice y.ap y.an y.ac] 32 (0, 0))) := ⟨h.below bv0, hb0⟩
  have hop := r_open HV.out.1
  clear h hE hl hy ho hn bv0 hb0
  go_enter Tryz.func6, Tryz.ntmps6
  go_wp2_with fail
  clear hV0 hob
  refine hop.mono ?_
  rintro _ w1 ⟨a, c, rfl, t1, b1⟩
  have H1 : Hid (LS W X K bv mk ke rm L C D E o A A n w1 ∧ w1.heap[ob]? = some (.cells #[.int .i64 1, .int .i64 y.of_, .int .i64 y.n, .string y.e.ct, .slice y.e.tp y.e.tn y.e.tc, .int .i64 y.e.nu, .int .i64 y.e.tk, .slice y.e.cp y.e.cn y.e.cc, .string y.e.cd, .slice y.e.ap y.e.an y.e.ac, .string y.ct, .string y.cd, .slice y.ap y.an y.ac] 32 (0, 0)) ∧ TRow w1 V0.heap.size (.slice a (opS A).length c) (opS A)) := ⟨HV.out.1.below b1, blk_below HV.out.2 b1, t1⟩
  have co := hcell H1.out.2.1
  clear hop t1 b1 HV
  have hac := decides_any (cd := y.cd) (co := y.ac) H1.out.1 (by have := HI.out.2.2.2.2; omega) HI.out.1 HI.out.2.2.2.1.k2 HI.out.2.2.1 HI.out.2.2.2.1.n4
  go_wp2_with fail
  refine hac.mono ?_
  rintro _ w2 ⟨rfl, H2⟩
  have HZ : Hid (PlQ W X K bv mk ke rm o n w2) := by
    obtain ⟨L', h2⟩ := H2.out
    exact ⟨L', _, h2.mono (by omega)⟩
  clear hac co H2
  go_wp2_with fail
  go_ret
  exact ⟨rfl, HZ⟩
set_option maxRecDepth 100000 in
set_option maxHeartbeats 8000000 in
theorem plays3 (h : LS W X K bv mk ke rm L C D E o A A n w) (hn : n ≤ 500000) (hE : ErrType W) (y : Opv) (hl : Lies W y.e) (hy : Byts W y.ap y.an y.ax) (ho : OpOk y) : Calls Tryz.prog 6 #[.pointer (some ⟨X, 0, none⟩), .agg #[.int .i64 3, .int .i64 y.of_, .int .i64 y.n, .string y.e.ct, .slice y.e.tp y.e.tn y.e.tc, .int .i64 y.e.nu, .int .i64 y.e.tk, .slice y.e.cp y.e.cn y.e.cc, .string y.e.cd, .slice y.e.ap y.e.an y.e.ac, .string y.ct, .string y.cd, .slice y.ap y.an y.ac]] w fun r w' => r = .returned (.bool true) ∧ Hid (PlQ W X K bv mk ke rm o n w') := by
  have bv0 : Below w.heap.size w (w.alloc (.cells #[.int .i64 3, .int .i64 y.of_, .int .i64 y.n, .string y.e.ct, .slice y.e.tp y.e.tn y.e.tc, .int .i64 y.e.nu, .int .i64 y.e.tk, .slice y.e.cp y.e.cn y.e.cc, .string y.e.cd, .slice y.e.ap y.e.an y.e.ac, .string y.ct, .string y.cd, .slice y.ap y.an y.ac] 32)) := (Below.refl _ _).alloc (Nat.le_refl _) _
  have hb0 : (w.alloc (.cells #[.int .i64 3, .int .i64 y.of_, .int .i64 y.n, .string y.e.ct, .slice y.e.tp y.e.tn y.e.tc, .int .i64 y.e.nu, .int .i64 y.e.tk, .slice y.e.cp y.e.cn y.e.cc, .string y.e.cd, .slice y.e.ap y.e.an y.e.ac, .string y.ct, .string y.cd, .slice y.ap y.an y.ac] 32)).heap[w.heap.size]? = some (.cells #[.int .i64 3, .int .i64 y.of_, .int .i64 y.n, .string y.e.ct, .slice y.e.tp y.e.tn y.e.tc, .int .i64 y.e.nu, .int .i64 y.e.tk, .slice y.e.cp y.e.cn y.e.cc, .string y.e.cd, .slice y.e.ap y.e.an y.e.ac, .string y.ct, .string y.cd, .slice y.ap y.an y.ac] 32 (0, 0)) := heap_alloc_new _ _
  obtain ⟨V0, hV0⟩ : ∃ V, w.alloc (.cells #[.int .i64 3, .int .i64 y.of_, .int .i64 y.n, .string y.e.ct, .slice y.e.tp y.e.tn y.e.tc, .int .i64 y.e.nu, .int .i64 y.e.tk, .slice y.e.cp y.e.cn y.e.cc, .string y.e.cd, .slice y.e.ap y.e.an y.e.ac, .string y.ct, .string y.cd, .slice y.ap y.an y.ac] 32) = V := ⟨_, rfl⟩
  rw [hV0] at bv0 hb0
  obtain ⟨ob, hob⟩ : ∃ b, w.heap.size = b := ⟨_, rfl⟩
  rw [hob] at hb0
  have HI : Hid (ErrType W ∧ Lies W y.e ∧ Byts W y.ap y.an y.ax ∧ OpOk y ∧ n ≤ 500000) := ⟨hE, hl, hy, ho, hn⟩
  have HV : Hid (LS W X K bv mk ke rm L C D E o A A n V0 ∧ V0.heap[ob]? = some (.cells #[.int .i64 3, .int .i64 y.of_, .int .i64 y.n, .string y.e.ct, .slice y.e.tp y.e.tn y.e.tc, .int .i64 y.e.nu, .int .i64 y.e.tk, .slice y.e.cp y.e.cn y.e.cc, .string y.e.cd, .slice y.e.ap y.e.an y.e.ac, .string y.ct, .string y.cd, .slice y.ap y.an y.ac] 32 (0, 0))) := ⟨h.below bv0, hb0⟩
  have hop := r_open HV.out.1
  clear h hE hl hy ho hn bv0 hb0
  go_enter Tryz.func6, Tryz.ntmps6
  go_wp2_with fail
  clear hV0 hob
  refine hop.mono ?_
  rintro _ w1 ⟨a, c, rfl, t1, b1⟩
  have H1 : Hid (LS W X K bv mk ke rm L C D E o A A n w1 ∧ w1.heap[ob]? = some (.cells #[.int .i64 3, .int .i64 y.of_, .int .i64 y.n, .string y.e.ct, .slice y.e.tp y.e.tn y.e.tc, .int .i64 y.e.nu, .int .i64 y.e.tk, .slice y.e.cp y.e.cn y.e.cc, .string y.e.cd, .slice y.e.ap y.e.an y.e.ac, .string y.ct, .string y.cd, .slice y.ap y.an y.ac] 32 (0, 0)) ∧ TRow w1 V0.heap.size (.slice a (opS A).length c) (opS A)) := ⟨HV.out.1.below b1, blk_below HV.out.2 b1, t1⟩
  have co := hcell H1.out.2.1
  clear hop t1 b1 HV
  have hac := finds_any H1.out.1 (by have := HI.out.2.2.2.2; omega) HI.out.2.2.2.1.k2
  go_wp2_with fail
  refine hac.mono ?_
  rintro _ w2 ⟨rfl, H2⟩
  have HZ : Hid (PlQ W X K bv mk ke rm o n w2) := ⟨L, A, H2.out.free.mono (by omega)⟩
  clear hac co H2
  go_wp2_with fail
  go_ret
  exact ⟨rfl, HZ⟩
set_option maxRecDepth 100000 in
set_option maxHeartbeats 8000000 in
theorem playsT (h : LS W X K bv mk ke rm L C D E o A A n w) (hn : n ≤ 500000) (hE : ErrType W) (y : Opv) (hl : Lies W y.e) (hy : Byts W y.ap y.an y.ax) (ho : OpOk y) (k0 : (y.kd == 0) = false) (k9 : (y.kd == 9) = false) (k1 : (y.kd == 1) = false) (k2 : (y.kd == 2) = false) (k3 : (y.kd == 3) = false) (k8 : (y.kd == 8) = false) : Calls Tryz.prog 6 #[.pointer (some ⟨X, 0, none⟩), .agg #[.int .i64 y.kd, .int .i64 y.of_, .int .i64 y.n, .string y.e.ct, .slice y.e.tp y.e.tn y.e.tc, .int .i64 y.e.nu, .int .i64 y.e.tk, .slice y.e.cp y.e.cn y.e.cc, .string y.e.cd, .slice y.e.ap y.e.an y.e.ac, .string y.ct, .string y.cd, .slice y.ap y.an y.ac]] w fun r w' => r = .returned (.bool true) ∧ Hid (PlQ W X K bv mk ke rm o n w') := by
  have bv0 : Below w.heap.size w (w.alloc (.cells #[.int .i64 y.kd, .int .i64 y.of_, .int .i64 y.n, .string y.e.ct, .slice y.e.tp y.e.tn y.e.tc, .int .i64 y.e.nu, .int .i64 y.e.tk, .slice y.e.cp y.e.cn y.e.cc, .string y.e.cd, .slice y.e.ap y.e.an y.e.ac, .string y.ct, .string y.cd, .slice y.ap y.an y.ac] 32)) := (Below.refl _ _).alloc (Nat.le_refl _) _
  have hb0 : (w.alloc (.cells #[.int .i64 y.kd, .int .i64 y.of_, .int .i64 y.n, .string y.e.ct, .slice y.e.tp y.e.tn y.e.tc, .int .i64 y.e.nu, .int .i64 y.e.tk, .slice y.e.cp y.e.cn y.e.cc, .string y.e.cd, .slice y.e.ap y.e.an y.e.ac, .string y.ct, .string y.cd, .slice y.ap y.an y.ac] 32)).heap[w.heap.size]? = some (.cells #[.int .i64 y.kd, .int .i64 y.of_, .int .i64 y.n, .string y.e.ct, .slice y.e.tp y.e.tn y.e.tc, .int .i64 y.e.nu, .int .i64 y.e.tk, .slice y.e.cp y.e.cn y.e.cc, .string y.e.cd, .slice y.e.ap y.e.an y.e.ac, .string y.ct, .string y.cd, .slice y.ap y.an y.ac] 32 (0, 0)) := heap_alloc_new _ _
  obtain ⟨V0, hV0⟩ : ∃ V, w.alloc (.cells #[.int .i64 y.kd, .int .i64 y.of_, .int .i64 y.n, .string y.e.ct, .slice y.e.tp y.e.tn y.e.tc, .int .i64 y.e.nu, .int .i64 y.e.tk, .slice y.e.cp y.e.cn y.e.cc, .string y.e.cd, .slice y.e.ap y.e.an y.e.ac, .string y.ct, .string y.cd, .slice y.ap y.an y.ac] 32) = V := ⟨_, rfl⟩
  rw [hV0] at bv0 hb0
  obtain ⟨ob, hob⟩ : ∃ b, w.heap.size = b := ⟨_, rfl⟩
  rw [hob] at hb0
  have HI : Hid (ErrType W ∧ Lies W y.e ∧ Byts W y.ap y.an y.ax ∧ OpOk y ∧ n ≤ 500000) := ⟨hE, hl, hy, ho, hn⟩
  have HV : Hid (LS W X K bv mk ke rm L C D E o A A n V0 ∧ V0.heap[ob]? = some (.cells #[.int .i64 y.kd, .int .i64 y.of_, .int .i64 y.n, .string y.e.ct, .slice y.e.tp y.e.tn y.e.tc, .int .i64 y.e.nu, .int .i64 y.e.tk, .slice y.e.cp y.e.cn y.e.cc, .string y.e.cd, .slice y.e.ap y.e.an y.e.ac, .string y.ct, .string y.cd, .slice y.ap y.an y.ac] 32 (0, 0))) := ⟨h.below bv0, hb0⟩
  have hop := r_open HV.out.1
  clear h hE hl hy ho hn bv0 hb0
  go_enter Tryz.func6, Tryz.ntmps6
  go_wp2_with fail
  clear hV0 hob
  refine hop.mono ?_
  rintro _ w1 ⟨a, c, rfl, t1, b1⟩
  have H1 : Hid (LS W X K bv mk ke rm L C D E o A A n w1 ∧ w1.heap[ob]? = some (.cells #[.int .i64 y.kd, .int .i64 y.of_, .int .i64 y.n, .string y.e.ct, .slice y.e.tp y.e.tn y.e.tc, .int .i64 y.e.nu, .int .i64 y.e.tk, .slice y.e.cp y.e.cn y.e.cc, .string y.e.cd, .slice y.e.ap y.e.an y.e.ac, .string y.ct, .string y.cd, .slice y.ap y.an y.ac] 32 (0, 0)) ∧ TRow w1 V0.heap.size (.slice a (opS A).length c) (opS A)) := ⟨HV.out.1.below b1, blk_below HV.out.2 b1, t1⟩
  have co := hcell H1.out.2.1
  clear hop t1 b1 HV
  have hac := tells_any H1.out.1 (by have := HI.out.2.2.2.2; omega) y.kd H1.out.2.2
  go_wp2_with fail
  refine hac.mono ?_
  rintro _ w2 ⟨rfl, H2⟩
  have HZ : Hid (PlQ W X K bv mk ke rm o n w2) := ⟨L, A, H2.out.free⟩
  clear hac co H2
  go_wp2_with fail
  go_ret
  exact ⟨rfl, HZ⟩
end
end Go.Proofs.YtjbkfppibnlmoaaGreatDoor
