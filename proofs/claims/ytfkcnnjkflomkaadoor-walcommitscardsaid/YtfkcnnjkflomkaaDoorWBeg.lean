/-
  The law's begin: a log with nothing in it.
-/
import Derived.Test.YtfkcnnjkflomkaaDoorWOpenB
import Derived.Test.YtfkcnnjkflomkaaDoorWSizes
namespace Go.Proofs.YtfkcnnjkflomkaaDoor
open Go.RowKit Go.BigFrame

theorem ps_new : psS (headB 1 ++ recB []) 1 = some (1, [], []) := by decide +kernel
theorem len_new : (headB 1 ++ recB []).length = 30 := by decide +kernel
theorem rng_new : Rng (headB 1 ++ recB []) := rng_app (hdR 1 (by omega) (by omega)) (rng_rec (fun z hz => by cases hz))
def sgN : Sg := ⟨[], [], 0, 0, false, -1, 0, 0, 0⟩
/-- The disk of an empty log. -/
def sgB : Sg := ⟨[], headB 1 ++ recB [], 0, 30, false, -1, 1, 1, 2⟩
theorem run_new : runS sgN (fmtOps []) = (sgB, 0) := by
  unfold sgB
  obtain ⟨hd, hh⟩ : ∃ l, headB 1 ++ recB [] = l := ⟨_, rfl⟩
  have h1 : hd.length = 30 := by rw [← hh]; exact len_new
  unfold fmtOps
  rw [hh]
  simp [runS, opC, opS, cutC, cutS, appC, appS, synC, synS, sgN, Sg.goes, goesOn, Sg.wr, leftOn, oneMore, h1]
set_option maxRecDepth 100000 in
set_option maxHeartbeats 4000000 in
theorem begin_ok (w : World) (hH : Halves w) : Calls Tryd.prog 8 #[] w (BeginQ w) := by
  have hg : 1 < w.heap.size := cell_lt (hH 0 (by decide))
  have b1 : Below w.heap.size w (w.alloc (.cells #[.slice none 0 0, .int .i64 0, .slice none 0 0, .int .i64 0, .int .i64 1, .int .i64 (-1), .int .i64 0, .int .i64 0, .int .i64 0] 97)) := (Below.refl _ _).alloc (Nat.le_refl _) _
  have hD : DskS (w.alloc (.cells #[.slice none 0 0, .int .i64 0, .slice none 0 0, .int .i64 0, .int .i64 1, .int .i64 (-1), .int .i64 0, .int .i64 0, .int .i64 0] 97)) w.heap.size w.heap.size (.slice none 0 0) (.slice none 0 0) sgN := dsk_new w
  have HF : Hid (Calls Tryd.prog 25 #[.pointer (some ⟨w.heap.size, 0, none⟩), .slice none 0 0] (w.alloc (.cells #[.slice none 0 0, .int .i64 0, .slice none 0 0, .int .i64 0, .int .i64 1, .int .i64 (-1), .int .i64 0, .int .i64 0, .int .i64 0] 97)) fun e w' => ∃ u0 u1, e = .returned .nilIface ∧ DskS w' w.heap.size w.heap.size u0 u1 sgB ∧ Below w.heap.size w w') := by
    refine (lFormat (bs := []) (po := none) (m := 0) (k := 0) hD ⟨rfl, fun j hj => by omega⟩ (fun _ _ h => by omega) (fun _ => rfl) (by omega) (hH.under' b1) (fun h => by
      rcases h with h | h | h
      · omega
      · cases h
      · cases h)).mono ?_
    rintro e w' ⟨ev, u0, u1, he, hd, hst, hr⟩
    rw [run_new] at hd hr
    rcases hr with ⟨_, rfl⟩ | ⟨h0, _⟩
    · refine ⟨u0, u1, he, hd, b1.trans (hst.off.below (B := w.heap.size) (by simp) (fun k hk => ?_))⟩
      exact (hD.foot_lt hk).1
    · exact absurd rfl h0
  have HO : Hid (∀ y u0 u1, DskS y w.heap.size w.heap.size u0 u1 sgB → Below w.heap.size w y → Calls Tryd.prog 14 #[.pointer (some ⟨w.heap.size, 0, none⟩)] y (OpenQ y w.heap.size w.heap.size u0 u1 sgB 1 [])) := fun y u0 u1 hd hb => by
    have hl : sgB.x1.length = 30 := len_new
    exact lOpen_1 hd hb.size rfl ⟨by simp [sgB], by rw [hl]; exact Nat.le_refl _, by simp [sgB], by rw [hl]; omega⟩ rng_new (hH.under' hb) hdR rfl ps_new (by omega) (by omega) (by rw [hl]; rfl) (by rw [hl]; rfl)
  clear hD b1 hg
  go_enter Tryd.func8, Tryd.ntmps8
  go_wp2_with fail
  refine (New_any _).mono ?_
  rintro e w1 ⟨rfl, hw1⟩
  rw [hw1]
  clear hw1
  go_wp2_with fail
  refine HF.out.mono ?_
  rintro e w2 ⟨u0, u1, rfl, hd2, hb2⟩
  have HD2 : Hid (DskS w2 w.heap.size w.heap.size u0 u1 sgB ∧ Below w.heap.size w w2) := ⟨hd2, hb2⟩
  clear hd2 hb2 HF
  go_wp2_with fail
  refine (HO.out _ _ _ HD2.out.1 HD2.out.2).mono ?_
  rintro e w3 ⟨L, a, n, k, rfl, hl, hrow, hb, hLs⟩
  obtain ⟨hn0, _⟩ := hrow.byts'
  have hn0' : n = 0 := hn0
  subst hn0'
  have HL : Hid (Lg w3 w.heap.size w.heap.size L u0 u1 sgB false 1 1 0 0 30 ∧ Below w2.heap.size w2 w3) := ⟨hl, hb⟩
  clear hl hrow hb hn0 HO
  go_wp2_with fail
  have hLl : L < w3.heap.size := HL.out.1.lt
  have bA : Below w3.heap.size w3 ((w3.alloc (.cells #[.int .u64 1, .slice a 0 k, .slice none 0 0, .int .i64 0] 44)).alloc (.cells #[.pointer (some ⟨w.heap.size, 0, none⟩), .pointer (some ⟨L, 0, none⟩), .slice none 0 0, .int .i64 0] 34)) := ((Below.refl _ _).alloc (Nat.le_refl _) _).alloc (by simp) _
  go_ret2
  refine ⟨w3.heap.size + 1, w.heap.size, L, rfl, ⟨u0, u1, sgB, HL.out.1.below bA, rfl, rfl, ?_, fun g => ?_⟩, below_then HD2.out.2 (below_then HL.out.2 bA), two_snd _ _ _ _ _ _, by omega, ?_⟩
  · have hl : sgB.x1.length = 30 := len_new
    rw [hl]; rfl
  · have := (HL.out.1.d.foot_lt g).2; omega
  · have h1 := HD2.out.2.size; have h2 := HL.out.2.size; omega
/-- The law, whole. -/
theorem sizes_all {ao so : Option Addr} {cap sc : Nat} {xs : List Blv} {ys : List Bool} (w : World) (h : Bls w ao xs) (hn : xs.length ≤ maxLen) (hp : ∀ y ∈ xs, y.pl ≤ 140737488355328 ∧ (y.po = none → y.pc = 0)) (hs : Bos w so ys) (hsn : ys.length ≤ maxLen) (hH : Halves w) :
    Calls Tryd.prog 3 #[.slice ao xs.length cap, .slice so ys.length sc] w fun e w' => e = .returned (.bool true) ∧ Below w.heap.size w w' := sizes_law w h hn hp hs hsn hH (begin_ok w hH)
end Go.Proofs.YtfkcnnjkflomkaaDoor
