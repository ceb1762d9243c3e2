/-
  The law's begin, told in full: a log with nothing in it, and the block that names it.
-/
import Derived.Test.YtgminfbhaclbbaaDoorWBeg
namespace Go.Proofs.YtgminfbhaclbbaaDoor
open Go.RowKit Go.BigFrame

/-- What begin answers, in full. -/
def BeginR (w : World) (e : Ending) (w' : World) : Prop := ∃ r K L u0 u1, e = .returned (.tuple #[.pointer (some ⟨r, 0, none⟩), .bool true]) ∧ Lg w' w.heap.size K L u0 u1 sgB false 1 1 0 0 30 ∧ Below w.heap.size w w' ∧ (∀ q, w'.cell? ⟨r, q, none⟩ = (#[Value.pointer (some ⟨K, 0, none⟩), Value.pointer (some ⟨L, 0, none⟩), Value.slice none 0 0, Value.int .i64 0] : Array Value)[q]?) ∧ (∀ q, w'.frozen? ⟨r, q, none⟩ = false) ∧ ¬ Foot K u0 u1 r ∧ r ≠ L ∧ w.heap.size ≤ r ∧ r < w'.heap.size
set_option maxRecDepth 100000 in
set_option maxHeartbeats 4000000 in
theorem begin_full (w : World) (hH : Halves w) : Calls Tryd.prog 8 #[] w (BeginR w) := by
  have hg : 1 < w.heap.size := cell_lt (hH 0 (by decide))
  have b1 : Below w.heap.size w (w.alloc (.cells #[.slice none 0 0, .int .i64 0, .slice none 0 0, .int .i64 0, .int .i64 1, .int .i64 (-1), .int .i64 0, .int .i64 0, .int .i64 0] 97)) := (Below.refl _ _).alloc (Nat.le_refl _) _
  have hD : DskS (w.alloc (.cells #[.slice none 0 0, .int .i64 0, .slice none 0 0, .int .i64 0, .int .i64 1, .int .i64 (-1), .int .i64 0, .int .i64 0, .int .i64 0] 97)) w.heap.size w.heap.size (.slice none 0 0) (.slice none 0 0) sgN := dsk_new w
  have HF : Hid (Calls Tryd.prog 25 #[.pointer (some ⟨w.heap.size, 0, none⟩), .slice none 0 0] (w.alloc (.cells #[.slice none 0 0, .int .i64 0, .slice none 0 0, .int .i64 0, .int .i64 1, .int .i64 (-1), .int .i64 0, .int .i64 0, .int .i64 0] 97)) fun e w' => ∃ u0 u1, e = .returned .nilIface ∧ DskS w' w.heap.size w.heap.size u0 u1 sgB ∧ Below w.heap.size w w') := by
    refine (lFormat (bs := []) (po := none) (m := 0) (k := 0) hD ⟨rfl, fun j hj => by omega⟩ (fun _ _ h => by omega) (fun _ => rfl) (by omega) (hH.under' b1) (fun h => by
      rcases h with h | h | h
      · omega
      · cases h
      · cases h)).mono ?_
    rintro e w' ⟨ev, u0, u1, he, hd, hst, hr⟩
    rw [run_new] at hd hr
    rcases hr with ⟨_, rfl⟩ | ⟨h0, _⟩
    · refine ⟨u0, u1, he, hd, b1.trans (hst.off.below (B := w.heap.size) (by simp) (fun k hk => ?_))⟩
      exact (hD.foot_lt hk).1
    · exact absurd rfl h0
  have HO : Hid (∀ y u0 u1, DskS y w.heap.size w.heap.size u0 u1 sgB → Below w.heap.size w y → Calls Tryd.prog 14 #[.pointer (some ⟨w.heap.size, 0, none⟩)] y (OpenQ y w.heap.size w.heap.size u0 u1 sgB 1 [])) := fun y u0 u1 hd hb => by
    have hl : sgB.x1.length = 30 := len_new
    exact lOpen_1 hd hb.size rfl ⟨by simp [sgB], by rw [hl]; exact Nat.le_refl _, by simp [sgB], by rw [hl]; omega⟩ rng_new (hH.under' hb) hdR rfl ps_new (by omega) (by omega) (by rw [hl]; rfl) (by rw [hl]; rfl)
  clear hD b1 hg
  go_enter Tryd.func8, Tryd.ntmps8
  go_wp2_with fail
  refine (New_any _).mono ?_
  rintro e w1 ⟨rfl, hw1⟩
  rw [hw1]
  clear hw1
  go_wp2_with fail
  refine HF.out.mono ?_
  rintro e w2 ⟨u0, u1, rfl, hd2, hb2⟩
  have HD2 : Hid (DskS w2 w.heap.size w.heap.size u0 u1 sgB ∧ Below w.heap.size w w2) := ⟨hd2, hb2⟩
  clear hd2 hb2 HF
  go_wp2_with fail
  refine (HO.out _ _ _ HD2.out.1 HD2.out.2).mono ?_
  rintro e w3 ⟨L, a, n, k, rfl, hl, hrow, hb, hLs⟩
  obtain ⟨hn0, _⟩ := hrow.byts'
  have hn0' : n = 0 := hn0
  subst hn0'
  have HL : Hid (Lg w3 w.heap.size w.heap.size L u0 u1 sgB false 1 1 0 0 30 ∧ Below w2.heap.size w2 w3) := ⟨hl, hb⟩
  clear hl hrow hb hn0 HO
  go_wp2_with fail
  have hLl : L < w3.heap.size := HL.out.1.lt
  have bA : Below w3.heap.size w3 ((w3.alloc (.cells #[.int .u64 1, .slice a 0 k, .slice none 0 0, .int .i64 0] 44)).alloc (.cells #[.pointer (some ⟨w.heap.size, 0, none⟩), .pointer (some ⟨L, 0, none⟩), .slice none 0 0, .int .i64 0] 34)) := ((Below.refl _ _).alloc (Nat.le_refl _) _).alloc (by simp) _
  go_ret2
  refine ⟨w3.heap.size + 1, w.heap.size, L, u0, u1, rfl, HL.out.1.below bA, below_then HD2.out.2 (below_then HL.out.2 bA), fun q => two_snd _ _ _ _ _ _, fun q => ?_, fun g => ?_, by omega, ?_, by simp⟩
  · have := World.frozen?_alloc_new (w3.alloc (.cells #[.int .u64 1, .slice a 0 k, .slice none 0 0, .int .i64 0] 44)) #[.pointer (some ⟨w.heap.size, 0, none⟩), .pointer (some ⟨L, 0, none⟩), .slice none 0 0, .int .i64 0] 34 q
    rw [World.size_alloc] at this
    exact this
  · have := (HL.out.1.d.foot_lt g).2; omega
  · have h1 := HD2.out.2.size; have h2 := HL.out.2.size; omega
end Go.Proofs.YtgminfbhaclbbaaDoor
