/-
  timers: meet.
-/
import Derived.Test.YtdglnobapnohmaaDoorWhPick
namespace Go.Proofs.YtdglnobapnohmaaDoor
open Go.RowKit

section
variable {w : World} {B T M now n : Nat} {v : Nat → Value} {L : Nat → List Tm} {f : Int → Option (Nat × Nat)}
/-- While the clock's way is gone: p: the places that it has met. -/
structure MtI (w : World) (B T M now : Nat) (v : Nat → Value) (L : Nat → List Tm) (f : Int → Option (Nat × Nat)) (n : Nat) (p : Nat → Bool) (lv : Value) (wx : World) : Prop where
  t : Tms wx B T M now (clrV p v) (clrL p L) f n
  r : ∃ acc, TRow wx B lv acc ∧ acc.Perm (pick p L)
  o : Off (fun q => q = T) w wx
  e : ∀ q, lv.ownBlock = some q → w.heap.size ≤ q
theorem mt_step (hB : B ≤ w.heap.size) (hold : ∀ q, Ft T M v q → q < w.heap.size) (hb : (pick (fun _ => true) L).length ≤ 1000000) {p p' : Nat → Bool} {a0 : Option Addr} {n0 c0 l s0 s1 : Nat} {wx : World} (h : MtI w B T M now v L f n p (.slice a0 n0 c0) wx) (hl : l < 7) (hs : s0 ≤ s1 + 1) (hs1 : s1 < 64) (hp : ∀ i, 64 * l + s0 ≤ i → i < 64 * l + s1 + 1 → p i = false) (hp' : (fun i => p i || rng (64 * l + s0) (64 * l + s1 + 1) i) = p') :
    Calls Tryd.prog 60 #[.pointer (some ⟨T, 0, none⟩), .slice a0 n0 c0, .int .i64 (l : Int), .int .i64 (s0 : Int), .int .i64 (s1 : Int)] wx fun e w' => ∃ a1 n1 c1, e = .returned (.slice a1 n1 c1) ∧ MtI w B T M now v L f n p' (.slice a1 n1 c1) w' := by
  obtain ⟨acc, hr, hpm⟩ := h.r
  have e1 : btw (clrL p L) (64 * l + s0) (64 * l + s1 + 1) = pick (rng (64 * l + s0) (64 * l + s1 + 1)) L := by
    rw [clr_btw hp]
    have := btw_pick L (64 * l + s0) (s1 + 1 - s0) (by omega)
    rwa [show 64 * l + s0 + (s1 + 1 - s0) = 64 * l + s1 + 1 by omega] at this
  have hpp : (acc ++ pick (rng (64 * l + s0) (64 * l + s1 + 1)) L).Perm (pick p' L) := by
    rw [← hp']
    refine ((List.perm_append_right_iff _).2 hpm).trans (pick_or L fun i h1 h2 => ?_).symm
    unfold rng at h2
    simp only [Bool.and_eq_true, decide_eq_true_eq] at h2
    rw [hp i h2.1 h2.2] at h1
    cases h1
  have hsz := h.o.size
  refine (empty_any h.t (Nat.le_trans hB hsz) hr (fun q e hq => ?_) hl hs hs1 ?_).mono ?_
  · have h1 := h.e q e
    have h2 := hold q (clr_ft hq)
    omega
  · rw [e1, hpp.length_eq]
    exact Nat.le_trans (pick_le _ _) hb
  rintro e w' ⟨a1, n1, c1, he, hE⟩
  refine ⟨a1, n1, c1, he, ⟨?_, ⟨_, hE.r, by rw [e1]; exact hpp⟩, h.o.join hE.o (fun q hq hc => ?_), fun q e => ?_⟩⟩
  · have := hE.t
    rw [clr_cutV, clr_cutL, hp'] at this
    exact this
  · rcases hc with hc | hc
    · exact hc
    · have := h.e q hc; omega
  · rcases hE.e q e with h1 | h1
    · exact h.e q h1
    · omega
set_option maxRecDepth 100000 in
set_option maxHeartbeats 1000000 in
theorem meet_any (h : Tms w B T M now v L f n) (hB : B ≤ w.heap.size) (hb : (pick (fun _ => true) L).length ≤ 1000000) {to_ : Nat} (hnow : now ≤ to_) (hto : to_ ≤ MaxT) :
    Calls Tryd.prog 51 #[.pointer (some ⟨T, 0, none⟩), .int .i64 (to_ : Int)] w fun e w' => ∃ a1 n1 c1, e = .returned (.slice a1 n1 c1) ∧ MtI w B T M now v L f n (met now to_) (.slice a1 n1 c1) w' := by
  have hnT : now ≤ MaxT := by omega
  obtain ⟨top, htop⟩ : ∃ q, lev now to_ = q := ⟨_, rfl⟩
  have htl := lev_le now to_
  have HLv : ∀ z, Calls Tryd.prog 49 #[.int .i64 (now : Int), .int .i64 (to_ : Int)] z fun e w' => e = .returned (.int .i64 (top : Int)) ∧ ∃ q, w' = z.drewN q := fun z => by rw [← htop]; exact levelOf_any z now to_ hnT hto
  rw [htop] at htl
  have HA : Hid (B ≤ w.heap.size ∧ (∀ q, Ft T M v q → q < w.heap.size) ∧ (pick (fun _ => true) L).length ≤ 1000000 ∧ now ≤ to_ ∧ to_ ≤ MaxT ∧ lev now to_ = top) := ⟨hB, fun q hq => (h.lt hq).2, hb, hnow, hto, htop⟩
  have c0 := h.tb.c0
  have HT : Hid (Tms w B T M now v L f n) := h
  clear h htop hB hb hnow hto hnT
  go_enter Tryd.func51, Tryd.ntmps51
  go_wp2_with (go_at_call 49; refine (HLv _).mono ?_; rintro _ w9 ⟨rfl, nq, h9⟩; subst w9)
  have HI : Hid (MtI w B T M now v L f n (mq now 0) (.slice none 0 0) (w.drewN nq)) := by
    have e0 : mq now 0 = fun _ => false := by funext i; unfold mq; simp
    rw [e0]
    refine ⟨?_, ⟨[], ERow.nil _ _ _ _ _, ?_⟩, (Off.refl _ _).drewN nq, fun q e => by cases e⟩
    · have e1 : clrV (fun _ => false) v = v := by funext i; rfl
      have e2 : clrL (fun _ => false) L = L := by funext i; rfl
      rw [e1, e2]
      exact HT.out.drewN nq
    · unfold pick
      rw [List.filter_eq_nil_iff.2 (fun i _ => by simp)]
      exact List.Perm.refl _
  clear HLv c0
  go_loopw [6, 15, 7] (fun t6 t15 _ wx => ∃ (p : Nat) (a1 : Option Addr) (n1 c1 : Nat), p ≤ top ∧ t15 = .int .i64 (p : Int) ∧ t6 = .slice a1 n1 c1 ∧ Hid (MtI w B T M now v L f n (mq now p) (.slice a1 n1 c1) wx)) (fun _ t15 _ _ => top - (intOf t15).toNat)
  case atStart => exact ⟨0, none, 0, 0, Nat.zero_le _, rfl, rfl, HI.out⟩
  case round =>
    obtain ⟨p, a1, n1, c1, hp, rfl, rfl, HJ⟩ := hrel
    clear HI
    have c0 := HJ.out.t.tb.c0
    obtain ⟨hB, hold, hb, hnow, hto, htop⟩ := HA.out
    obtain ⟨d, hd⟩ : ∃ d, dig now p = d := ⟨_, rfl⟩
    have hd64 := dig_lt now p
    have HD : ∀ z, Calls Tryd.prog 50 #[.int .i64 (now : Int), .int .i64 (p : Int)] z fun e w' => e = .returned (.int .i64 (d : Int)) ∧ w' = z := fun z => by rw [← hd]; exact digit_any z now p (by omega) (by omega)
    by_cases hlt : p < top
    · have hlt1 : (p : Int) < top := by omega
      have HE : Hid (Calls Tryd.prog 60 #[.pointer (some ⟨T, 0, none⟩), .slice a1 n1 c1, .int .i64 (p : Int), .int .i64 ((d : Int) + 1), .int .i64 63] wr fun e w' => ∃ a1 n1 c1, e = .returned (.slice a1 n1 c1) ∧ MtI w B T M now v L f n (mq now (p + 1)) (.slice a1 n1 c1) w') := by
        rw [← hd]
        exact mt_step hB hold hb HJ.out (l := p) (s0 := dig now p + 1) (s1 := 63) (by omega) (by omega) (by omega) (fun i h1 h2 => by unfold mq; rw [decide_eq_false (by omega)]; rfl) (mq_step now p)
      rw [hd] at hd64
      clear hB hold hb hnow hto htop hd
      go_wp2_with (go_at_call 50; refine (HD _).mono ?_; rintro _ w9 ⟨rfl, h9⟩; subst w9)
      refine HE.out.mono ?_
      rintro _ w3 ⟨a3, n3, c3, rfl, h3⟩
      have H3 : Hid (type_of% h3) := h3
      clear h3 HE
      go_wp2_with fail
      go_roundw
      case rel => exact ⟨p + 1, a3, n3, c3, hlt, by go_num, rfl, H3.out⟩
      case measure => simp [intOf]; omega
    · have hlt1 : ¬ (p : Int) < top := by omega
      obtain rfl : p = top := by omega
      obtain ⟨t, ht⟩ : ∃ d, dig to_ p = d := ⟨_, rfl⟩
      have ht64 := dig_lt to_ p
      have hdd : dig now p ≤ dig to_ p := by
        rcases Nat.lt_or_ge now to_ with q | q
        · rw [← htop]; exact Nat.le_of_lt (dig_gt (by omega) hto q)
        · obtain rfl : now = to_ := by omega
          exact Nat.le_refl _
      have HD2 : ∀ z, Calls Tryd.prog 50 #[.int .i64 (to_ : Int), .int .i64 (p : Int)] z fun e w' => e = .returned (.int .i64 (t : Int)) ∧ w' = z := fun z => by rw [← ht]; exact digit_any z to_ p hto (by omega)
      have HE : Hid (Calls Tryd.prog 60 #[.pointer (some ⟨T, 0, none⟩), .slice a1 n1 c1, .int .i64 (p : Int), .int .i64 ((d : Int) + 1), .int .i64 (t : Int)] wr fun e w' => ∃ a1 n1 c1, e = .returned (.slice a1 n1 c1) ∧ MtI w B T M now v L f n (met now to_) (.slice a1 n1 c1) w') := by
        rw [← hd, ← ht]
        have hlast := mq_last now to_
        rw [htop] at hlast
        exact mt_step hB hold hb HJ.out (l := p) (s0 := dig now p + 1) (s1 := dig to_ p) (by omega) (by omega) (by omega) (fun i h1 h2 => by unfold mq; rw [decide_eq_false (by omega)]; rfl) hlast
      rw [hd] at hd64
      clear hB hold hb hnow hto htop hd ht hdd
      go_wp2_with (go_at_call 50; (first | (with_reducible refine (HD _).mono ?_) | (with_reducible refine (HD2 _).mono ?_)); rintro _ w9 ⟨rfl, h9⟩; subst w9)
      refine HE.out.mono ?_
      rintro _ w3 ⟨a3, n3, c3, rfl, h3⟩
      have H3 : Hid (type_of% h3) := h3
      clear h3 HE
      go_wp2_with fail
      go_ret
      exact ⟨_, _, _, rfl, H3.out⟩
end
end Go.Proofs.YtdglnobapnohmaaDoor
