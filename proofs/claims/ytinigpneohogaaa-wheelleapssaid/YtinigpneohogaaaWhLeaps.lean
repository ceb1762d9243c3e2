/-
  The law WheelLeaps.
-/
import Derived.Test.YtinigpneohogaaaWhTwo
namespace Go.Proofs.Ytinigpneohogaaa
open Go.RowKit

/-- Behind the three leaps: both wheels, three lists. -/
def L5 (w : World) (Wa Wb to_ : Nat) (S : List Tm) (by_ : Nat) (l m n : Value) (wx : World) : Prop :=
  ∃ Fa Fb, W2 w Wa to_ (S.filter (past to_)) Wb to_ (S.filter (past to_)) Fa Fb wx ∧ TRow wx w.heap.size l (S.filter (upto to_)) ∧ TRow wx w.heap.size m (S.filter (upto by_)) ∧ TRow wx w.heap.size n ((S.filter (past by_)).filter (upto to_))
theorem L5.below {w wx w' : World} {Wa Wb to_ by_ : Nat} {S : List Tm} {l m n : Value} (h : L5 w Wa Wb to_ S by_ l m n wx) (hb : Below wx.heap.size wx w') : L5 w Wa Wb to_ S by_ l m n w' := by
  obtain ⟨Fa, Fb, h1, h2, h3, h4⟩ := h
  exact ⟨Fa, Fb, h1.below hb, h2.below hb, h3.below hb, h4.below hb⟩
set_option maxRecDepth 100000 in
set_option maxHeartbeats 4000000 in
theorem leaps_law {now by_ to_ : Int} {ao : Option Addr} {cap : Nat} {ys : List Opv} (w : World) (h : Opl w ao ys) (hk : OpsI ys) (hl : ys.length ≤ maxLen) :
    Calls Try.prog 4 #[.int .i64 now, .slice ao ys.length cap, .int .i64 by_, .int .i64 to_] w fun e w' => e = .returned (.bool true) ∧ Below w.heap.size w w' := by
  have HA : Hid (Opl w ao ys ∧ OpsI ys ∧ ys.length ≤ maxLen) := ⟨h, hk, hl⟩
  clear h hk hl
  by_cases hn : now < 0 ∨ 1099511627776 < now
  · go_enter Try.func4, Try.ntmps4
    go_wp2_with fail
    refine (set_nil w hn).mono ?_
    rintro _ w1 ⟨rfl, b1⟩
    go_wp2_with fail
    refine (set_nil w1 hn).mono ?_
    rintro _ w2 ⟨rfl, b2⟩
    go_wp2_with fail
    refine (anchor_true w2).mono ?_
    rintro _ w3 ⟨rfl, b3⟩
    go_wp2_with fail
    go_ret
    exact ⟨rfl, below_then (below_then b1 b2) b3⟩
  obtain ⟨now, rfl⟩ : ∃ q : Nat, now = (q : Int) := ⟨now.toNat, by omega⟩
  have hnM : now ≤ MaxT := by unfold MaxT; omega
  obtain ⟨N, hN⟩ : ∃ q, ys.length = q := ⟨_, rfl⟩
  have HS1 : Hid (Calls Try.prog 11 #[.int .i64 (now : Int), .slice ao N cap] w fun e w' => e = .returned (.pointer (some ⟨w.heap.size + 1 + 1, 0, none⟩)) ∧ WB w (w.heap.size + 1 + 1) now (setsS now [] (ys.take 1000)) w') := by
    rw [← hN]; exact set_many w hnM HA.out.1 HA.out.2.1 HA.out.2.2
  have HS2 : Hid (∀ w1, Below w.heap.size w w1 → Calls Try.prog 11 #[.int .i64 (now : Int), .slice ao N cap] w1 fun e w' => e = .returned (.pointer (some ⟨w1.heap.size + 1 + 1, 0, none⟩)) ∧ WB w1 (w1.heap.size + 1 + 1) now (setsS now [] (ys.take 1000)) w') := fun w1 hb => by
    rw [← hN]; exact set_many w1 hnM (HA.out.1.below hb) HA.out.2.1 HA.out.2.2
  rw [hN]
  have HH : Hid ((setsS now [] (ys.take 1000)).length ≤ 1000) := (by have := setsS_len now (ys.take 1000) []; simp only [List.length_nil, List.length_take] at this; omega : (setsS now [] (ys.take 1000)).length ≤ 1000)
  generalize setsS now [] (ys.take 1000) = S at HS1 HS2 HH
  clear hn hN
  go_enter Try.func4, Try.ntmps4
  go_wp2_with fail
  refine HS1.out.mono ?_
  rintro _ w1 ⟨rfl, hA1⟩
  obtain ⟨Wa, hWa⟩ : ∃ q, w.heap.size + 1 + 1 = q := ⟨_, rfl⟩
  rw [hWa] at hA1 ⊢
  have HA1 : Hid (WB w Wa now S w1) := hA1
  have HC2 : Hid (Calls Try.prog 11 #[.int .i64 (now : Int), .slice ao N cap] w1 fun e w' => e = .returned (.pointer (some ⟨w1.heap.size + 1 + 1, 0, none⟩)) ∧ WB w1 (w1.heap.size + 1 + 1) now S w') := HS2.out w1 (by obtain ⟨_, _, hb⟩ := hA1; exact hb)
  clear hA1 HS1 HS2 HA hWa
  go_wp2_with fail
  refine HC2.out.mono ?_
  rintro _ w2 ⟨rfl, hB2⟩
  obtain ⟨Wb, hWb⟩ : ∃ q, w1.heap.size + 1 + 1 = q := ⟨_, rfl⟩
  rw [hWb] at hB2 ⊢
  obtain ⟨Fa, Fb, h2⟩ := w2_start HA1.out hB2
  have H2 : Hid (W2 w Wa now S Wb now S Fa Fb w2) := h2
  clear hB2 HA1 HC2 hWb h2
  by_cases hc : by_ < (now : Int) ∨ to_ < by_ ∨ 1099511627776 < to_
  · have HAn : Hid (Calls Try.prog 7 #[] w2 fun e w' => e = .returned (.bool true) ∧ Below w2.heap.size w2 w') := anchor_true w2
    rcases (by omega : by_ < (now : Int) ∨ (¬ by_ < (now : Int) ∧ to_ < by_) ∨ (¬ by_ < (now : Int) ∧ ¬ to_ < by_ ∧ to_ > 1099511627776)) with g | ⟨g, g1⟩ | ⟨g, g1, g2⟩
    · have e1 : decide (by_ < (now : Int)) = true := decide_eq_true g
      clear hc
      go_wp2_with fail
      refine HAn.out.mono ?_
      rintro _ w3 ⟨rfl, b3⟩
      go_wp2_with fail
      go_ret
      exact ⟨rfl, H2.out.l.trans (b3.mono H2.out.l.size)⟩
    · have e1 : decide (by_ < (now : Int)) = false := decide_eq_false g
      have e2 : decide (to_ < by_) = true := decide_eq_true g1
      clear hc
      go_wp2_with fail
      refine HAn.out.mono ?_
      rintro _ w3 ⟨rfl, b3⟩
      go_wp2_with fail
      go_ret
      exact ⟨rfl, H2.out.l.trans (b3.mono H2.out.l.size)⟩
    · have e1 : decide (by_ < (now : Int)) = false := decide_eq_false g
      have e2 : decide (to_ < by_) = false := decide_eq_false g1
      clear hc
      go_wp2_with fail
      refine HAn.out.mono ?_
      rintro _ w3 ⟨rfl, b3⟩
      go_wp2_with fail
      go_ret
      exact ⟨rfl, H2.out.l.trans (b3.mono H2.out.l.size)⟩
  obtain ⟨by_, rfl⟩ : ∃ q : Nat, by_ = (q : Int) := ⟨by_.toNat, by omega⟩
  obtain ⟨to_, rfl⟩ : ∃ q : Nat, to_ = (q : Int) := ⟨to_.toNat, by omega⟩
  have g1 : ¬ by_ < now := by omega
  have g2 : ¬ to_ < by_ := by omega
  have g3 : ¬ (to_ : Int) > 1099511627776 := by omega
  have e1 : decide ((by_ : Int) < (now : Int)) = false := decide_eq_false (by omega)
  have e2 : decide ((to_ : Int) < (by_ : Int)) = false := decide_eq_false (by omega)
  have e1' : decide (by_ < now) = false := decide_eq_false g1
  have e2' : decide (to_ < by_) = false := decide_eq_false g2
  have htM : to_ ≤ MaxT := by unfold MaxT; omega
  have HC3 : Hid (Calls Try.prog 9 #[.pointer (some ⟨Wa, 0, none⟩), .int .i64 (to_ : Int)] w2 fun e w' => ∃ a n c Fa', e = .returned (.tuple #[.slice a n c, .nilIface]) ∧ W2 w Wa to_ (S.filter (past to_)) Wb now S Fa' Fb w' ∧ Bes w Fa' Fb (.slice a n c) (S.filter (upto to_)) w' ∧ ∀ v xs, Bes w Fa Fb v xs w2 → Bes w Fa' Fb v xs w') := w2_adv H2.out (by omega) htM
  have HSr : Hid (Srt S) := by
    obtain ⟨h, _⟩ := H2.out.a.held
    exact h.srt
  clear hc H2
  go_wp2_with fail
  refine HC3.out.mono ?_
  rintro _ w3 ⟨al, nl, cl, Fa3, rfl, h3, hl3, _⟩
  have H3 : Hid (W2 w Wa to_ (S.filter (past to_)) Wb now S Fa3 Fb w3 ∧ Bes w Fa3 Fb (.slice al nl cl) (S.filter (upto to_)) w3) := ⟨h3, hl3⟩
  have HC4 : Hid (Calls Try.prog 9 #[.pointer (some ⟨Wb, 0, none⟩), .int .i64 (by_ : Int)] w3 fun e w' => ∃ a n c Fb', e = .returned (.tuple #[.slice a n c, .nilIface]) ∧ W2 w Wb by_ (S.filter (past by_)) Wa to_ (S.filter (past to_)) Fb' Fa3 w' ∧ Bes w Fb' Fa3 (.slice a n c) (S.filter (upto by_)) w' ∧ ∀ v xs, Bes w Fb Fa3 v xs w3 → Bes w Fb' Fa3 v xs w') := w2_adv h3.swap (by omega) (by omega)
  clear h3 hl3 HC3
  go_wp2_with fail
  refine HC4.out.mono ?_
  rintro _ w4 ⟨am, nm, cm, Fb4, rfl, h4, hm4, k4⟩
  have H4 : Hid (W2 w Wb by_ (S.filter (past by_)) Wa to_ (S.filter (past to_)) Fb4 Fa3 w4 ∧ Bes w Fb4 Fa3 (.slice am nm cm) (S.filter (upto by_)) w4 ∧ Bes w Fb4 Fa3 (.slice al nl cl) (S.filter (upto to_)) w4) := ⟨h4, hm4, k4 _ _ H3.out.2.swap⟩
  have HC5 : Hid (Calls Try.prog 9 #[.pointer (some ⟨Wb, 0, none⟩), .int .i64 (to_ : Int)] w4 fun e w' => ∃ a n c Fb', e = .returned (.tuple #[.slice a n c, .nilIface]) ∧ W2 w Wb to_ ((S.filter (past by_)).filter (past to_)) Wa to_ (S.filter (past to_)) Fb' Fa3 w' ∧ Bes w Fb' Fa3 (.slice a n c) ((S.filter (past by_)).filter (upto to_)) w' ∧ ∀ v xs, Bes w Fb4 Fa3 v xs w4 → Bes w Fb' Fa3 v xs w') := w2_adv h4 (by omega) htM
  clear h4 hm4 k4 HC4 H3
  go_wp2_with fail
  refine HC5.out.mono ?_
  rintro _ w5 ⟨an, nn, cn, Fb5, rfl, h5, hn5, k5⟩
  have H5 : Hid (L5 w Wa Wb to_ S by_ (.slice al nl cl) (.slice am nm cm) (.slice an nn cn) w5) := by
    rw [past_past S by_ to_ (by omega)] at h5
    exact ⟨Fa3, Fb5, h5.swap, (k5 _ _ H4.out.2.2).1, (k5 _ _ H4.out.2.1).1, hn5.1⟩
  clear h5 hn5 k5 HC5 H4
  have hS := HH.out
  have hl1 := List.length_filter_le (upto to_) S
  have hl2 := List.length_filter_le (upto by_) S
  have hl3 := List.length_filter_le (past by_) S
  have hl4 := List.length_filter_le (upto to_) (S.filter (past by_))
  obtain ⟨Fa, Fb, hw5, hrl, hrm, hrn⟩ := H5.out
  have bA : Below w5.heap.size w5 (w5.alloc (.cells #[] 38)) := (Below.refl _ _).alloc (Nat.le_refl _) _
  obtain ⟨a6, c6, w6, hap6, r6, o6, b6⟩ := run_tapp (ERow.zero w5 (Nat.le_refl _)) (hrm.below bA) rfl (by simp only [List.length_nil]; omega) bA.size
  have B6 : Below w5.heap.size w5 w6 := bA.trans (o6.below bA.size fun q e => by simp only [Value.ownBlock, Option.some.injEq] at e; omega)
  obtain ⟨a7, c7, w7, hap7, r7, o7, b7⟩ := run_tapp r6 (hrn.below B6) rfl (by simp only [List.nil_append]; omega) B6.size
  have B7 : Below w5.heap.size w5 w7 := B6.trans (o7.below B6.size fun q e => (r6.lt e).1)
  rw [List.nil_append, ← srt_split HSr.out by_ to_ (by omega)] at r7
  simp only [List.nil_append, List.length_nil, Nat.zero_add] at hap6 hap7 r7
  obtain ⟨n6, hn6⟩ : ∃ q, (S.filter (upto by_)).length = q := ⟨_, rfl⟩
  rw [hn6] at hap6 hap7 r7
  obtain ⟨n7, hn7⟩ : ∃ q, n6 + ((S.filter (past by_)).filter (upto to_)).length = q := ⟨_, rfl⟩
  rw [hn7] at hap7 r7
  have H7 : Hid (L5 w Wa Wb to_ S by_ (.slice al nl cl) (.slice am nm cm) (.slice an nn cn) w7 ∧ TRow w7 w5.heap.size (.slice a7 n7 c7) (S.filter (upto to_)) ∧ Below w.heap.size w w7) := ⟨H5.out.below B7, r7, hw5.l.trans (B7.mono hw5.l.size)⟩
  have HL : Hid ((S.filter (upto to_)).length ≤ 1000000 ∧ (S.filter (past to_)).length ≤ 1000000) := ⟨by omega, by have := List.length_filter_le (past to_) S; omega⟩
  clear hS hl1 hl2 hl3 hl4 hw5 hrl hrm hrn bA r6 o6 b6 B6 r7 o7 b7 B7 hn6 hn7 H5 HSr HH
  go_wp2_with (at_builtin; first | refine wpList_append_run rfl (.tmp 72) (.tmp 73) 33 _ rfl hap6 ?_ | refine wpList_append_run rfl (.tmp 74) (.tmp 75) 33 _ rfl hap7 ?_)
  clear hap6 hap7
  obtain ⟨Fa, Fb, hw7, hrl, _, _⟩ := H7.out.1
  refine (numbers_any hrl HL.out.1).mono ?_
  rintro _ w8 ⟨a8, n8, c8, rfl, r8, b8⟩
  have H8 : Hid (L5 w Wa Wb to_ S by_ (.slice al nl cl) (.slice am nm cm) (.slice an nn cn) w8 ∧ TRow w8 w5.heap.size (.slice a7 n7 c7) (S.filter (upto to_)) ∧ RRow w8 w7.heap.size (.slice a8 n8 c8) (S.filter (upto to_)) ∧ Below w.heap.size w w8) := ⟨H7.out.1.below b8, H7.out.2.1.below b8, r8, H7.out.2.2.trans (b8.mono H7.out.2.2.size)⟩
  clear hw7 hrl r8 b8 H7
  go_wp2_with fail
  refine (numbers_any H8.out.2.1 HL.out.1).mono ?_
  rintro _ w9 ⟨a9, n9, c9, rfl, r9, b9⟩
  have H9 : Hid (L5 w Wa Wb to_ S by_ (.slice al nl cl) (.slice am nm cm) (.slice an nn cn) w9 ∧ RRow w9 w7.heap.size (.slice a8 n8 c8) (S.filter (upto to_)) ∧ RRow w9 w8.heap.size (.slice a9 n9 c9) (S.filter (upto to_)) ∧ Below w.heap.size w w9) := ⟨H8.out.1.below b9, H8.out.2.2.1.below b9, r9, H8.out.2.2.2.trans (b9.mono H8.out.2.2.2.size)⟩
  clear r9 b9 H8
  go_wp2_with fail
  refine (like_true H9.out.2.1 H9.out.2.2.1 HL.out.1).mono ?_
  rintro _ w10 ⟨rfl, q10, h10⟩
  have b10 : Below w9.heap.size w9 w10 := by rw [h10]; exact below_drewN (Below.refl _ _) q10
  have H10 : Hid (L5 w Wa Wb to_ S by_ (.slice al nl cl) (.slice am nm cm) (.slice an nn cn) w10 ∧ Below w.heap.size w w10) := ⟨H9.out.1.below b10, H9.out.2.2.2.trans (b10.mono H9.out.2.2.2.size)⟩
  clear h10 b10 H9
  obtain ⟨Fa, Fb, hw10, _, _, _⟩ := H10.out.1
  go_wp2_with fail
  refine (alls_ok hw10.a).mono ?_
  rintro _ w11 ⟨a11, n11, c11, rfl, r11, b11⟩
  have H11 : Hid (L5 w Wa Wb to_ S by_ (.slice al nl cl) (.slice am nm cm) (.slice an nn cn) w11 ∧ TRow w11 w10.heap.size (.slice a11 n11 c11) (S.filter (past to_)) ∧ Below w.heap.size w w11) := ⟨H10.out.1.below b11, r11, H10.out.2.trans (b11.mono H10.out.2.size)⟩
  clear hw10 r11 b11 H10
  go_wp2_with fail
  refine (numbers_any H11.out.2.1 HL.out.2).mono ?_
  rintro _ w12 ⟨a12, n12, c12, rfl, r12, b12⟩
  have H12 : Hid (L5 w Wa Wb to_ S by_ (.slice al nl cl) (.slice am nm cm) (.slice an nn cn) w12 ∧ RRow w12 w11.heap.size (.slice a12 n12 c12) (S.filter (past to_)) ∧ Below w.heap.size w w12) := ⟨H11.out.1.below b12, r12, H11.out.2.2.trans (b12.mono H11.out.2.2.size)⟩
  clear r12 b12 H11
  obtain ⟨Fa, Fb, hw12, _, _, _⟩ := H12.out.1
  go_wp2_with fail
  refine (alls_ok hw12.b).mono ?_
  rintro _ w13 ⟨a13, n13, c13, rfl, r13, b13⟩
  have H13 : Hid (L5 w Wa Wb to_ S by_ (.slice al nl cl) (.slice am nm cm) (.slice an nn cn) w13 ∧ RRow w13 w11.heap.size (.slice a12 n12 c12) (S.filter (past to_)) ∧ TRow w13 w12.heap.size (.slice a13 n13 c13) (S.filter (past to_)) ∧ Below w.heap.size w w13) := ⟨H12.out.1.below b13, H12.out.2.1.below b13, r13, H12.out.2.2.trans (b13.mono H12.out.2.2.size)⟩
  clear hw12 r13 b13 H12
  go_wp2_with fail
  refine (numbers_any H13.out.2.2.1 HL.out.2).mono ?_
  rintro _ w14 ⟨a14, n14, c14, rfl, r14, b14⟩
  have H14 : Hid (L5 w Wa Wb to_ S by_ (.slice al nl cl) (.slice am nm cm) (.slice an nn cn) w14 ∧ RRow w14 w11.heap.size (.slice a12 n12 c12) (S.filter (past to_)) ∧ RRow w14 w13.heap.size (.slice a14 n14 c14) (S.filter (past to_)) ∧ Below w.heap.size w w14) := ⟨H13.out.1.below b14, H13.out.2.1.below b14, r14, H13.out.2.2.2.trans (b14.mono H13.out.2.2.2.size)⟩
  clear r14 b14 H13
  go_wp2_with fail
  refine (like_true H14.out.2.1 H14.out.2.2.1 HL.out.2).mono ?_
  rintro _ w15 ⟨rfl, q15, h15⟩
  have b15 : Below w14.heap.size w14 w15 := by rw [h15]; exact below_drewN (Below.refl _ _) q15
  have H15 : Hid (L5 w Wa Wb to_ S by_ (.slice al nl cl) (.slice am nm cm) (.slice an nn cn) w15 ∧ Below w.heap.size w w15) := ⟨H14.out.1.below b15, H14.out.2.2.2.trans (b15.mono H14.out.2.2.2.size)⟩
  clear h15 b15 H14
  obtain ⟨Fa, Fb, hw15, _, _, _⟩ := H15.out.1
  have HNa := now_any hw15.a
  have HNb := now_any hw15.b
  have HAn : Hid (Calls Try.prog 7 #[] w15 fun e w' => e = .returned (.bool true) ∧ Below w15.heap.size w15 w') := anchor_true w15
  clear hw15
  go_wp2_with (first | (go_at_call 15; (first | (with_reducible refine HNa.mono ?_) | (with_reducible refine HNb.mono ?_)); rintro _ w99 ⟨rfl, h99⟩; subst w99))
  refine HAn.out.mono ?_
  rintro _ w16 ⟨rfl, b16⟩
  go_wp2_with fail
  go_ret
  exact ⟨rfl, H15.out.2.trans (b16.mono H15.out.2.size)⟩
end Go.Proofs.Ytinigpneohogaaa
