/-
  A right stamp's text, read: date, clock, part, zone, end.
-/
import Derived.Test.YtpcdkafjogpdkaaDoorBk
namespace Go.Proofs.YtpcdkafjogpdkaaDoor
open Go.RowKit

theorem digs_front (k n : Nat) : digs (k + 1) n = UInt8.ofNat (48 + n / 10 ^ k % 10) :: digs k n := by
  induction k generalizing n with
  | zero => simp [digs]
  | succ k ih =>
    rw [digs, ih (n / 10), Nat.div_div_eq_div_mul, ← Nat.pow_succ']
    rfl
theorem prt_digs (s : ByteArray) (k : Nat) : ∀ (fuel n a : Nat) (x0 c0 : Int) (r : List UInt8), k ≤ fuel → (k < fuel → isD (ahd s (a + k) none) = false) → Rest s a (digs k n ++ r) → prt s fuel (x0, c0, a, none) = (x0 * 10 ^ k + ((n % 10 ^ k : Nat) : Int), c0 + k, a + k, none) ∧ Rest s (a + k) r := by
  induction k with
  | zero =>
    intro fuel n a x0 c0 r _ hd h
    refine ⟨?_, h⟩
    cases fuel with
    | zero => simp [prt, Nat.mod_one]
    | succ f =>
      have := hd (by omega)
      rw [prt, if_neg (by rw [Nat.add_zero] at this; rw [this]; decide)]
      simp [Nat.mod_one]
  | succ k ih =>
    intro fuel n a x0 c0 r hf hd h
    obtain ⟨f, rfl⟩ : ∃ f, fuel = f + 1 := ⟨fuel - 1, by omega⟩
    rw [digs_front] at h
    obtain ⟨e, h2⟩ := Rest.cons h
    rw [dg_nat _ (by omega)] at e
    obtain ⟨e3, h3⟩ := ih f n (a + 1) (x0 * 10 + (n / 10 ^ k % 10 : Nat)) (c0 + 1) r (by omega) (fun g => by rw [show a + 1 + k = a + (k + 1) by omega]; exact hd (by omega)) h2
    rw [show a + 1 + k = a + (k + 1) by omega] at e3 h3
    refine ⟨?_, h3⟩
    rw [prt, if_pos (by show isD (ahd s a none) = true; rw [e]; exact isD_dg _ (by omega))]
    have ec : (((ahd s a none : Nat) : Int) - 48) = ((n / 10 ^ k % 10 : Nat) : Int) := by rw [e]; omega
    show prt s f (x0 * 10 + (((ahd s a none : Nat) : Int) - 48), c0 + 1, a + 1, none) = _
    rw [ec, e3, Nat.mod_pow_succ]
    simp only [Prod.mk.injEq, and_true]
    refine ⟨?_, by omega⟩
    rw [Int.add_mul, Int.pow_succ, Int.mul_assoc, Int.mul_comm (10 : Int) (10 ^ k)]
    push_cast
    rw [Int.mul_comm ((10 : Int) ^ k) ((n : Int) / 10 ^ k % 10)]
    omega
/-- How a text reads: these numbers, and no fault. -/
def Reads (s : ByteArray) (lv y mo d h mi sc p dg : Int) (z : Bool) (zn : Int) : Prop := ∃ lv0 A, dateS s 0 none = (lv0, y, mo, d, A, none) ∧ ∃ A2, clkS s A none lv0 = (lv, h, mi, sc, p, dg, A2, none) ∧ ∃ A3, zoneS s A2 none = (z, zn, A3, none) ∧ endB s A3 none = none
theorem clk_none {s : ByteArray} {a : Nat} {lv : Int} (h : isD (ahd s a none) = false) : clkS s a none lv = (lv, 0, 0, 0, 0, 0, a, none) := by
  unfold clkS
  rw [if_neg (by rw [h]; decide)]
theorem reads_text {L Y Mo D H Mi Sc P G : Nat} {z : Bool} {zn : Int} {s : ByteArray} (ht : Txt s (textL L Y Mo D H Mi Sc P G z zn)) (hr : rightB L Y Mo D H Mi Sc P G zn z = true) : Reads s L Y Mo D H Mi Sc P G z zn := by
  have F := facts_of hr
  obtain ⟨Z1, Z2, Z3, Z4, Z5, Z6⟩ := zeros_of hr
  have hr' := hr
  unfold rightB dateB clockB partB zoneB at hr'
  simp only [Bool.and_eq_true] at hr'
  obtain ⟨⟨⟨⟨⟨⟨a1, a2⟩, a3⟩, a4⟩, ⟨⟨b1, b2⟩, b3⟩⟩, ⟨c1, c2⟩⟩, e1⟩ := hr'
  rw [inB_iff] at a1 a2
  have f3 := fit_bd a3; have f4 := fit_bd a4; have g1 := fit_bd b1; have g2 := fit_bd b2; have g3 := fit_bd b3; have k1 := fit_bd c1; have k2 := fit_bd c2; have ke := fit_bd e1
  have hz : z = true → -840 ≤ zn ∧ zn ≤ 840 := fun g => ke.1 g
  have hz0 : z = false → zn = 0 := fun g => ke.2 g
  have h0 : Rest s 0 (textL L Y Mo D H Mi Sc P G z zn) := by show s.data.toList.drop 0 = _; rw [ht]; simp
  unfold textL at h0
  obtain ⟨n1, r1⟩ := num_digs (lo := 1) (hi := 9999) (by omega) (by omega) (by omega) h0
  simp only [Nat.zero_add] at n1 r1
  by_cases l2 : 2 ≤ L
  rotate_left
  · obtain rfl : L = 1 := by omega
    simp only [Nat.reduceLeDiff, if_false, List.nil_append, Nat.reduceEqDiff] at r1
    have z1 := Z1 (by decide); have z2 := Z2 (by decide); have z3 := Z3 (by decide); have z4 := Z4 (by decide); have z5 := Z5 (by decide); have z6 := Z6 (by decide); have z7 := k1.2 rfl
    obtain ⟨A3, q1, q2⟩ := zone_text r1 hz hz0
    refine ⟨1, 4, ?_, 4, ?_, A3, q1, q2⟩
    · unfold dateS
      simp only [n1, (zone_head r1).1]
      rw [z1, z2]; rfl
    · rw [clk_none (zone_head r1).1, z3, z4, z5, z6, z7]; rfl
  rw [if_pos l2] at r1
  have m1 := f3.1 (by simp; omega)
  have d1 := isD_digs (k := 1) r1
  obtain ⟨n2, r2⟩ := num_digs (lo := 1) (hi := 12) (by omega) (by omega) (by omega) r1
  simp only [Nat.reduceAdd] at n2 r2
  by_cases l3 : 3 ≤ L
  rotate_left
  · obtain rfl : L = 2 := by omega
    simp only [Nat.reduceLeDiff, if_false, List.nil_append, Nat.reduceEqDiff] at r2
    have z2 := Z2 (by decide); have z3 := Z3 (by decide); have z4 := Z4 (by decide); have z5 := Z5 (by decide); have z6 := Z6 (by decide); have z7 := k1.2 rfl
    obtain ⟨A3, q1, q2⟩ := zone_text r2 hz hz0
    refine ⟨2, 6, ?_, 6, ?_, A3, q1, q2⟩
    · unfold dateS
      simp only [n1, d1, n2, (zone_head r2).1, if_true]
      rw [z2]; rfl
    · rw [clk_none (zone_head r2).1, z3, z4, z5, z6, z7]; rfl
  rw [if_pos l3] at r2
  have m2 := f4.1 (by simp; omega)
  have d2 := isD_digs (k := 1) r2
  have db := din_bd (Y : Int) Mo
  obtain ⟨n3, r3⟩ := num_digs (lo := 1) (hi := dinB Y Mo) (by omega) (by omega) (by omega) r2
  simp only [Nat.reduceAdd] at n3 r3
  have hd : dateS s 0 none = (3, (Y : Int), (Mo : Int), (D : Int), 8, none) := by
    unfold dateS
    simp only [n1, d1, n2, d2, n3, if_true]
  refine ⟨3, _, hd, ?_⟩
  by_cases l4 : 4 ≤ L
  rotate_left
  · obtain rfl : L = 3 := by omega
    simp only [Nat.reduceLeDiff, if_false, List.nil_append, Nat.reduceEqDiff] at r3
    have z3 := Z3 (by decide); have z4 := Z4 (by decide); have z5 := Z5 (by decide); have z6 := Z6 (by decide); have z7 := k1.2 rfl
    obtain ⟨A3, q1, q2⟩ := zone_text r3 hz hz0
    refine ⟨8, ?_, A3, q1, q2⟩
    rw [clk_none (zone_head r3).1, z3, z4, z5, z6, z7]; rfl
  rw [if_pos l4] at r3
  have m3 := g1.1 (by simp; omega)
  have d3 := isD_digs (k := 1) r3
  obtain ⟨n4, r4⟩ := num_digs (lo := 0) (hi := 23) (by omega) (by omega) (by omega) r3
  simp only [Nat.reduceAdd] at n4 r4
  have hc : clkS s 8 none 3 = clockS s 8 none := by unfold clkS; rw [if_pos d3]
  rw [hc]
  by_cases l5 : 5 ≤ L
  rotate_left
  · obtain rfl : L = 4 := by omega
    simp only [Nat.reduceLeDiff, if_false, List.nil_append, Nat.reduceEqDiff] at r4
    have z4 := Z4 (by decide); have z5 := Z5 (by decide); have z6 := Z6 (by decide); have z7 := k1.2 rfl
    obtain ⟨A3, q1, q2⟩ := zone_text r4 hz hz0
    refine ⟨10, ?_, A3, q1, q2⟩
    unfold clockS
    simp only [n4, (zone_head r4).1]
    rw [z4, z5, z6, z7]; rfl
  rw [if_pos l5] at r4
  have m4 := g2.1 (by simp; omega)
  have d4 := isD_digs (k := 1) r4
  obtain ⟨n5, r5⟩ := num_digs (lo := 0) (hi := 59) (by omega) (by omega) (by omega) r4
  simp only [Nat.reduceAdd] at n5 r5
  by_cases l6 : 6 ≤ L
  rotate_left
  · obtain rfl : L = 5 := by omega
    simp only [Nat.reduceLeDiff, if_false, List.nil_append, Nat.reduceEqDiff] at r5
    have z5 := Z5 (by decide); have z6 := Z6 (by decide); have z7 := k1.2 rfl
    obtain ⟨A3, q1, q2⟩ := zone_text r5 hz hz0
    refine ⟨12, ?_, A3, q1, q2⟩
    unfold clockS
    simp only [n4, d4, n5, (zone_head r5).1, if_true]
    rw [z5, z6, z7]; rfl
  rw [if_pos l6] at r5
  have m5 := g3.1 (by simp; omega)
  have d5 := isD_digs (k := 1) r5
  obtain ⟨n6, r6⟩ := num_digs (lo := 0) (hi := 59) (by omega) (by omega) (by omega) r5
  simp only [Nat.reduceAdd] at n6 r6
  by_cases l7 : L = 7
  rotate_left
  · obtain rfl : L = 6 := by omega
    simp only [if_false, List.nil_append, Nat.reduceEqDiff] at r6
    have z6 := Z6 (by decide); have z7 := k1.2 rfl
    obtain ⟨A3, q1, q2⟩ := zone_text r6 hz hz0
    refine ⟨14, ?_, A3, q1, q2⟩
    unfold clockS
    simp only [n4, d4, n5, d5, n6, if_true, (zone_head r6).2, if_false]
    rw [z6, z7]; rfl
  subst l7
  rw [if_pos rfl] at r6
  have m6 := k1.1 rfl
  have m7 := k2.1 rfl
  obtain ⟨e7, r7⟩ := Rest.cons (r := digs G P ++ zoneL z zn) r6
  simp only [Nat.reduceAdd] at r7
  obtain ⟨G', rfl⟩ : ∃ G', G = G' + 1 := ⟨G - 1, by omega⟩
  have d7 := isD_digs r7
  have hP : P < 10 ^ (G' + 1) := by
    have e : tensB ((G' + 1 : Nat) : Int) = ((10 ^ (G' + 1) : Nat) : Int) := by
      unfold tensB
      rw [show min ((G' + 1 : Nat) : Int) 4 = ((G' + 1 : Nat) : Int) by omega]
      simp
    rw [e] at m7
    omega
  have r8 := r7
  rw [digs_front] at r8
  obtain ⟨e8, r9⟩ := Rest.cons r8
  simp only [Nat.reduceAdd] at r9
  rw [dg_nat _ (by omega)] at e8
  have hdrop : Rest s (16 + G') (zoneL z zn) := by
    have h9 : s.data.toList.drop 16 = digs G' P ++ zoneL z zn := r9
    show s.data.toList.drop (16 + G') = _
    rw [← List.drop_drop, h9, List.drop_left' (digs_length G' P)]
  obtain ⟨e9, r10⟩ := prt_digs s G' 3 P 16 (((P / 10 ^ G' % 10 : Nat) : Int)) 1 (zoneL z zn) (by omega) (fun _ => (zone_head hdrop).1) r9
  have hN : P / 10 ^ G' % 10 * 10 ^ G' + P % 10 ^ G' = P := by
    rw [Nat.mul_comm, Nat.add_comm, ← Nat.mod_pow_succ]
    exact Nat.mod_eq_of_lt hP
  have ev : ((P / 10 ^ G' % 10 : Nat) : Int) * 10 ^ G' + ((P % 10 ^ G' : Nat) : Int) = (P : Int) := by
    have := congrArg (Nat.cast : Nat → Int) hN
    push_cast at this ⊢
    exact this
  rw [ev] at e9
  obtain ⟨A3, q1, q2⟩ := zone_text r10 hz hz0
  refine ⟨16 + G', ?_, A3, q1, q2⟩
  have ec : (((ahd s 15 none : Nat) : Int) - 48) = ((P / 10 ^ G' % 10 : Nat) : Int) := by rw [e8]; omega
  have e7' : ahd s 14 none = 46 := e7
  unfold clockS
  simp only [n4, d4, n5, d5, n6, if_true, e7', Nat.reduceAdd, d7, ec, e9, Prod.mk.injEq, and_true, true_and]
  refine ⟨rfl, ?_⟩
  push_cast
  omega
end Go.Proofs.YtpcdkafjogpdkaaDoor
