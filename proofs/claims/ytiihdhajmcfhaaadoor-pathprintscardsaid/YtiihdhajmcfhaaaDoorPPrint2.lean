/-
  The document's Print of a right place; the law PathPrints.
-/
import Derived.Test.YtiihdhajmcfhaaaDoorPPrint
namespace Go.Proofs.YtiihdhajmcfhaaaDoor
open Go.RowKit

theorem app_brk {n : Nat} (h : ¬ n = 1) (t : ByteArray) : ((t ++ ⟨#[91]⟩) ++ dec n) ++ ⟨#[93]⟩ = t ++ brk n := by
  unfold brk; rw [if_neg h]; apply ByteArray.ext; simp
theorem app_one (t : ByteArray) : t = t ++ brk 1 := by
  unfold brk; rw [if_pos rfl]; apply ByteArray.ext; simp
theorem app_dot (t : ByteArray) (n : Nat) : (t ++ ⟨#[46]⟩) ++ dec n = t ++ ((⟨#[46]⟩ : ByteArray) ++ dec n) := by
  apply ByteArray.ext; simp
set_option maxRecDepth 100000 in
set_option maxHeartbeats 4000000 in
theorem RPrint_ok (seg : ByteArray) (o f r c b : Nat) (w : World) (hr : rgt seg (o : Int) f r c b = true) : Calls Tryd.prog 5 #[.agg #[.string seg, .int .i64 (o : Int), .int .i64 (f : Int), .int .i64 (r : Int), .int .i64 (c : Int), .int .i64 (b : Int)]] w fun e w' => e = .returned (.tuple #[.string (txt seg o f r c b), .slice none 0 0]) ∧ Below w.heap.size w w' := by
  obtain ⟨h3, ho, hf, hrr, hc, hb⟩ := rgt_bd hr
  have HRg : Hid (rgt seg (o : Int) f r c b = true) := hr
  obtain ⟨W, hW⟩ : ∃ W, w.alloc (.cells #[.string seg, .int .i64 (o : Int), .int .i64 (f : Int), .int .i64 (r : Int), .int .i64 (c : Int), .int .i64 (b : Int)] 23) = W := ⟨_, rfl⟩
  have HWd : Hid (w.alloc (.cells #[.string seg, .int .i64 (o : Int), .int .i64 (f : Int), .int .i64 (r : Int), .int .i64 (c : Int), .int .i64 (b : Int)] 23) = W) := hW
  have hbW : Below w.heap.size w W := by rw [← hW]; exact (Below.refl _ _).alloc (Nat.le_refl _) _
  have HBW : Hid (Below w.heap.size w W ∧ w.heap.size < W.heap.size) := ⟨hbW, by rw [← hW]; simp⟩
  have HC : Hid (∀ y, Below W.heap.size W y → y.cell? ⟨w.heap.size, 0, none⟩ = some (.string seg) ∧ y.cell? ⟨w.heap.size, 1, none⟩ = some (.int .i64 (o : Int)) ∧ y.cell? ⟨w.heap.size, 2, none⟩ = some (.int .i64 (f : Int)) ∧ y.cell? ⟨w.heap.size, 3, none⟩ = some (.int .i64 (r : Int)) ∧ y.cell? ⟨w.heap.size, 4, none⟩ = some (.int .i64 (c : Int)) ∧ y.cell? ⟨w.heap.size, 5, none⟩ = some (.int .i64 (b : Int))) := fun y hy => by
    have hl : w.heap.size < W.heap.size := HBW.out.2
    refine ⟨(hy.cell (p := ⟨w.heap.size, 0, none⟩) hl).trans ?_, (hy.cell (p := ⟨w.heap.size, 1, none⟩) hl).trans ?_, (hy.cell (p := ⟨w.heap.size, 2, none⟩) hl).trans ?_, (hy.cell (p := ⟨w.heap.size, 3, none⟩) hl).trans ?_, (hy.cell (p := ⟨w.heap.size, 4, none⟩) hl).trans ?_, (hy.cell (p := ⟨w.heap.size, 5, none⟩) hl).trans ?_⟩ <;> (rw [← hW]; simp)
  have HDc : Hid (∀ y (n : Nat), n = o ∨ n = f ∨ n = r ∨ n = c ∨ n = b → Below W.heap.size W y → Calls Tryd.prog 13 #[.int .i64 (n : Int)] y fun e w' => e = .returned (.string (dec n)) ∧ Below W.heap.size W w') := fun y n hn hy =>
    (decimal_ok n y (by omega) (by omega)).mono fun e w' ⟨he, hb'⟩ => ⟨he, below_then hy hb'⟩
  have s1 := brk_size (n := o) (by omega)
  have s2 := brk_size (n := r) (by omega)
  have s3 := dec_size (n := f) (by omega)
  have s4 := dec_size (n := c) (by omega)
  have s5 := dec_size (n := b) (by omega)
  have s6 := dec_size (n := o) (by omega)
  have s7 := dec_size (n := r) (by omega)
  have HS : Hid ((brk o).size ≤ 5 ∧ (brk r).size ≤ 5) := ⟨s1, s2⟩
  have hcb : Hid ((1 ≤ c ∧ c ≤ 32) ∧ (1 ≤ b ∧ b ≤ 16)) := ⟨by omega, by omega⟩
  clear hr hbW hW ho hf hrr hc hb s1 s2
  go_enter Tryd.func5, Tryd.ntmps5
  go_wp2_with fail
  refine (Right_any seg o f r c b _).mono ?_
  rintro e w1 ⟨he, hb1⟩
  rw [HRg.out] at he
  subst he
  rw [HWd.out] at hb1
  have HB1 : Hid (Below W.heap.size W w1) := hb1
  obtain ⟨c0, c1, c2, c3, c4, c5⟩ := HC.out w1 hb1
  clear hb1
  go_upto_if 15 with fail
  go_cut [5] from 6 (fun s5 wx => s5 = .string (seg ++ brk o) ∧ Hid (Below W.heap.size W wx))
  case first =>
    by_cases h1 : o = 1
    · have n1 : ((o : Int) != 1) = false := by simp [h1]
      have HO : Hid (seg = seg ++ brk o) := by unfold Hid; rw [h1]; exact app_one seg
      clear h1
      go_wp2_with fail
      go_meet
      exact ⟨congrArg Value.string HO.out, HB1⟩
    · have n1 : ((o : Int) != 1) = true := by simp; omega
      have HO : Hid (((seg ++ ⟨#[91]⟩) ++ dec o) ++ ⟨#[93]⟩ = seg ++ brk o) := app_brk h1 seg
      clear h1
      go_wp2_with fail
      refine (HDc.out _ o (Or.inl rfl) HB1.out).mono ?_
      rintro e w2 ⟨rfl, hb2⟩
      have HB2 : Hid (Below W.heap.size W w2) := hb2
      obtain ⟨k0, k1, k2, k3, k4, k5⟩ := HC.out w2 hb2
      clear hb2
      go_wp2_with fail
      go_meet
      exact ⟨congrArg Value.string HO.out, HB2⟩
  case rest =>
  obtain ⟨rfl, HBc⟩ := hcut
  obtain ⟨T1, hT1⟩ : ∃ T, seg ++ brk o = T := ⟨_, rfl⟩
  have t1s : T1.size ≤ 8 := by rw [← hT1, ByteArray.size_append]; have := HS.out; omega
  have HT1 : Hid (seg ++ brk o = T1) := hT1
  rw [hT1]
  clear hT1 c0 c1 c2 c3 c4 c5 HB1
  obtain ⟨c0, c1, c2, c3, c4, c5⟩ := HC.out wc HBc.out
  go_wp2_with fail
  refine (HDc.out _ f (Or.inr (Or.inl rfl)) HBc.out).mono ?_
  rintro e w3 ⟨rfl, hb3⟩
  have HB3 : Hid (Below W.heap.size W w3) := hb3
  obtain ⟨k0, k1, k2, k3, k4, k5⟩ := HC.out w3 hb3
  clear hb3
  clear c0 c1 c2 c3 c4 c5
  go_upto_if 31 with fail
  have HT2 : Hid (((T1 ++ ⟨#[45]⟩) ++ dec f).size ≤ 12) := by
    unfold Hid; rw [ByteArray.size_append, ByteArray.size_append]; show T1.size + 1 + (dec f).size ≤ 12; omega
  obtain ⟨T2, hT2⟩ : ∃ T, (T1 ++ ⟨#[45]⟩) ++ dec f = T := ⟨_, rfl⟩
  have HT2d : Hid ((T1 ++ ⟨#[45]⟩) ++ dec f = T2) := hT2
  have t2s : T2.size ≤ 12 := by rw [← hT2]; exact HT2.out
  rw [hT2]
  clear hT2
  go_cut [5] from 6 (fun s5 wx => s5 = .string (T2 ++ brk r) ∧ Hid (Below W.heap.size W wx))
  case first =>
    by_cases h1 : r = 1
    · have n1 : ((r : Int) != 1) = false := by simp [h1]
      have HO : Hid (T2 = T2 ++ brk r) := by unfold Hid; rw [h1]; exact app_one T2
      clear h1
      go_wp2_with fail
      go_meet
      exact ⟨congrArg Value.string HO.out, HB3⟩
    · have n1 : ((r : Int) != 1) = true := by simp; omega
      have HO : Hid (((T2 ++ ⟨#[91]⟩) ++ dec r) ++ ⟨#[93]⟩ = T2 ++ brk r) := app_brk h1 T2
      clear h1
      go_wp2_with fail
      refine (HDc.out _ r (Or.inr (Or.inr (Or.inl rfl))) HB3.out).mono ?_
      rintro e w4 ⟨rfl, hb4⟩
      have HB4 : Hid (Below W.heap.size W w4) := hb4
      obtain ⟨k0, k1, k2, k3, k4, k5⟩ := HC.out w4 hb4
      clear hb4
      go_wp2_with fail
      go_meet
      exact ⟨congrArg Value.string HO.out, HB4⟩
  case rest =>
  obtain ⟨rfl, HBd⟩ := hcut
  clear k0 k1 k2 k3 k4 k5
  have HT3 : Hid (txt0 seg o f r = T2 ++ brk r) := by unfold Hid txt0; rw [HT1.out, HT2d.out]
  obtain ⟨T, hT⟩ : ∃ T, T2 ++ brk r = T := ⟨_, rfl⟩
  have hts : T.size ≤ 20 := by rw [← hT, ByteArray.size_append]; have := HS.out; omega
  rw [hT] at HT3
  rw [hT]
  have HT : Hid (txt seg o f r c b = txt2 (txt1 T c b) b) := by unfold Hid txt; rw [HT3.out]
  clear hT
  obtain ⟨k0, k1, k2, k3, k4, k5⟩ := HC.out wc HBd.out
  by_cases hc1 : c = 1
  · have g1 : ((c : Int) != 1) = false := by simp [hc1]
    have HC1 : Hid (c = 1) := hc1
    by_cases hb1 : b = 1
    · have g2 : ((b : Int) != 1) = false := by simp [hb1]
      have HB1' : Hid (b = 1) := hb1
      clear hc1 hb1
      go_wp2_with fail
      go_ret2
      refine ⟨?_, HBW.out.1.trans (HBd.out.mono (Nat.le_of_lt HBW.out.2))⟩
      rw [HT.out]
      have hc1 := HC1.out
      have hb1 := HB1'.out
      unfold txt1 txt2
      rw [if_neg (show ¬ (1 < c ∨ 1 < b) by omega), if_neg (show ¬ 1 < b by omega)]
      rfl
    · have g2 : ((b : Int) != 1) = true := by simp; omega
      have HB1' : Hid (¬ b = 1) := hb1
      clear hc1 hb1
      go_wp2_with fail
      refine (HDc.out _ c (Or.inr (Or.inr (Or.inr (Or.inl rfl)))) HBd.out).mono ?_
      rintro e w6 ⟨rfl, hb6⟩
      have HB6 : Hid (Below W.heap.size W w6) := hb6
      obtain ⟨k0, k1, k2, k3, k4, k5⟩ := HC.out w6 hb6
      clear hb6
      go_wp2_with fail
      refine (HDc.out _ b (Or.inr (Or.inr (Or.inr (Or.inr rfl)))) HB6.out).mono ?_
      rintro e w7 ⟨rfl, hb7⟩
      have HB7 : Hid (Below W.heap.size W w7) := hb7
      obtain ⟨k0, k1, k2, k3, k4, k5⟩ := HC.out w7 hb7
      clear hb7
      go_wp2_with fail
      go_ret2
      refine ⟨?_, HBW.out.1.trans (HB7.out.mono (Nat.le_of_lt HBW.out.2))⟩
      rw [HT.out]
      have hc1 := HC1.out
      have hb1 := HB1'.out
      have hcb' := hcb.out
      unfold txt1 txt2
      rw [if_pos (show 1 < c ∨ 1 < b by omega), if_pos (show 1 < b by omega), ← app_dot, ← app_dot]
      rfl
  · have g1 : ((c : Int) != 1) = true := by simp; omega
    have HC1 : Hid (¬ c = 1) := hc1
    by_cases hb1 : b = 1
    · have g2 : ((b : Int) != 1) = false := by simp [hb1]
      have HB1' : Hid (b = 1) := hb1
      clear hc1 hb1
      go_wp2_with fail
      refine (HDc.out _ c (Or.inr (Or.inr (Or.inr (Or.inl rfl)))) HBd.out).mono ?_
      rintro e w6 ⟨rfl, hb6⟩
      have HB6 : Hid (Below W.heap.size W w6) := hb6
      obtain ⟨k0, k1, k2, k3, k4, k5⟩ := HC.out w6 hb6
      clear hb6
      go_wp2_with fail
      go_ret2
      refine ⟨?_, HBW.out.1.trans (HB6.out.mono (Nat.le_of_lt HBW.out.2))⟩
      rw [HT.out]
      have hc1 := HC1.out
      have hb1 := HB1'.out
      have hcb' := hcb.out
      unfold txt1 txt2
      rw [if_pos (show 1 < c ∨ 1 < b by omega), if_neg (show ¬ 1 < b by omega), ← app_dot]
      rfl
    · have g2 : ((b : Int) != 1) = true := by simp; omega
      have HB1' : Hid (¬ b = 1) := hb1
      clear hc1 hb1
      go_wp2_with fail
      refine (HDc.out _ c (Or.inr (Or.inr (Or.inr (Or.inl rfl)))) HBd.out).mono ?_
      rintro e w6 ⟨rfl, hb6⟩
      have HB6 : Hid (Below W.heap.size W w6) := hb6
      obtain ⟨k0, k1, k2, k3, k4, k5⟩ := HC.out w6 hb6
      clear hb6
      go_wp2_with fail
      refine (HDc.out _ b (Or.inr (Or.inr (Or.inr (Or.inr rfl)))) HB6.out).mono ?_
      rintro e w7 ⟨rfl, hb7⟩
      have HB7 : Hid (Below W.heap.size W w7) := hb7
      obtain ⟨k0, k1, k2, k3, k4, k5⟩ := HC.out w7 hb7
      clear hb7
      go_wp2_with fail
      go_ret2
      refine ⟨?_, HBW.out.1.trans (HB7.out.mono (Nat.le_of_lt HBW.out.2))⟩
      rw [HT.out]
      have hc1 := HC1.out
      have hb1 := HB1'.out
      have hcb' := hcb.out
      unfold txt1 txt2
      rw [if_pos (show 1 < c ∨ 1 < b by omega), if_pos (show 1 < b by omega), ← app_dot, ← app_dot]
      rfl
set_option maxRecDepth 100000 in
set_option maxHeartbeats 2000000 in
theorem refused_code (b g : Nat) (a cd : Int) (w : World) (hE : ErrType w) (hF : PFault w b a cd) (h0 : w.cell? ⟨g, 0, none⟩ = some (.string ⟨#[112, 97, 116, 104]⟩)) (h1 : w.cell? ⟨g, 1, none⟩ = some (.int .i64 a)) (h2 : w.cell? ⟨g, 2, none⟩ = some (.int .i64 cd)) :
    Calls Tryd.prog 6 #[.iface 43 (.pointer (some ⟨b, 0, none⟩)), .slice (some ⟨g, 0, none⟩) 1 1] w fun e w' => e = .returned (.bool true) ∧ Below w.heap.size w w' := by
  have HE : Hid (ErrType w) := hE
  have HF : Hid (PFault w b a cd) := hF
  have hg : g < w.heap.size := cell_lt h0
  have HL : Hid (w.cell? ⟨g, 0, none⟩ = some (.string ⟨#[112, 97, 116, 104]⟩) ∧ w.cell? ⟨g, 1, none⟩ = some (.int .i64 a) ∧ w.cell? ⟨g, 2, none⟩ = some (.int .i64 cd)) := ⟨h0, h1, h2⟩
  clear hE hF h0 h1 h2
  go_enter Tryd.func6, Tryd.ntmps6
  go_wp2_with fail
  refine (chain_one b a cd _ HE.out HF.out).mono ?_
  rintro e w1 ⟨G, c, rfl, c0, c1, c2, hb⟩
  have d0 : w1.cell? ⟨g, 0, none⟩ = some (.string ⟨#[112, 97, 116, 104]⟩) := (hb.cell (p := ⟨g, 0, none⟩) hg).trans HL.out.1
  have d1 : w1.cell? ⟨g, 1, none⟩ = some (.int .i64 a) := (hb.cell (p := ⟨g, 1, none⟩) hg).trans HL.out.2.1
  have d2 : w1.cell? ⟨g, 2, none⟩ = some (.int .i64 cd) := (hb.cell (p := ⟨g, 2, none⟩) hg).trans HL.out.2.2
  have HF1 : Hid (PFault w1 b a cd) := HF.out.below hb
  have HB : Hid (Below w.heap.size w w1) := hb
  clear hb HF HL HE
  go_wp2_with fail
  refine wp_loop_rounds 2 ?_
  rw [rounds_succ]
  go_wp2_with fail
  go_quiet (fail)
  go_wp2_with fail
  rw [rounds_succ]
  go_wp2_with fail
  have HF2 : Hid (PFault (w1.drewN nq) b a cd) := HF1.out.below (below_drewN (Below.refl _ _) _)
  refine (is_code _ _ _ HF2.out.2.2.1 HF2.out.2.2.2).mono ?_
  rintro e w2 ⟨rfl, rfl⟩
  go_wp2_with fail
  go_ret
  exact ⟨rfl, below_drewN HB.out _⟩
set_option maxRecDepth 100000 in
set_option maxHeartbeats 4000000 in
theorem prints_law (seg : ByteArray) (o f r c b : Int) (w : World) (hP : Pow w) (hE : ErrType w) : Calls Tryd.prog 3 #[.agg #[.string seg, .int .i64 o, .int .i64 f, .int .i64 r, .int .i64 c, .int .i64 b]] w fun e w' => e = .returned (.bool true) ∧ Below w.heap.size w w' := by
  have HP : Hid (∀ y, Below w.heap.size w y → Pow y) := fun y hy => hP.below hy
  have HE : Hid (ErrType w) := hE
  clear hP hE
  cases hr : rgt seg o f r c b with
  | true =>
    obtain ⟨h3, ho, hf, hrr, hc, hb⟩ := rgt_bd hr
    obtain ⟨no, rfl⟩ := Int.eq_ofNat_of_zero_le (show 0 ≤ o by omega)
    obtain ⟨nf, rfl⟩ := Int.eq_ofNat_of_zero_le (show 0 ≤ f by omega)
    obtain ⟨nr, rfl⟩ := Int.eq_ofNat_of_zero_le (show 0 ≤ r by omega)
    obtain ⟨nc, rfl⟩ := Int.eq_ofNat_of_zero_le (show 0 ≤ c by omega)
    obtain ⟨nb, rfl⟩ := Int.eq_ofNat_of_zero_le (show 0 ≤ b by omega)
    have HR : Hid (rgt seg (no : Int) nf nr nc nb = true) := hr
    clear hr h3 ho hf hrr hc hb
    go_enter Tryd.func3, Tryd.ntmps3
    go_wp2_with fail
    refine (Print_ok seg no nf nr nc nb _ (HP.out _ ((Below.refl _ _).alloc (Nat.le_refl _) _)) HR.out).mono ?_
    rintro e w1 ⟨rfl, hb1⟩
    have HB1 : Hid (Below w.heap.size w w1) := below_then ((Below.refl _ _).alloc (Nat.le_refl _) _) hb1
    have hl : w.heap.size < (w.alloc (.cells #[.string seg, .int .i64 (no : Int), .int .i64 (nf : Int), .int .i64 (nr : Int), .int .i64 (nc : Int), .int .i64 (nb : Int)] 23)).heap.size := by simp
    have z0 : w1.cell? ⟨w.heap.size, 0, none⟩ = some (.string seg) := (hb1.cell (p := ⟨w.heap.size, 0, none⟩) hl).trans (by simp)
    have z1 : w1.cell? ⟨w.heap.size, 1, none⟩ = some (.int .i64 (no : Int)) := (hb1.cell (p := ⟨w.heap.size, 1, none⟩) hl).trans (by simp)
    have z2 : w1.cell? ⟨w.heap.size, 2, none⟩ = some (.int .i64 (nf : Int)) := (hb1.cell (p := ⟨w.heap.size, 2, none⟩) hl).trans (by simp)
    have z3 : w1.cell? ⟨w.heap.size, 3, none⟩ = some (.int .i64 (nr : Int)) := (hb1.cell (p := ⟨w.heap.size, 3, none⟩) hl).trans (by simp)
    have z4 : w1.cell? ⟨w.heap.size, 4, none⟩ = some (.int .i64 (nc : Int)) := (hb1.cell (p := ⟨w.heap.size, 4, none⟩) hl).trans (by simp)
    have z5 : w1.cell? ⟨w.heap.size, 5, none⟩ = some (.int .i64 (nb : Int)) := (hb1.cell (p := ⟨w.heap.size, 5, none⟩) hl).trans (by simp)
    clear hb1 hl
    obtain ⟨T, hT⟩ : ∃ T, txt seg no nf nr nc nb = T := ⟨_, rfl⟩
    have HT : Hid (txt seg no nf nr nc nb = T) := hT
    rw [hT]
    clear hT
    go_wp2_with fail
    refine (RPrint_ok seg no nf nr nc nb _ HR.out).mono ?_
    rintro e w2 ⟨he, hb2⟩
    rw [HT.out] at he
    subst he
    have HB2 : Hid (Below w.heap.size w w2) := below_then HB1.out hb2
    clear hb2
    go_wp2_with fail
    refine (refused_nil _).mono ?_
    rintro e w3 ⟨rfl, rfl⟩
    go_wp2_with fail
    go_ret
    exact ⟨rfl, HB2.out⟩
  | false =>
    have HR : Hid (rgt seg o f r c b = false) := hr
    clear hr
    go_enter Tryd.func3, Tryd.ntmps3
    go_wp2_with fail
    refine (Print_no seg o f r c b _ HR.out).mono ?_
    rintro e w1 ⟨b1, rfl, hF, hb1⟩
    have HB1 : Hid (Below w.heap.size w w1) := below_then ((Below.refl _ _).alloc (Nat.le_refl _) _) hb1
    have HF : Hid (PFault w1 b1 0 140) := hF
    have hl : w.heap.size < (w.alloc (.cells #[.string seg, .int .i64 o, .int .i64 f, .int .i64 r, .int .i64 c, .int .i64 b] 23)).heap.size := by simp
    have z0 : w1.cell? ⟨w.heap.size, 0, none⟩ = some (.string seg) := (hb1.cell (p := ⟨w.heap.size, 0, none⟩) hl).trans (by simp)
    have z1 : w1.cell? ⟨w.heap.size, 1, none⟩ = some (.int .i64 o) := (hb1.cell (p := ⟨w.heap.size, 1, none⟩) hl).trans (by simp)
    have z2 : w1.cell? ⟨w.heap.size, 2, none⟩ = some (.int .i64 f) := (hb1.cell (p := ⟨w.heap.size, 2, none⟩) hl).trans (by simp)
    have z3 : w1.cell? ⟨w.heap.size, 3, none⟩ = some (.int .i64 r) := (hb1.cell (p := ⟨w.heap.size, 3, none⟩) hl).trans (by simp)
    have z4 : w1.cell? ⟨w.heap.size, 4, none⟩ = some (.int .i64 c) := (hb1.cell (p := ⟨w.heap.size, 4, none⟩) hl).trans (by simp)
    have z5 : w1.cell? ⟨w.heap.size, 5, none⟩ = some (.int .i64 b) := (hb1.cell (p := ⟨w.heap.size, 5, none⟩) hl).trans (by simp)
    clear hb1 hl hF
    go_wp2_with fail
    refine (RPrint_no seg o f r c b _ HR.out).mono ?_
    rintro e w2 ⟨b2, rfl, hL, hb2⟩
    have HB2 : Hid (Below w.heap.size w w2) := below_then HB1.out hb2
    have HF2 : Hid (PFault w2 b1 0 140) := HF.out.below hb2
    have HL : Hid (w2.cell? ⟨b2, 0, none⟩ = some (.string ⟨#[112, 97, 116, 104]⟩) ∧ w2.cell? ⟨b2, 1, none⟩ = some (.int .i64 0) ∧ w2.cell? ⟨b2, 2, none⟩ = some (.int .i64 140)) := hL
    clear hb2 hL
    go_wp2_with fail
    refine (refused_code b1 b2 0 140 _ (errType_below HE.out HB2.out) HF2.out HL.out.1 HL.out.2.1 HL.out.2.2).mono ?_
    rintro e w3 ⟨rfl, hb3⟩
    have HB3 : Hid (Below w.heap.size w w3) := below_then HB2.out hb3
    clear hb3
    go_wp2_with fail
    go_ret
    exact ⟨rfl, HB3.out⟩
end Go.Proofs.YtiihdhajmcfhaaaDoor
