/-
  path.Print and the document's Print; the law PathPrints.
-/
import Derived.Test.YtiihdhajmcfhaaaDoorPDec
import Derived.Deep.RegionHeld3
import Derived.Deep.DeepCutAuto
import Derived.Laws.Concat
namespace Go.Proofs.YtiihdhajmcfhaaaDoor
open Go.RowKit

/-- The text of a right place. -/
def txt0 (seg : ByteArray) (o f r : Nat) : ByteArray := (((seg ++ brk o) ++ ⟨#[45]⟩) ++ dec f) ++ brk r
def txt1 (t : ByteArray) (c b : Nat) : ByteArray := if 1 < c ∨ 1 < b then t ++ ((⟨#[46]⟩ : ByteArray) ++ dec c) else t
def txt2 (t : ByteArray) (b : Nat) : ByteArray := if 1 < b then t ++ ((⟨#[46]⟩ : ByteArray) ++ dec b) else t
def txt (seg : ByteArray) (o f r c b : Nat) : ByteArray := txt2 (txt1 (txt0 seg o f r) c b) b
theorem rgt_bd {seg : ByteArray} {o f r c b : Int} (h : rgt seg o f r c b = true) : seg.size = 3 ∧ (1 ≤ o ∧ o ≤ 128) ∧ (1 ≤ f ∧ f ≤ 66) ∧ (1 ≤ r ∧ r ≤ 32) ∧ (1 ≤ c ∧ c ≤ 32) ∧ (1 ≤ b ∧ b ≤ 16) := by
  unfold rgt at h
  simp only [Bool.and_eq_true, inR_iff] at h
  have h3 : seg.size = 3 := by
    have := h.2.1.1.1.1.1
    unfold isN at this
    simp only [Bool.and_eq_true, decide_eq_true_eq] at this
    exact this.1
  have hf : f ≤ 66 := by have := h.2.1.1.1.2.2; split at this <;> omega
  exact ⟨h3, h.2.1.1.1.1.2, ⟨h.2.1.1.1.2.1, hf⟩, h.2.1.1.2, h.2.1.2, h.2.2⟩
set_option maxRecDepth 100000 in
set_option maxHeartbeats 4000000 in
theorem Print_ok (seg : ByteArray) (o f r c b : Nat) (w : World) (hP : Pow w) (hr : rgt seg (o : Int) f r c b = true) : Calls Tryd.prog 4 #[.agg #[.string seg, .int .i64 (o : Int), .int .i64 (f : Int), .int .i64 (r : Int), .int .i64 (c : Int), .int .i64 (b : Int)]] w fun e w' => e = .returned (.tuple #[.string (txt seg o f r c b), .nilIface]) ∧ Below w.heap.size w w' := by
  obtain ⟨h3, ho, hf, hrr, hc, hb⟩ := rgt_bd hr
  have HRg : Hid (rgt seg (o : Int) f r c b = true) := hr
  obtain ⟨W, hW⟩ : ∃ W, w.alloc (.cells #[.string seg, .int .i64 (o : Int), .int .i64 (f : Int), .int .i64 (r : Int), .int .i64 (c : Int), .int .i64 (b : Int)] 23) = W := ⟨_, rfl⟩
  have HWd : Hid (w.alloc (.cells #[.string seg, .int .i64 (o : Int), .int .i64 (f : Int), .int .i64 (r : Int), .int .i64 (c : Int), .int .i64 (b : Int)] 23) = W) := hW
  have hbW : Below w.heap.size w W := by rw [← hW]; exact (Below.refl _ _).alloc (Nat.le_refl _) _
  have HBW : Hid (Below w.heap.size w W ∧ w.heap.size < W.heap.size) := ⟨hbW, by rw [← hW]; simp⟩
  have HC : Hid (∀ y, Below W.heap.size W y → y.cell? ⟨w.heap.size, 0, none⟩ = some (.string seg) ∧ y.cell? ⟨w.heap.size, 1, none⟩ = some (.int .i64 (o : Int)) ∧ y.cell? ⟨w.heap.size, 2, none⟩ = some (.int .i64 (f : Int)) ∧ y.cell? ⟨w.heap.size, 3, none⟩ = some (.int .i64 (r : Int)) ∧ y.cell? ⟨w.heap.size, 4, none⟩ = some (.int .i64 (c : Int)) ∧ y.cell? ⟨w.heap.size, 5, none⟩ = some (.int .i64 (b : Int))) := fun y hy => by
    have hl : w.heap.size < W.heap.size := HBW.out.2
    refine ⟨(hy.cell (p := ⟨w.heap.size, 0, none⟩) hl).trans ?_, (hy.cell (p := ⟨w.heap.size, 1, none⟩) hl).trans ?_, (hy.cell (p := ⟨w.heap.size, 2, none⟩) hl).trans ?_, (hy.cell (p := ⟨w.heap.size, 3, none⟩) hl).trans ?_, (hy.cell (p := ⟨w.heap.size, 4, none⟩) hl).trans ?_, (hy.cell (p := ⟨w.heap.size, 5, none⟩) hl).trans ?_⟩ <;> (rw [← hW]; simp)
  have hPW : ∀ y, Below W.heap.size W y → Pow y := fun y hy => (hP.below hbW).below hy
  have HBk : Hid (∀ y (n : Nat), n = o ∨ n = r → Below W.heap.size W y → Calls Tryd.prog 9 #[.int .i64 (n : Int)] y fun e w' => e = .returned (.string (brk n)) ∧ Below W.heap.size W w' ∧ w'.cell? ⟨w.heap.size, 0, none⟩ = some (.string seg) ∧ w'.cell? ⟨w.heap.size, 1, none⟩ = some (.int .i64 (o : Int)) ∧ w'.cell? ⟨w.heap.size, 2, none⟩ = some (.int .i64 (f : Int)) ∧ w'.cell? ⟨w.heap.size, 3, none⟩ = some (.int .i64 (r : Int))) := fun y n hn hy =>
    (bracketed_ok n y (by omega) (hPW y hy)).mono fun e w' ⟨he, hb'⟩ => by
      have hc' := HC.out w' (below_then hy hb')
      exact ⟨he, below_then hy hb', hc'.1, hc'.2.1, hc'.2.2.1, hc'.2.2.2.1⟩
  have HIt : Hid (∀ y (n : Nat), n = f ∨ n = c ∨ n = b → Below W.heap.size W y → Calls Tryd.prog 10 #[.int .i64 (n : Int)] y fun e w' => e = .returned (.string (dec n)) ∧ Below W.heap.size W w' ∧ w'.cell? ⟨w.heap.size, 0, none⟩ = some (.string seg) ∧ w'.cell? ⟨w.heap.size, 1, none⟩ = some (.int .i64 (o : Int)) ∧ w'.cell? ⟨w.heap.size, 2, none⟩ = some (.int .i64 (f : Int)) ∧ w'.cell? ⟨w.heap.size, 3, none⟩ = some (.int .i64 (r : Int))) := fun y n hn hy =>
    (itoa_ok n y (by omega) (hPW y hy)).mono fun e w' ⟨he, hb'⟩ => by
      have hc' := HC.out w' (below_then hy hb')
      exact ⟨he, below_then hy hb', hc'.1, hc'.2.1, hc'.2.2.1, hc'.2.2.2.1⟩
  have s1 := brk_size (n := o) (by omega)
  have s2 := brk_size (n := r) (by omega)
  have s3 := dec_size (n := f) (by omega)
  have s4 := dec_size (n := c) (by omega)
  have s5 := dec_size (n := b) (by omega)
  have HT : Hid (∀ T0, txt0 seg o f r = T0 → txt seg o f r c b = txt2 (txt1 T0 c b) b) := fun T0 h => by unfold txt; rw [h]
  have HT0 : Hid (txt0 seg o f r = (((seg ++ brk o) ++ ⟨#[45]⟩) ++ dec f) ++ brk r) := rfl
  have hcb : Hid ((1 ≤ c ∧ c ≤ 32) ∧ (1 ≤ b ∧ b ≤ 16)) := ⟨by omega, by omega⟩
  clear hr hP hPW hbW hW ho hf hrr hc hb
  go_enter Tryd.func4, Tryd.ntmps4
  go_wp2_with fail
  refine (right_any seg o f r c b _).mono ?_
  rintro e w1 ⟨he, hb1⟩
  rw [HRg.out] at he
  subst he
  rw [HWd.out] at hb1
  have HB1 : Hid (Below W.heap.size W w1) := hb1
  obtain ⟨c0, c1, c2, c3, c4, c5⟩ := HC.out w1 hb1
  have hB1 : Below W.heap.size W w1 := HB1.out
  clear hb1
  go_wp2_with fail
  have q1 : ¬ (9223372036854775807 : Int) < (seg.size : Int) + ((brk o).size : Int) := by omega
  have q2 : ¬ (9223372036854775807 : Int) < ((seg ++ brk o).size : Int) + ((⟨#[45]⟩ : ByteArray).size : Int) := by
    rw [ByteArray.size_append]; show ¬ (9223372036854775807 : Int) < ((seg.size + (brk o).size : Nat) : Int) + 1; omega
  have q3 : ¬ (9223372036854775807 : Int) < (((seg ++ brk o) ++ ⟨#[45]⟩).size : Int) + ((dec f).size : Int) := by
    rw [ByteArray.size_append, ByteArray.size_append]; show ¬ (9223372036854775807 : Int) < ((seg.size + (brk o).size + 1 : Nat) : Int) + _; omega
  have q4 : ¬ (9223372036854775807 : Int) < ((((seg ++ brk o) ++ ⟨#[45]⟩) ++ dec f).size : Int) + ((brk r).size : Int) := by
    rw [ByteArray.size_append, ByteArray.size_append, ByteArray.size_append]; show ¬ (9223372036854775807 : Int) < ((seg.size + (brk o).size + 1 + (dec f).size : Nat) : Int) + _; omega
  have a1 : ∀ w, (Op.stringOp .add seg (brk o)).run Tryd.prog w = .ok (.string (seg ++ brk o)) w := fun w => run_string_add_sum w _ _ (by omega)
  have a2 : ∀ w, (Op.stringOp .add (seg ++ brk o) ⟨#[45]⟩).run Tryd.prog w = .ok (.string ((seg ++ brk o) ++ ⟨#[45]⟩)) w := fun w => run_string_add_sum w _ _ (by omega)
  have a3 : ∀ w, (Op.stringOp .add ((seg ++ brk o) ++ ⟨#[45]⟩) (dec f)).run Tryd.prog w = .ok (.string (((seg ++ brk o) ++ ⟨#[45]⟩) ++ dec f)) w := fun w => run_string_add_sum w _ _ (by omega)
  have a4 : ∀ w, (Op.stringOp .add (((seg ++ brk o) ++ ⟨#[45]⟩) ++ dec f) (brk r)).run Tryd.prog w = .ok (.string ((((seg ++ brk o) ++ ⟨#[45]⟩) ++ dec f) ++ brk r)) w := fun w => run_string_add_sum w _ _ (by omega)
  go_cut [4] from 5 (fun s4 wx => s4 = .string ((((seg ++ brk o) ++ ⟨#[45]⟩) ++ dec f) ++ brk r) ∧ Hid (Below W.heap.size W wx))
  case first =>
    go_region_held3 (fun x => x.cell? ⟨w.heap.size, 0, none⟩ = some (.string seg) ∧ x.cell? ⟨w.heap.size, 1, none⟩ = some (.int .i64 (o : Int)) ∧ x.cell? ⟨w.heap.size, 2, none⟩ = some (.int .i64 (f : Int)) ∧ x.cell? ⟨w.heap.size, 3, none⟩ = some (.int .i64 (r : Int))) (simp [*]) (first | (go_at_call 9; refine (HBk.out _ _ ?_ ?_).mono ?_; (first | exact Or.inl rfl | exact Or.inr rfl); (first | assumption | exact Below.drew (by assumption)); rintro e wx ⟨rfl, hx1, hx2, hx3, hx4, hx5⟩) | (go_at_call 10; refine (HIt.out _ _ ?_ ?_).mono ?_; (exact Or.inl rfl); (first | assumption | exact Below.drew (by assumption)); rintro e wy ⟨rfl, hy1, hy2, hy3, hy4, hy5⟩))
    all_goals (go_wp2_with fail; go_meet; exact ⟨rfl, by first | assumption | exact Below.drew (by assumption)⟩)
  case rest =>
  obtain ⟨rfl, HBc⟩ := hcut
  obtain ⟨T, hT⟩ : ∃ T, ((((seg ++ brk o) ++ ⟨#[45]⟩) ++ dec f) ++ brk r) = T := ⟨_, rfl⟩
  have hts : T.size ≤ 30 := by
    rw [← hT]; simp only [ByteArray.size_append]; show seg.size + (brk o).size + 1 + (dec f).size + (brk r).size ≤ 30; omega
  have HTd : Hid (txt0 seg o f r = T) := hT
  rw [hT]
  obtain ⟨_, _, _, _, d4, d5⟩ := HC.out wc HBc.out
  clear hT q1 q2 q3 q4 a1 a2 a3 a4 c0 c1 c2 c3 c4 c5
  by_cases hc1 : 1 < c
  · have g1 : (1 : Int) < c := by omega
    have f1 : decide ((1 : Int) < c) = true := decide_eq_true g1
    go_wp2_with fail
    refine (HIt.out _ c (Or.inr (Or.inl rfl)) HBc.out).mono ?_
    rintro e w2 ⟨rfl, hb2, _⟩
    have HB2 : Hid (Below W.heap.size W w2) := hb2
    obtain ⟨_, _, _, _, d4, d5⟩ := HC.out w2 hb2
    clear hb2
    by_cases hb1 : 1 < b
    · have g2 : (1 : Int) < b := by omega
      have f2 : decide ((1 : Int) < b) = true := decide_eq_true g2
      go_wp2_with fail
      refine (HIt.out _ b (Or.inr (Or.inr rfl)) HB2.out).mono ?_
      rintro e w3 ⟨rfl, hb3, _⟩
      have HB3 : Hid (Below W.heap.size W w3) := hb3
      obtain ⟨_, _, _, _, d4, d5⟩ := HC.out w3 hb3
      clear hb3
      go_wp2_with fail
      go_ret2
      refine ⟨?_, HBW.out.1.trans (HB3.out.mono (Nat.le_of_lt HBW.out.2))⟩
      rw [HT.out T HTd.out]
      unfold txt1 txt2
      rw [if_pos (Or.inl hc1), if_pos hb1]
      rfl
    · have g2 : ¬ (1 : Int) < b := by omega
      have f2 : decide ((1 : Int) < b) = false := decide_eq_false g2
      go_wp2_with fail
      go_ret2
      refine ⟨?_, HBW.out.1.trans (HB2.out.mono (Nat.le_of_lt HBW.out.2))⟩
      rw [HT.out T HTd.out]
      unfold txt1 txt2
      rw [if_pos (Or.inl hc1), if_neg hb1]
      rfl
  · have g1 : ¬ (1 : Int) < c := by omega
    have f1 : decide ((1 : Int) < c) = false := decide_eq_false g1
    by_cases hb1 : 1 < b
    · have g2 : (1 : Int) < b := by omega
      have f2 : decide ((1 : Int) < b) = true := decide_eq_true g2
      go_wp2_with fail
      refine (HIt.out _ c (Or.inr (Or.inl rfl)) HBc.out).mono ?_
      rintro e w2 ⟨rfl, hb2, _⟩
      have HB2 : Hid (Below W.heap.size W w2) := hb2
      obtain ⟨_, _, _, _, d4, d5⟩ := HC.out w2 hb2
      clear hb2
      go_wp2_with fail
      refine (HIt.out _ b (Or.inr (Or.inr rfl)) HB2.out).mono ?_
      rintro e w3 ⟨rfl, hb3, _⟩
      have HB3 : Hid (Below W.heap.size W w3) := hb3
      obtain ⟨_, _, _, _, d4, d5⟩ := HC.out w3 hb3
      clear hb3
      go_wp2_with fail
      go_ret2
      refine ⟨?_, HBW.out.1.trans (HB3.out.mono (Nat.le_of_lt HBW.out.2))⟩
      rw [HT.out T HTd.out]
      unfold txt1 txt2
      rw [if_pos (Or.inr hb1), if_pos hb1]
      rfl
    · have g2 : ¬ (1 : Int) < b := by omega
      have f2 : decide ((1 : Int) < b) = false := decide_eq_false g2
      go_wp2_with fail
      go_ret2
      refine ⟨?_, HBW.out.1.trans (HBc.out.mono (Nat.le_of_lt HBW.out.2))⟩
      rw [HT.out T HTd.out]
      unfold txt1 txt2
      rw [if_neg (show ¬ (1 < c ∨ 1 < b) by omega), if_neg hb1]
      rfl
set_option maxRecDepth 100000 in
set_option maxHeartbeats 1000000 in
theorem Print_no (seg : ByteArray) (o f r c b : Int) (w : World) (hr : rgt seg o f r c b = false) : Calls Tryd.prog 4 #[.agg #[.string seg, .int .i64 o, .int .i64 f, .int .i64 r, .int .i64 c, .int .i64 b]] w fun e w' => ∃ b', e = .returned (.tuple #[.string ⟨#[]⟩, .iface 43 (.pointer (some ⟨b', 0, none⟩))]) ∧ PFault w' b' 0 140 ∧ Below w.heap.size w w' := by
  have HRg : Hid (rgt seg o f r c b = false) := hr
  clear hr
  go_enter Tryd.func4, Tryd.ntmps4
  go_wp2_with fail
  refine (right_any seg o f r c b _).mono ?_
  rintro e w1 ⟨he, hb1⟩
  rw [HRg.out] at he
  subst he
  have HB1 : Hid (Below w.heap.size w w1) := below_then ((Below.refl _ _).alloc (Nat.le_refl _) _) hb1
  clear hb1
  go_wp2_with fail
  refine (pfault_any 0 140 _).mono ?_
  rintro e w2 ⟨rfl, hF, hb2⟩
  have HF : Hid (PFault w2 w1.heap.size 0 140 ∧ Below w.heap.size w w2) := ⟨hF, below_then HB1.out hb2⟩
  clear hF hb2
  go_wp2_with fail
  go_ret2
  exact ⟨_, rfl, HF.out.1, HF.out.2⟩
set_option maxRecDepth 100000 in
set_option maxHeartbeats 1000000 in
theorem RPrint_no (seg : ByteArray) (o f r c b : Int) (w : World) (hr : rgt seg o f r c b = false) : Calls Tryd.prog 5 #[.agg #[.string seg, .int .i64 o, .int .i64 f, .int .i64 r, .int .i64 c, .int .i64 b]] w fun e w' => ∃ b', e = .returned (.tuple #[.string ⟨#[]⟩, .slice (some ⟨b', 0, none⟩) 1 1]) ∧ (w'.cell? ⟨b', 0, none⟩ = some (.string ⟨#[112, 97, 116, 104]⟩) ∧ w'.cell? ⟨b', 1, none⟩ = some (.int .i64 0) ∧ w'.cell? ⟨b', 2, none⟩ = some (.int .i64 140)) ∧ Below w.heap.size w w' := by
  have HRg : Hid (rgt seg o f r c b = false) := hr
  clear hr
  go_enter Tryd.func5, Tryd.ntmps5
  go_wp2_with fail
  refine (Right_any seg o f r c b _).mono ?_
  rintro e w1 ⟨he, hb1⟩
  rw [HRg.out] at he
  subst he
  have HB1 : Hid (Below w.heap.size w w1) := below_then ((Below.refl _ _).alloc (Nat.le_refl _) _) hb1
  clear hb1
  go_wp2_with fail
  refine (rlink_any 0 140 _).mono ?_
  rintro e w2 ⟨rfl, rfl⟩
  go_wp2_with fail
  go_ret2
  exact ⟨_, rfl, ⟨by simp, by simp, by simp⟩, below_then HB1.out ((Below.refl _ _).alloc (Nat.le_refl _) _)⟩
end Go.Proofs.YtiihdhajmcfhaaaDoor
