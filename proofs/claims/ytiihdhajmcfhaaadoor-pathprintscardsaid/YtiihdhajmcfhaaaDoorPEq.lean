/-
  The document's reader and the program's come to the same place, or to the same fault.
-/
import Derived.Test.YtiihdhajmcfhaaaDoorPRState
namespace Go.Proofs.YtiihdhajmcfhaaaDoor
open Go.RowKit

/-- A state of the document's reader is what the program's reading came to. -/
def Rel (X : Except Nat St) (y : RS) : Prop := match X with
  | .ok x => y.bad = none ∧ y.a = x.a ∧ y.o = x.o ∧ y.f = x.f ∧ y.r = x.r ∧ y.c = x.c ∧ y.b = x.b
  | .error p => y.bad = some p
theorem inR_min {n : Nat} {m : Int} (h : m < 1000) : inR ((min n 1000 : Nat) : Int) m = inR (n : Int) m := by
  rw [Bool.eq_iff_iff]; simp only [inR_iff]; omega
theorem one_min (n : Nat) : decide (((min n 1000 : Nat) : Int) = 1) = decide ((n : Int) = 1) := by
  rw [Bool.eq_iff_iff]; simp only [decide_eq_true_eq]; omega
theorem two_min (n : Nat) : decide (((min n 1000 : Nat) : Int) ≤ 2) = decide ((n : Int) ≤ 2) := by
  rw [Bool.eq_iff_iff]; simp only [decide_eq_true_eq]; omega
theorem ite_lt (seg : ByteArray) : (if seg = MSHb then (66 : Int) else 64) < 1000 := by split <;> omega
theorem rgt_o {seg : ByteArray} {n : Nat} {f r c b : Int} : rgt seg ((min n 1000 : Nat) : Int) f r c b = rgt seg (n : Int) f r c b := by
  unfold rgt; rw [inR_min (by omega), one_min]
theorem rgt_f {seg : ByteArray} {n : Nat} {o r c b : Int} : rgt seg o ((min n 1000 : Nat) : Int) r c b = rgt seg o (n : Int) r c b := by
  unfold rgt; rw [inR_min (ite_lt seg), two_min]
theorem rgt_r {seg : ByteArray} {n : Nat} {o f c b : Int} : rgt seg o f ((min n 1000 : Nat) : Int) c b = rgt seg o f (n : Int) c b := by
  unfold rgt; rw [inR_min (by omega), one_min]
theorem rgt_c {seg : ByteArray} {n : Nat} {o f r b : Int} : rgt seg o f r ((min n 1000 : Nat) : Int) b = rgt seg o f r (n : Int) b := by
  unfold rgt; rw [inR_min (by omega), one_min]
theorem rgt_b {seg : ByteArray} {n : Nat} {o f r c : Int} : rgt seg o f r c ((min n 1000 : Nat) : Int) = rgt seg o f r c (n : Int) := by
  unfold rgt; rw [inR_min (by omega), one_min]
/-- A right place's numbers are small. -/
theorem rgt_small {seg : ByteArray} {o f r c b : Int} (h : rgt seg o f r c b = true) : o < 1000 ∧ f < 1000 ∧ r < 1000 ∧ c < 1000 ∧ b < 1000 := by
  unfold rgt at h
  simp only [Bool.and_eq_true, inR_iff] at h
  have := ite_lt seg
  omega
/-- The field's number does not count yet, be it 1 or 3. -/
theorem rgt_13 {seg : ByteArray} {o : Int} : rgt seg o 3 1 1 1 = rgt seg o 1 1 1 1 := by
  have h1 : inR 3 (if seg = MSHb then 66 else 64) = true := inR_iff.2 (by split <;> omega)
  have h2 : inR 1 (if seg = MSHb then 66 else 64) = true := inR_iff.2 (by split <;> omega)
  unfold rgt; rw [h1, h2]; simp
theorem rel_bad {p : Nat} {y : RS} (h : y.bad = some p) (s seg : ByteArray) (put : RS → Int → RS) : (nums s seg put y).bad = some p := by
  unfold nums; rw [h]; rfl
theorem mst_bad {p : Nat} {y : RS} (h : y.bad = some p) (s : ByteArray) (ch : Nat) : (mst s ch y).bad = some p := by
  unfold mst; rw [h]; rfl
theorem isQ_bad {p : Nat} {y : RS} (h : y.bad = some p) (s : ByteArray) (ch : Nat) : isQ s ch y.a y.bad = false := by
  rw [h]; rfl
theorem rel_must {s : ByteArray} {ch : Nat} {x : St} {y : RS} (h : Rel (.ok x) y) : Rel (mustS s ch x) (mst s ch y) := by
  obtain ⟨h1, h2, h3⟩ := h
  unfold mustS
  by_cases g : bt s x.a = ch
  · rw [if_pos g]
    refine ⟨?_, ?_, h3⟩
    · simp only [mst, mstB, h1, h2, if_pos g]
    · simp only [mst, mstA, h1, h2, if_pos g]
  · rw [if_neg g]
    show (mst s ch y).bad = some x.a
    simp only [mst, mstB, h1, h2, if_neg g]
theorem rel_adv {s : ByteArray} {ch : Nat} {x : St} {y : RS} (h : Rel (.ok x) y) (g : bt s x.a = ch) : isQ s ch y.a y.bad = true ∧ Rel (.ok { x with a := x.a + 1 }) (adv s ch y) := by
  obtain ⟨h1, h2, h3⟩ := h
  have hq : isQ s ch y.a y.bad = true := by rw [h1, h2]; simp [isQ, g]
  refine ⟨hq, ?_, ?_, h3⟩
  · simp only [adv, h1]
  · show isA s ch y.a y.bad = x.a + 1
    unfold isA; rw [hq, if_pos rfl, h2]
theorem rel_stay {s : ByteArray} {ch : Nat} {x : St} {y : RS} (h : Rel (.ok x) y) (g : bt s x.a ≠ ch) : isQ s ch y.a y.bad = false := by
  rw [h.1, h.2.1]; simp [isQ, g]
/-- A number: what the two put is the same wherever the place is right. -/
theorem rel_num {s seg : ByteArray} {x : St} {y : RS} {put : St → Int → St} {qut : RS → Int → RS} (hb : y.bad = none) (ha : y.a = x.a)
    (hr : ∀ k, okN s x.a = true → (qut y (rv s x.a k : Nat)).rgt seg = (put { x with a := x.a + k } ((pv s x.a k : Nat) : Int)).rgt seg)
    (hp : ∀ k, (put { x with a := x.a + k } ((pv s x.a k : Nat) : Int)).rgt seg = true → (put { x with a := x.a + k } ((pv s x.a k : Nat) : Int)).a = x.a + k ∧ Rel (.ok (put { x with a := x.a + k } ((pv s x.a k : Nat) : Int))) { qut y (rv s x.a k : Nat) with a := x.a + k, bad := none }) :
    Rel (numS s seg put x) (nums s seg qut y) := by
  unfold numS
  cases hk : okN s x.a with
  | false =>
    rw [if_neg (by decide)]
    show (nums s seg qut y).bad = some x.a
    simp only [nums, hb, ha, nB, hk]; rfl
  | true =>
    rw [if_pos rfl]
    have e := hr (cnt s x.a) hk
    cases hq : (put { x with a := x.a + cnt s x.a } ((pv s x.a (cnt s x.a) : Nat) : Int)).rgt seg with
    | false =>
      rw [if_neg (by decide)]
      rw [hq] at e
      show (nums s seg qut y).bad = some x.a
      simp only [nums, hb, ha, nB, nN, hk, if_true, e]; rfl
    | true =>
      rw [if_pos rfl]
      rw [hq] at e
      have h := (hp _ hq).2
      have e1 : nums s seg qut y = { qut y (rv s x.a (cnt s x.a) : Nat) with a := x.a + cnt s x.a, bad := none } := by
        simp only [nums, hb, ha, nB, nN, nA, hk, if_true, e]; rfl
      rw [e1]; exact h
theorem num_O {s seg : ByteArray} {x : St} {y : RS} (h : Rel (.ok x) y) : Rel (numS s seg putO x) (nums s seg qutO y) := by
  obtain ⟨h1, h2, h3, h4, h5, h6, h7⟩ := h
  refine rel_num h1 h2 (fun k _ => ?_) (fun k hq => ⟨rfl, rfl, rfl, ?_, h4, h5, h6, h7⟩)
  · show rgt seg (rv s x.a k : Nat) y.f y.r y.c y.b = rgt seg ((pv s x.a k : Nat) : Int) x.f x.r x.c x.b
    rw [h4, h5, h6, h7]; exact rgt_o.symm
  · have := (rgt_small hq).1
    show ((rv s x.a k : Nat) : Int) = ((pv s x.a k : Nat) : Int)
    have h8 : ((pv s x.a k : Nat) : Int) < 1000 := this
    unfold pv at h8 ⊢; omega
theorem num_F {s seg : ByteArray} {x : St} {y : RS} (h : Rel (.ok x) y) : Rel (numS s seg putF x) (nums s seg qutF y) := by
  obtain ⟨h1, h2, h3, h4, h5, h6, h7⟩ := h
  refine rel_num h1 h2 (fun k _ => ?_) (fun k hq => ⟨rfl, rfl, rfl, h3, ?_, h5, h6, h7⟩)
  · show rgt seg y.o (rv s x.a k : Nat) y.r y.c y.b = rgt seg x.o ((pv s x.a k : Nat) : Int) x.r x.c x.b
    rw [h3, h5, h6, h7]; exact rgt_f.symm
  · have := (rgt_small hq).2.1
    show ((rv s x.a k : Nat) : Int) = ((pv s x.a k : Nat) : Int)
    have h8 : ((pv s x.a k : Nat) : Int) < 1000 := this
    unfold pv at h8 ⊢; omega
theorem num_R {s seg : ByteArray} {x : St} {y : RS} (h : Rel (.ok x) y) : Rel (numS s seg putR x) (nums s seg qutR y) := by
  obtain ⟨h1, h2, h3, h4, h5, h6, h7⟩ := h
  refine rel_num h1 h2 (fun k _ => ?_) (fun k hq => ⟨rfl, rfl, rfl, h3, h4, ?_, h6, h7⟩)
  · show rgt seg y.o y.f (rv s x.a k : Nat) y.c y.b = rgt seg x.o x.f ((pv s x.a k : Nat) : Int) x.c x.b
    rw [h3, h4, h6, h7]; exact rgt_r.symm
  · have := (rgt_small hq).2.2.1
    show ((rv s x.a k : Nat) : Int) = ((pv s x.a k : Nat) : Int)
    have h8 : ((pv s x.a k : Nat) : Int) < 1000 := this
    unfold pv at h8 ⊢; omega
theorem num_C {s seg : ByteArray} {x : St} {y : RS} (h : Rel (.ok x) y) : Rel (numS s seg putC x) (nums s seg qutC y) := by
  obtain ⟨h1, h2, h3, h4, h5, h6, h7⟩ := h
  refine rel_num h1 h2 (fun k _ => ?_) (fun k hq => ⟨rfl, rfl, rfl, h3, h4, h5, ?_, h7⟩)
  · show rgt seg y.o y.f y.r (rv s x.a k : Nat) y.b = rgt seg x.o x.f x.r ((pv s x.a k : Nat) : Int) x.b
    rw [h3, h4, h5, h7]; exact rgt_c.symm
  · have := (rgt_small hq).2.2.2.1
    show ((rv s x.a k : Nat) : Int) = ((pv s x.a k : Nat) : Int)
    have h8 : ((pv s x.a k : Nat) : Int) < 1000 := this
    unfold pv at h8 ⊢; omega
theorem num_B {s seg : ByteArray} {x : St} {y : RS} (h : Rel (.ok x) y) : Rel (numS s seg putB x) (nums s seg qutB y) := by
  obtain ⟨h1, h2, h3, h4, h5, h6, h7⟩ := h
  refine rel_num h1 h2 (fun k _ => ?_) (fun k hq => ⟨rfl, rfl, rfl, h3, h4, h5, h6, ?_⟩)
  · show rgt seg y.o y.f y.r y.c (rv s x.a k : Nat) = rgt seg x.o x.f x.r x.c ((pv s x.a k : Nat) : Int)
    rw [h3, h4, h5, h6]; exact rgt_b.symm
  · have := (rgt_small hq).2.2.2.2
    show ((rv s x.a k : Nat) : Int) = ((pv s x.a k : Nat) : Int)
    have h8 : ((pv s x.a k : Nat) : Int) < 1000 := this
    unfold pv at h8 ⊢; omega
theorem rel_br {s seg : ByteArray} {x : St} {y : RS} {put : St → Int → St} {qut : RS → Int → RS} (hn : ∀ {x : St} {y : RS}, Rel (.ok x) y → Rel (numS s seg put x) (nums s seg qut y)) (h : Rel (.ok x) y) :
    Rel (brS s seg put x) (if isQ s 91 y.a y.bad then mst s 93 (nums s seg qut (adv s 91 y)) else y) := by
  unfold brS
  by_cases g : bt s x.a = 91
  · obtain ⟨hq, ha⟩ := rel_adv h g
    rw [if_pos g, if_pos hq]
    have h1 := hn ha
    cases hX : numS s seg put { x with a := x.a + 1 } with
    | ok z => rw [hX] at h1; exact rel_must h1
    | error p => rw [hX] at h1; exact mst_bad h1 s 93
  · rw [if_neg g, if_neg (by rw [rel_stay h g]; decide)]
    exact h
theorem rel_br_bad {p : Nat} {y : RS} (h : y.bad = some p) (s seg : ByteArray) (qut : RS → Int → RS) : (if isQ s 91 y.a y.bad then mst s 93 (nums s seg qut (adv s 91 y)) else y).bad = some p := by
  rw [if_neg (by rw [isQ_bad h]; decide)]; exact h
def S0p : RS := ⟨3, none, 1, 1, 1, 1, 1⟩
def S1p (s seg : ByteArray) : RS := if isQ s 91 S0p.a S0p.bad then mst s 93 (nums s seg qutO (adv s 91 S0p)) else S0p
theorem S1p_eq (s seg : ByteArray) : S1p s seg = { S1 s seg with f := 1 } := by
  unfold S1p S1
  have hq : isQ s 91 S0p.a S0p.bad = isQ s 91 3 none := rfl
  rw [hq]
  cases isQ s 91 3 none with
  | false => rfl
  | true =>
    rw [if_pos rfl, if_pos rfl]
    have e : nums s seg qutO (adv s 91 S0p) = { nums s seg qutO (adv s 91 S0) with f := 1 } := by
      have hr : ∀ n : Int, (qutO (adv s 91 S0p) n).rgt seg = (qutO (adv s 91 S0) n).rgt seg := fun n => (rgt_13 (seg := seg) (o := n)).symm
      unfold nums
      have ea : (adv s 91 S0p).a = (adv s 91 S0).a := rfl
      have eb : (adv s 91 S0p).bad = (adv s 91 S0).bad := rfl
      rw [hr, ea, eb]; rfl
    rw [e]; rfl
theorem S2_eq (s seg : ByteArray) : S2 s seg = nums s seg qutF (mst s 45 (S1p s seg)) := by
  rw [S1p_eq]; rfl
/-- How it ends. -/
def Fin (X : Except Nat St) (y : RS) (o : Option Nat) : Prop := match X with
  | .ok x => o = none ∧ y.o = x.o ∧ y.f = x.f ∧ y.r = x.r ∧ y.c = x.c ∧ y.b = x.b
  | .error p => o = some p
theorem fin_end {s : ByteArray} {x : St} {y : RS} (h : Rel (.ok x) y) (hin : y.a ≤ s.size) : Fin (endS s x) y (endB s y.a y.bad) := by
  obtain ⟨h1, h2, h3⟩ := h
  unfold endS
  by_cases g : x.a = s.size
  · rw [if_pos g]; exact ⟨by rw [h1, h2]; simp [endB, g], h3⟩
  · rw [if_neg g]
    show endB s y.a y.bad = some x.a
    rw [h1, h2]; simp only [endB]; rw [if_pos (by omega)]
theorem fin_bad {s : ByteArray} {p : Nat} {y : RS} (h : y.bad = some p) : Fin (.error p) y (endB s y.a y.bad) := by
  show endB s y.a y.bad = some p
  rw [h]; rfl
theorem parse_same {s : ByteArray} (h3 : nmC s = 3) (hin : (S5 s (sg s)).a ≤ s.size) : Fin (parseS s) (S5 s (sg s)) (S6 s (sg s)) := by
  have h0 : Rel (.ok ⟨3, 1, 1, 1, 1, 1⟩) S0p := ⟨rfl, rfl, rfl, rfl, rfl, rfl, rfl⟩
  have h1 : Rel (brS s (sg s) putO ⟨3, 1, 1, 1, 1, 1⟩) (S1p s (sg s)) := rel_br num_O h0
  have eP : parseS s = F1 s ⟨3, 1, 1, 1, 1, 1⟩ := by unfold parseS; rw [if_pos h3]; rfl
  rw [eP]
  unfold F1 S6
  cases hX1 : brS s (sg s) putO ⟨3, 1, 1, 1, 1, 1⟩ with
  | error p =>
    rw [hX1] at h1
    have b2 : (S2 s (sg s)).bad = some p := by rw [S2_eq]; exact rel_bad (mst_bad h1 s 45) _ _ _
    have b3 : (S3 s (sg s)).bad = some p := rel_br_bad b2 _ _ _
    have b5 : (S5 s (sg s)).bad = some p := by unfold S5; rw [if_neg (by rw [isQ_bad b3]; decide)]; exact b3
    exact fin_bad b5
  | ok x1 =>
    rw [hX1] at h1
    show Fin (F2 s x1) _ _
    unfold F2
    have h2 : Rel (fldS s (sg s) putF x1) (S2 s (sg s)) := by
      rw [S2_eq]
      have hm := rel_must (s := s) (ch := 45) h1
      unfold fldS
      cases hX : mustS s 45 x1 with
      | error p => rw [hX] at hm; exact rel_bad hm _ _ _
      | ok z => rw [hX] at hm; exact num_F hm
    cases hX2 : fldS s (sg s) putF x1 with
    | error p =>
      rw [hX2] at h2
      have b3 : (S3 s (sg s)).bad = some p := rel_br_bad h2 _ _ _
      have b5 : (S5 s (sg s)).bad = some p := by unfold S5; rw [if_neg (by rw [isQ_bad b3]; decide)]; exact b3
      exact fin_bad b5
    | ok x2 =>
      rw [hX2] at h2
      show Fin (F3 s x2) _ _
      unfold F3
      have h3' : Rel (brS s (sg s) putR x2) (S3 s (sg s)) := rel_br num_R h2
      cases hX3 : brS s (sg s) putR x2 with
      | error p =>
        rw [hX3] at h3'
        have b5 : (S5 s (sg s)).bad = some p := by unfold S5; rw [if_neg (by rw [isQ_bad h3']; decide)]; exact h3'
        exact fin_bad b5
      | ok x3 =>
        rw [hX3] at h3'
        show Fin (F4 s x3) _ _
        unfold F4 dotS
        by_cases g : bt s x3.a = 46
        · obtain ⟨hq, ha⟩ := rel_adv h3' g
          rw [if_pos g]
          have e4 : S4 s (sg s) = nums s (sg s) qutC (adv s 46 (S3 s (sg s))) := by unfold S4; rw [if_pos hq]
          have e5 : S5 s (sg s) = if isQ s 46 (S4 s (sg s)).a (S4 s (sg s)).bad then nums s (sg s) qutB (adv s 46 (S4 s (sg s))) else S4 s (sg s) := by rw [S5, if_pos hq]
          have h4 : Rel (numS s (sg s) putC { x3 with a := x3.a + 1 }) (S4 s (sg s)) := by rw [e4]; exact num_C ha
          cases hX4 : numS s (sg s) putC { x3 with a := x3.a + 1 } with
          | error p =>
            rw [hX4] at h4
            have b5 : (S5 s (sg s)).bad = some p := by rw [e5, if_neg (by rw [isQ_bad h4]; decide)]; exact h4
            exact fin_bad b5
          | ok x4 =>
            rw [hX4] at h4
            show Fin (F5 s x4) _ _
            unfold F5 dotS
            by_cases g4 : bt s x4.a = 46
            · obtain ⟨hq4, ha4⟩ := rel_adv h4 g4
              rw [if_pos g4]
              rw [if_pos hq4] at e5
              have h5 : Rel (numS s (sg s) putB { x4 with a := x4.a + 1 }) (S5 s (sg s)) := by rw [e5]; exact num_B ha4
              cases hX5 : numS s (sg s) putB { x4 with a := x4.a + 1 } with
              | error p => rw [hX5] at h5; exact fin_bad h5
              | ok x5 => rw [hX5] at h5; exact fin_end h5 hin
            · rw [if_neg g4]
              rw [if_neg (by rw [rel_stay h4 g4]; decide)] at e5
              show Fin (F6 s x4) _ _
              exact fin_end (by rw [e5]; exact h4) hin
        · rw [if_neg g]
          have e5 : S5 s (sg s) = S3 s (sg s) := by rw [S5, if_neg (by rw [rel_stay h3' g]; decide)]
          show Fin (F5 s x3) _ _
          unfold F5 dotS
          rw [if_neg g]
          show Fin (F6 s x3) _ _
          exact fin_end (by rw [e5]; exact h3') hin
end Go.Proofs.YtiihdhajmcfhaaaDoor
