/-
  Timers as plain data (of no program): a tick's digits, the level at which two ticks part, lists in order.
-/
import Derived.ProofKit
namespace Go.Proofs.YtdglnobapnohmaaDoor

/-! ### digits and levels -/
def MaxT : Nat := 1099511627776
def dig (t l : Nat) : Nat := t / 64 ^ l % 64
def lev (a b : Nat) : Nat := if a / 64 = b / 64 then 0 else if a / 4096 = b / 4096 then 1 else if a / 262144 = b / 262144 then 2 else if a / 16777216 = b / 16777216 then 3 else if a / 1073741824 = b / 1073741824 then 4 else if a / 68719476736 = b / 68719476736 then 5 else 6
theorem lev_le (a b : Nat) : lev a b ≤ 6 := by unfold lev; (repeat' split) <;> omega
theorem lev_eq {a b : Nat} (ha : a ≤ MaxT) (hb : b ≤ MaxT) : a / 64 ^ (lev a b + 1) = b / 64 ^ (lev a b + 1) := by
  unfold MaxT at ha hb
  unfold lev
  repeat' split
  all_goals first | assumption | skip
  rw [Nat.div_eq_of_lt (by omega), Nat.div_eq_of_lt (by omega)]
theorem div_up {a b l m : Nat} (h : a / 64 ^ l = b / 64 ^ l) (hm : l ≤ m) : a / 64 ^ m = b / 64 ^ m := by
  obtain ⟨d, rfl⟩ := Nat.exists_eq_add_of_le hm
  rw [Nat.pow_add, ← Nat.div_div_eq_div_mul, ← Nat.div_div_eq_div_mul, h]
theorem lev_ne {a b l : Nat} (h : l < lev a b) : a / 64 ^ (l + 1) ≠ b / 64 ^ (l + 1) := by
  intro e
  have e6 : ∀ m, l + 1 ≤ m → a / 64 ^ m = b / 64 ^ m := fun m hm => div_up e hm
  have h6 := lev_le a b
  unfold lev at h
  split at h
  · omega
  rename_i n1
  split at h
  · exact n1 (e6 1 (by omega))
  rename_i n2
  split at h
  · exact n2 (e6 2 (by omega))
  rename_i n3
  split at h
  · exact n3 (e6 3 (by omega))
  rename_i n4
  split at h
  · exact n4 (e6 4 (by omega))
  rename_i n5
  split at h
  · exact n5 (e6 5 (by omega))
  · rename_i n6
    exact n6 (e6 6 (by omega))
theorem lev_of {a b l : Nat} (ha : a ≤ MaxT) (hb : b ≤ MaxT) (h1 : a / 64 ^ (l + 1) = b / 64 ^ (l + 1)) (h2 : l = 0 ∨ a / 64 ^ l ≠ b / 64 ^ l) : lev a b = l := by
  rcases Nat.lt_trichotomy (lev a b) l with h | h | h
  · rcases h2 with h2 | h2
    · omega
    · exact absurd (div_up (lev_eq ha hb) h) h2
  · exact h
  · exact absurd h1 (lev_ne h)
theorem dig_split (t l : Nat) : t / 64 ^ l = 64 * (t / 64 ^ (l + 1)) + dig t l := by
  have e : t / 64 ^ (l + 1) = t / 64 ^ l / 64 := by rw [Nat.pow_succ, Nat.div_div_eq_div_mul]
  unfold dig
  rw [e]
  omega
theorem dig_lt (t l : Nat) : dig t l < 64 := Nat.mod_lt _ (by omega)
theorem div_mono {a b : Nat} (l : Nat) (h : a ≤ b) : a / 64 ^ l ≤ b / 64 ^ l := Nat.div_le_div_right h
theorem lt_of_div {a b : Nat} (l : Nat) (h : a / 64 ^ l < b / 64 ^ l) : a < b := by
  rcases Nat.lt_or_ge a b with p | p
  · exact p
  · have := div_mono l p; omega
/-- A tick above the clock has a greater digit at the level at which they part. -/
theorem dig_gt {a b : Nat} (ha : a ≤ MaxT) (hb : b ≤ MaxT) (h : a < b) : dig a (lev a b) < dig b (lev a b) := by
  have e := lev_eq ha hb
  have h1 := dig_split a (lev a b)
  have h2 := dig_split b (lev a b)
  rw [e] at h1
  have hm := div_mono (lev a b) (Nat.le_of_lt h)
  have hn : a / 64 ^ lev a b ≠ b / 64 ^ lev a b := by
    rcases Nat.eq_zero_or_pos (lev a b) with p | p
    · rw [p]; simp; omega
    · have := lev_ne (a := a) (b := b) (l := lev a b - 1) (by omega)
      rwa [Nat.sub_add_cancel p] at this
  omega
/-- Where a timer lies. -/
def idx (now t : Nat) : Nat := 64 * lev now t + dig t (lev now t)
theorem idx_lt (now t : Nat) : idx now t < 448 := by have := lev_le now t; have := dig_lt t (lev now t); unfold idx; omega
theorem idx_div (now t : Nat) : idx now t / 64 = lev now t := by have := dig_lt t (lev now t); unfold idx; omega
theorem idx_mod (now t : Nat) : idx now t % 64 = dig t (lev now t) := by have := dig_lt t (lev now t); unfold idx; omega
/-- The places to which a clock comes that goes from now to 'to'. -/
def met (now to_ i : Nat) : Bool := (decide (i / 64 < lev now to_) && decide (dig now (i / 64) < i % 64)) || (decide (i / 64 = lev now to_) && (decide (dig now (i / 64) < i % 64) && decide (i % 64 ≤ dig to_ (i / 64))))
theorem met_yes {now to_ t : Nat} (ht : t ≤ MaxT) (hn : now < t) (hto : to_ ≤ MaxT) (hle : t ≤ to_) : met now to_ (idx now t) = true := by
  have hg := dig_gt (by omega) ht hn
  unfold met
  rw [idx_div, idx_mod]
  have h1 : decide (dig now (lev now t) < dig t (lev now t)) = true := decide_eq_true hg
  rw [h1]
  rcases Nat.lt_trichotomy (lev now t) (lev now to_) with h | h | h
  · simp [h]
  · have e1 := lev_eq (a := now) (b := t) (by omega) ht
    have e2 := lev_eq (a := now) (b := to_) (by omega) hto
    rw [← h] at e2
    have s1 := dig_split t (lev now t)
    have s2 := dig_split to_ (lev now t)
    have hm := div_mono (lev now t) hle
    have : dig t (lev now t) ≤ dig to_ (lev now t) := by omega
    simp [h.symm, this]
  · exfalso
    have e2 := lev_eq (a := now) (b := to_) (by omega) hto
    have e3 := div_up e2 (m := lev now t) (by omega)
    have n1 := lev_ne (a := now) (b := t) (l := lev now t - 1) (by omega)
    rw [Nat.sub_add_cancel (by omega)] at n1
    have m1 := div_mono (lev now t) (Nat.le_of_lt hn)
    have m2 := div_mono (lev now t) hle
    omega
theorem met_no {now to_ t : Nat} (ht : t ≤ MaxT) (hn : now < t) (hto : to_ ≤ MaxT) (hnt : now ≤ to_) (hm : met now to_ (idx now t) = false) : to_ < t ∧ idx to_ t = idx now t := by
  have hlt : to_ < t := by
    rcases Nat.lt_or_ge to_ t with p | p
    · exact p
    · rw [met_yes ht hn hto p] at hm; cases hm
  refine ⟨hlt, ?_⟩
  have hg := dig_gt (by omega) ht hn
  unfold met at hm
  rw [idx_div, idx_mod] at hm
  have h1 : decide (dig now (lev now t) < dig t (lev now t)) = true := decide_eq_true hg
  rw [h1] at hm
  have e1 := lev_eq (a := now) (b := t) (by omega) ht
  have e2 := lev_eq (a := now) (b := to_) (by omega) hto
  have hl : lev to_ t = lev now t := by
    rcases Nat.lt_trichotomy (lev now t) (lev now to_) with h | h | h
    · simp [h] at hm
    · rw [← h] at e2
      refine lev_of hto ht (by rw [← e2, e1]) (Or.inr ?_)
      have s1 := dig_split t (lev now t)
      have s2 := dig_split to_ (lev now t)
      have : dig to_ (lev now t) < dig t (lev now t) := by
        rcases Nat.lt_or_ge (dig to_ (lev now t)) (dig t (lev now t)) with p | p
        · exact p
        · simp [h.symm, p] at hm
      omega
    · have e3 := div_up e2 (m := lev now t) (by omega)
      have e4 := div_up e2 (m := lev now t + 1) (by omega)
      refine lev_of hto ht (by rw [← e4, e1]) (Or.inr ?_)
      have n1 := lev_ne (a := now) (b := t) (l := lev now t - 1) (by omega)
      rw [Nat.sub_add_cancel (by omega)] at n1
      rw [← e3]; exact n1
  unfold idx
  rw [hl]

/-! ### timers in order -/
abbrev Tm := Int × Nat
def tlt (a b : Tm) : Prop := a.2 < b.2 ∨ a.2 = b.2 ∧ a.1 < b.1
instance (a b : Tm) : Decidable (tlt a b) := inferInstanceAs (Decidable (_ ∨ _))
theorem tlt_trans {a b c : Tm} (h : tlt a b) (k : tlt b c) : tlt a c := by unfold tlt at *; omega
theorem tlt_irr {a : Tm} (h : tlt a a) : False := by unfold tlt at h; omega
theorem tlt_asy {a b : Tm} (h : tlt a b) (k : tlt b a) : False := tlt_irr (tlt_trans h k)
/-- In order, no key twice. -/
def Srt (l : List Tm) : Prop := l.Pairwise tlt
def Uniq (l : List Tm) : Prop := l.Pairwise fun a b => a.1 ≠ b.1
theorem Uniq.perm {l m : List Tm} (h : Uniq l) (p : l.Perm m) : Uniq m := (p.pairwise_iff (fun h => h.symm)).1 h
theorem Srt.eq {l m : List Tm} (h : Srt l) (k : Srt m) (p : l.Perm m) : l = m := by
  induction l generalizing m with
  | nil => exact (p.nil_eq).symm ▸ rfl
  | cons a l ih =>
    cases m with
    | nil => exact absurd p.symm (by simp)
    | cons b m =>
      have ha : a ∈ b :: m := p.subset (List.mem_cons_self ..)
      have hb : b ∈ a :: l := p.symm.subset (List.mem_cons_self ..)
      have e : a = b := by
        rcases List.mem_cons.1 ha with e | e
        · exact e
        rcases List.mem_cons.1 hb with e' | e'
        · exact e'.symm
        · exact (tlt_asy ((List.pairwise_cons.1 h).1 b e') ((List.pairwise_cons.1 k).1 a e)).elim
      subst e
      rw [ih (List.pairwise_cons.1 h).2 (List.pairwise_cons.1 k).2 ((List.perm_cons a).1 p)]
theorem Uniq.nodup {l : List Tm} (h : Uniq l) : l.Nodup := List.Pairwise.imp (fun h e => h (by rw [e])) h
theorem Uniq.key {l : List Tm} (h : Uniq l) {a b : Tm} (ha : a ∈ l) (hb : b ∈ l) (e : a.1 = b.1) : a = b := by
  induction l with
  | nil => cases ha
  | cons c l ih =>
    have h1 := (List.pairwise_cons.1 h)
    rcases List.mem_cons.1 ha with ea | ha'
    · rcases List.mem_cons.1 hb with eb | hb'
      · rw [ea, eb]
      · exact absurd e (by rw [ea]; exact h1.1 b hb')
    · rcases List.mem_cons.1 hb with eb | hb'
      · exact absurd e.symm (by rw [eb]; exact h1.1 a ha')
      · exact ih h1.2 ha' hb'
theorem Uniq.filter {l : List Tm} (h : Uniq l) (p : Tm → Bool) : Uniq (l.filter p) := List.Pairwise.filter p h
theorem Srt.filter {l : List Tm} (h : Srt l) (p : Tm → Bool) : Srt (l.filter p) := List.Pairwise.filter p h
/-- Put at its place. -/
def ins (x : Tm) : List Tm → List Tm
  | [] => [x]
  | y :: l => if tlt x y then x :: y :: l else y :: ins x l
theorem ins_perm (x : Tm) : ∀ l, (ins x l).Perm (x :: l)
  | [] => List.Perm.refl _
  | y :: l => by
    unfold ins
    split
    · exact List.Perm.refl _
    · exact ((ins_perm x l).cons y).trans (List.Perm.swap x y l)
theorem Srt.ins {x : Tm} : ∀ {l : List Tm}, Srt l → (∀ y ∈ l, x.1 ≠ y.1) → Srt (ins x l)
  | [], _, _ => List.pairwise_singleton _ _
  | y :: l, h, hk => by
    have h1 := List.pairwise_cons.1 h
    unfold Proofs.YtdglnobapnohmaaDoor.ins
    split
    · rename_i hx
      exact List.pairwise_cons.2 ⟨fun z hz => by
        rcases List.mem_cons.1 hz with rfl | hz
        · exact hx
        · exact tlt_trans hx (h1.1 z hz), h⟩
    · rename_i hx
      refine List.pairwise_cons.2 ⟨fun z hz => ?_, Srt.ins h1.2 (fun y hy => hk y (List.mem_cons_of_mem _ hy))⟩
      rcases List.mem_cons.1 ((ins_perm x l).subset hz) with rfl | hz
      · have := hk y (List.mem_cons_self ..)
        unfold tlt at hx ⊢
        omega
      · exact h1.1 z hz
def keyNe (k : Int) (x : Tm) : Bool := decide (x.1 ≠ k)
def upto (to_ : Nat) (x : Tm) : Bool := decide (x.2 ≤ to_)
def past (to_ : Nat) (x : Tm) : Bool := decide (to_ < x.2)
theorem srt_split {l : List Tm} (h : Srt l) (a b : Nat) (hab : a ≤ b) : l.filter (upto b) = l.filter (upto a) ++ (l.filter (past a)).filter (upto b) := by
  induction l with
  | nil => rfl
  | cons x l ih =>
    have h1 := List.pairwise_cons.1 h
    by_cases hx : x.2 ≤ a
    · have e1 : upto a x = true := decide_eq_true hx
      have e2 : upto b x = true := decide_eq_true (by omega)
      have e3 : past a x = false := decide_eq_false (by omega)
      rw [List.filter_cons_of_pos e1, List.filter_cons_of_pos e2, List.filter_cons_of_neg (by rw [e3]; simp), ih h1.2]
      rfl
    · have e1 : ∀ y ∈ x :: l, upto a y = false := fun y hy => by
        rcases List.mem_cons.1 hy with rfl | hy
        · exact decide_eq_false hx
        · have := h1.1 y hy; unfold tlt at this; exact decide_eq_false (by omega)
      have e2 : ∀ y ∈ x :: l, past a y = true := fun y hy => by
        have := e1 y hy; unfold upto at this; unfold past
        simp only [decide_eq_false_iff_not] at this
        exact decide_eq_true (by omega)
      have e3 : (x :: l).filter (upto a) = [] := List.filter_eq_nil_iff.2 (fun y hy => by rw [e1 y hy]; simp)
      rw [e3, List.filter_eq_self.2 e2]
      rfl
theorem past_past (l : List Tm) (a b : Nat) (hab : a ≤ b) : (l.filter (past a)).filter (past b) = l.filter (past b) := by
  rw [List.filter_filter]
  refine List.filter_congr fun x _ => ?_
  unfold past
  by_cases h : b < x.2
  · simp [h]; omega
  · simp [h]
/-- What a wheel may hold. -/
structure Held (now : Nat) (S : List Tm) : Prop where
  srt : Srt S
  uq : Uniq S
  tk : ∀ x ∈ S, now < x.2 ∧ x.2 ≤ MaxT
  nw : now ≤ MaxT
def setS (k : Int) (t : Nat) (S : List Tm) : List Tm := ins (k, t) (S.filter (keyNe k))
theorem setS_perm (k : Int) (t : Nat) (S : List Tm) : (setS k t S).Perm ((k, t) :: S.filter (keyNe k)) := ins_perm _ _
theorem Held.set {now t : Nat} {k : Int} {S : List Tm} (h : Held now S) (h1 : now < t) (h2 : t ≤ MaxT) : Held now (setS k t S) := by
  have hk : ∀ y ∈ S.filter (keyNe k), k ≠ y.1 := fun y hy e => by
    have := (List.mem_filter.1 hy).2
    unfold keyNe at this
    simp at this
    exact this e.symm
  refine ⟨(h.srt.filter _).ins hk, Uniq.perm (List.pairwise_cons.2 ⟨hk, h.uq.filter _⟩) (ins_perm _ _).symm, fun x hx => ?_, h.nw⟩
  rcases List.mem_cons.1 ((setS_perm k t S).subset hx) with rfl | hx
  · exact ⟨h1, h2⟩
  · exact h.tk x (List.mem_filter.1 hx).1
theorem Held.adv {now to_ : Nat} {S : List Tm} (h : Held now S) (h2 : to_ ≤ MaxT) : Held to_ (S.filter (past to_)) :=
  ⟨h.srt.filter _, h.uq.filter _, fun x hx => ⟨of_decide_eq_true (List.mem_filter.1 hx).2, (h.tk x (List.mem_filter.1 hx).1).2⟩, h2⟩
end Go.Proofs.YtdglnobapnohmaaDoor
