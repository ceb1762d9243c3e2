import Derived.Test.YtlgjjemfckmidaaPrLaw1
import Derived.Test.YtlgjjemfckmidaaBookAlone
/-
  Read of both disks: one number, the same bytes. (Typed by gen/mkpr3.py.)
-/
namespace Go.Proofs.Ytlgjjemfckmidaa
open Go.RowKit

def rdC1 (xs : List Int) (dead : Bool) (p n : Int) : Int := if hasB xs.length p n = true then (if dead then 8 else 0) else 2
def rdX1 (xs : List Int) (dead : Bool) (p n : Int) : List Int := if hasB xs.length p n = true then (if dead then [] else (xs.drop p.toNat).take n.toNat) else []
def rdC (σ : Sg) (ar p n : Int) : Int := if ar = 0 then rdC1 σ.x0 σ.dead p n else if ar = 1 then rdC1 σ.x1 σ.dead p n else 2
def rdX (σ : Sg) (ar p n : Int) : List Int := if ar = 0 then rdX1 σ.x0 σ.dead p n else if ar = 1 then rdX1 σ.x1 σ.dead p n else []
theorem hasB_yes {l : Nat} {p n : Int} (h : hasB (l : Int) p n = true) : ∃ a b : Nat, p = (a : Int) ∧ n = (b : Int) ∧ a + b ≤ l := by
  unfold hasB at h
  simp at h
  exact ⟨p.toNat, n.toNat, by omega, by omega, by omega⟩
theorem hasB_no {l : Nat} {p n : Int} (h : ¬ hasB (l : Int) p n = true) : p < 0 ∨ n < 0 ∨ (l : Int) < p ∨ (l : Int) - p < n := by
  unfold hasB at h
  simp at h
  omega
section
variable {w : World} {B K R : Nat} {v0 v1 : Value} {v : Nat → Value} {σ : Sg}
theorem dRead0 (h : DskS w B K v0 v1 σ) (p n : Int) (hp : -9223372036854775808 ≤ p ∧ p ≤ 9223372036854775807) : Calls Try.prog 71 #[.pointer (some ⟨K, 0, none⟩), .int .i64 0, .int .i64 p, .int .i64 n] w fun e w' => ∃ a k c ev, e = .returned (.tuple #[.slice a k c, ev]) ∧ Row w' w.heap.size (.slice a k c) (rdX σ 0 p n) ∧ EvD w' w.heap.size ev (rdC σ 0 p n) ∧ Below w.heap.size w w' := by
  have e1 : rdC σ 0 p n = rdC1 σ.x0 σ.dead p n := by simp [rdC]
  have e2 : rdX σ 0 p n = rdX1 σ.x0 σ.dead p n := by simp [rdX]
  rw [e1, e2]
  unfold rdC1 rdX1
  by_cases hh : hasB σ.x0.length p n = true
  · rw [if_pos hh, if_pos hh]
    obtain ⟨i, j, rfl, rfl, hij⟩ := hasB_yes hh
    rw [Int.toNat_natCast, Int.toNat_natCast]
    unfold DskS at h
    cases hd : σ.dead with
    | true =>
      rw [hd] at h
      refine (Read0_dead i j h hij).mono ?_
      rintro e w' ⟨he, hf, hb⟩
      exact ⟨_, _, _, _, he, Row.nil _ _, EvD.mk hf rfl, hb⟩
    | false =>
      rw [hd] at h
      refine (Read0_at i j h hij).mono ?_
      rintro e w' ⟨a, k, c, he, hr, hb⟩
      exact ⟨a, k, c, _, he, hr, EvD.nil _ _, hb⟩
  · rw [if_neg hh, if_neg hh]
    refine (Read0_out p n h (stOf_any _) (by simpa using hh) hp).mono ?_
    rintro e w' ⟨he, hf, hb⟩
    exact ⟨_, _, _, _, he, Row.nil _ _, EvD.mk hf rfl, hb⟩
theorem rRead0 (h : RkS w B R v σ) (p n : Int) (hp : -9223372036854775808 ≤ p ∧ p ≤ 9223372036854775807) : Calls Try.prog 72 #[.pointer (some ⟨R, 0, none⟩), .int .i64 0, .int .i64 p, .int .i64 n] w fun e w' => ∃ a k c, e = .returned (.tuple #[.slice a k c, .int .i64 (rdC σ 0 p n)]) ∧ Byts w' a k (rdX σ 0 p n) ∧ Below w.heap.size w w' ∧ Hid (∀ b o, a = some ⟨b, o, none⟩ → w.heap.size ≤ b) := by
  have e1 : rdC σ 0 p n = rdC1 σ.x0 σ.dead p n := by simp [rdC]
  have e2 : rdX σ 0 p n = rdX1 σ.x0 σ.dead p n := by simp [rdX]
  have hsum := rx_sum0 σ
  have hdr : ∀ k, Below w.heap.size w (w.drewN k) := fun k => ((Off.refl (fun _ => False) w).drewN k).below (Nat.le_refl _) (fun _ p => p.elim)
  rw [e1, e2]
  unfold rdC1 rdX1
  by_cases hh : hasB σ.x0.length p n = true
  · rw [if_pos hh, if_pos hh]
    obtain ⟨i, j, rfl, rfl, hij⟩ := hasB_yes hh
    rw [Int.toNat_natCast, Int.toNat_natCast]
    unfold RkS at h
    cases hd : σ.dead with
    | true =>
      rw [hd] at h
      refine (rRead0_dead i j h (by omega)).mono ?_
      rintro e w' ⟨he, k, rfl⟩
      exact ⟨_, _, _, he, ⟨rfl, fun j hj => absurd hj (by omega)⟩, hdr k, fun b o e => by cases e⟩
    | false =>
      rw [hd] at h
      refine (rRead0_ok i j h (by omega)).mono ?_
      rintro e w' ⟨a, c, he, hb, hbl, hnw⟩
      refine ⟨a, j, c, he, ?_, hbl, hnw⟩
      have e3 : rx σ 0 ++ rx σ 1 = σ.x0 := by simp [rx]
      rw [e3] at hb
      exact hb
  · rw [if_neg hh, if_neg hh]
    have hno := hasB_no hh
    refine (rRead0_out p n h hp (by omega)).mono ?_
    rintro e w' ⟨he, k, rfl⟩
    exact ⟨_, _, _, he, ⟨rfl, fun j hj => absurd hj (by omega)⟩, hdr k, fun b o e => by cases e⟩
theorem dRead1 (h : DskS w B K v0 v1 σ) (p n : Int) (hp : -9223372036854775808 ≤ p ∧ p ≤ 9223372036854775807) : Calls Try.prog 71 #[.pointer (some ⟨K, 0, none⟩), .int .i64 1, .int .i64 p, .int .i64 n] w fun e w' => ∃ a k c ev, e = .returned (.tuple #[.slice a k c, ev]) ∧ Row w' w.heap.size (.slice a k c) (rdX σ 1 p n) ∧ EvD w' w.heap.size ev (rdC σ 1 p n) ∧ Below w.heap.size w w' := by
  have e1 : rdC σ 1 p n = rdC1 σ.x1 σ.dead p n := by simp [rdC]
  have e2 : rdX σ 1 p n = rdX1 σ.x1 σ.dead p n := by simp [rdX]
  rw [e1, e2]
  unfold rdC1 rdX1
  by_cases hh : hasB σ.x1.length p n = true
  · rw [if_pos hh, if_pos hh]
    obtain ⟨i, j, rfl, rfl, hij⟩ := hasB_yes hh
    rw [Int.toNat_natCast, Int.toNat_natCast]
    unfold DskS at h
    cases hd : σ.dead with
    | true =>
      rw [hd] at h
      refine (Read1_dead i j h hij).mono ?_
      rintro e w' ⟨he, hf, hb⟩
      exact ⟨_, _, _, _, he, Row.nil _ _, EvD.mk hf rfl, hb⟩
    | false =>
      rw [hd] at h
      refine (Read1_at i j h hij).mono ?_
      rintro e w' ⟨a, k, c, he, hr, hb⟩
      exact ⟨a, k, c, _, he, hr, EvD.nil _ _, hb⟩
  · rw [if_neg hh, if_neg hh]
    refine (Read1_out p n h (stOf_any _) (by simpa using hh) hp).mono ?_
    rintro e w' ⟨he, hf, hb⟩
    exact ⟨_, _, _, _, he, Row.nil _ _, EvD.mk hf rfl, hb⟩
theorem rRead1 (h : RkS w B R v σ) (p n : Int) (hp : -9223372036854775808 ≤ p ∧ p ≤ 9223372036854775807) : Calls Try.prog 72 #[.pointer (some ⟨R, 0, none⟩), .int .i64 1, .int .i64 p, .int .i64 n] w fun e w' => ∃ a k c, e = .returned (.tuple #[.slice a k c, .int .i64 (rdC σ 1 p n)]) ∧ Byts w' a k (rdX σ 1 p n) ∧ Below w.heap.size w w' ∧ Hid (∀ b o, a = some ⟨b, o, none⟩ → w.heap.size ≤ b) := by
  have e1 : rdC σ 1 p n = rdC1 σ.x1 σ.dead p n := by simp [rdC]
  have e2 : rdX σ 1 p n = rdX1 σ.x1 σ.dead p n := by simp [rdX]
  have hsum := rx_sum1 σ
  have hdr : ∀ k, Below w.heap.size w (w.drewN k) := fun k => ((Off.refl (fun _ => False) w).drewN k).below (Nat.le_refl _) (fun _ p => p.elim)
  rw [e1, e2]
  unfold rdC1 rdX1
  by_cases hh : hasB σ.x1.length p n = true
  · rw [if_pos hh, if_pos hh]
    obtain ⟨i, j, rfl, rfl, hij⟩ := hasB_yes hh
    rw [Int.toNat_natCast, Int.toNat_natCast]
    unfold RkS at h
    cases hd : σ.dead with
    | true =>
      rw [hd] at h
      refine (rRead1_dead i j h (by omega)).mono ?_
      rintro e w' ⟨he, k, rfl⟩
      exact ⟨_, _, _, he, ⟨rfl, fun j hj => absurd hj (by omega)⟩, hdr k, fun b o e => by cases e⟩
    | false =>
      rw [hd] at h
      refine (rRead1_ok i j h (by omega)).mono ?_
      rintro e w' ⟨a, c, he, hb, hbl, hnw⟩
      refine ⟨a, j, c, he, ?_, hbl, hnw⟩
      have e3 : rx σ 2 ++ rx σ 3 = σ.x1 := by simp [rx]
      rw [e3] at hb
      exact hb
  · rw [if_neg hh, if_neg hh]
    have hno := hasB_no hh
    refine (rRead1_out p n h hp (by omega)).mono ?_
    rintro e w' ⟨he, k, rfl⟩
    exact ⟨_, _, _, he, ⟨rfl, fun j hj => absurd hj (by omega)⟩, hdr k, fun b o e => by cases e⟩
theorem dRead (h : DskS w B K v0 v1 σ) (ar p n : Int) (hp : -9223372036854775808 ≤ p ∧ p ≤ 9223372036854775807) : Calls Try.prog 71 #[.pointer (some ⟨K, 0, none⟩), .int .i64 ar, .int .i64 p, .int .i64 n] w fun e w' => ∃ a k c ev, e = .returned (.tuple #[.slice a k c, ev]) ∧ Row w' w.heap.size (.slice a k c) (rdX σ ar p n) ∧ EvD w' w.heap.size ev (rdC σ ar p n) ∧ Below w.heap.size w w' := by
  by_cases h0 : ar = 0
  · subst h0; exact dRead0 h p n hp
  · by_cases h1 : ar = 1
    · subst h1; exact dRead1 h p n hp
    · unfold rdC rdX
      rw [if_neg h0, if_neg h1, if_neg h0, if_neg h1]
      refine (Read_bad ar p n h (stOf_any _) h0 h1).mono ?_
      rintro e w' ⟨he, hf, hb⟩
      exact ⟨_, _, _, _, he, Row.nil _ _, EvD.mk hf rfl, hb⟩
theorem rRead (h : RkS w B R v σ) (ar p n : Int) (hp : -9223372036854775808 ≤ p ∧ p ≤ 9223372036854775807) : Calls Try.prog 72 #[.pointer (some ⟨R, 0, none⟩), .int .i64 ar, .int .i64 p, .int .i64 n] w fun e w' => ∃ a k c, e = .returned (.tuple #[.slice a k c, .int .i64 (rdC σ ar p n)]) ∧ Byts w' a k (rdX σ ar p n) ∧ Below w.heap.size w w' ∧ Hid (∀ b o, a = some ⟨b, o, none⟩ → w.heap.size ≤ b) := by
  by_cases h0 : ar = 0
  · subst h0; exact rRead0 h p n hp
  · by_cases h1 : ar = 1
    · subst h1; exact rRead1 h p n hp
    · unfold rdC rdX
      rw [if_neg h0, if_neg h1, if_neg h0, if_neg h1]
      refine (rRead_bad ar p n h0 h1 h).mono ?_
      rintro e w' ⟨he, rfl⟩
      exact ⟨_, _, _, he, ⟨rfl, fun j hj => absurd hj (by omega)⟩, Below.refl _ _, fun b o e => by cases e⟩
theorem dSync (h : DskS w B K v0 v1 σ) (ar : Int) : Calls Try.prog 22 #[.pointer (some ⟨K, 0, none⟩), .int .i64 ar] w fun e w' => ∃ ev v0' v1', e = .returned ev ∧ EvD w' w.heap.size ev (synC σ ar) ∧ DskS w' B K v0' v1' (synS σ ar) ∧ DStep w w' K v0 v1 v0' v1' := by
  by_cases h0 : ar = 0
  · subst h0; exact dSync0 h
  · by_cases h1 : ar = 1
    · subst h1; exact dSync1 h
    · have e1 : synC σ ar = 2 := by simp [synC, h0, h1]
      have e2 : synS σ ar = σ := by simp [synS, h0, h1]
      rw [e1, e2]
      refine (Sync_bad ar h (stOf_any _) h0 h1).mono ?_
      rintro e w' ⟨he, hf, hbl⟩
      exact ⟨_, v0, v1, he, EvD.mk hf rfl, h.below hbl, DStep.of_below _ _ _ hbl⟩
theorem rSync (h : RkS w B R v σ) (ok : σ.Ok) (ar : Int) : Calls Try.prog 36 #[.pointer (some ⟨R, 0, none⟩), .int .i64 ar] w fun e w' => e = .returned (.int .i64 (synC σ ar)) ∧ ∃ v', RkS w' B R v' (synS σ ar) ∧ RStep w w' R v v' := by
  by_cases h0 : ar = 0
  · subst h0; exact rSync0 h ok
  · by_cases h1 : ar = 1
    · subst h1; exact rSync1 h ok
    · have e1 : synC σ ar = 2 := by simp [synC, h0, h1]
      have e2 : synS σ ar = σ := by simp [synS, h0, h1]
      rw [e1, e2]
      refine (rSync_bad ar h0 h1 h).mono ?_
      rintro e w' ⟨he, rfl⟩
      exact ⟨he, v, h, RStep.refl _ _ _⟩
theorem dCut (h : DskS w B K v0 v1 σ) (ar n : Int) : Calls Try.prog 26 #[.pointer (some ⟨K, 0, none⟩), .int .i64 ar, .int .i64 n] w fun e w' => ∃ ev v0' v1', e = .returned ev ∧ EvD w' w.heap.size ev (cutC σ ar n) ∧ DskS w' B K v0' v1' (cutS σ ar n) ∧ DStep w w' K v0 v1 v0' v1' := by
  by_cases h0 : ar = 0
  · subst h0; exact dCut0 h n
  · by_cases h1 : ar = 1
    · subst h1; exact dCut1 h n
    · have e1 : cutC σ ar n = 2 := by simp [cutC, h0, h1]
      have e2 : cutS σ ar n = σ := by simp [cutS, h0, h1]
      rw [e1, e2]
      refine (Cut_bad ar n h (stOf_any _) h0 h1).mono ?_
      rintro e w' ⟨he, hf, hbl⟩
      exact ⟨_, v0, v1, he, EvD.mk hf rfl, h.below hbl, DStep.of_below _ _ _ hbl⟩
theorem rCut (h : RkS w B R v σ) (ok : σ.Ok) (ar n : Int) : Calls Try.prog 37 #[.pointer (some ⟨R, 0, none⟩), .int .i64 ar, .int .i64 n] w fun e w' => e = .returned (.int .i64 (cutC σ ar n)) ∧ ∃ v', RkS w' B R v' (cutS σ ar n) ∧ RStep w w' R v v' := by
  by_cases h0 : ar = 0
  · subst h0; exact rCut0 h ok n
  · by_cases h1 : ar = 1
    · subst h1; exact rCut1 h ok n
    · have e1 : cutC σ ar n = 2 := by simp [cutC, h0, h1]
      have e2 : cutS σ ar n = σ := by simp [cutS, h0, h1]
      rw [e1, e2]
      refine (rCut_bad ar n h0 h1 h).mono ?_
      rintro e w' ⟨he, rfl⟩
      exact ⟨he, v, h, RStep.refl _ _ _⟩
end
end Go.Proofs.Ytlgjjemfckmidaa

/-
  The law's 'reads': both disks and the book.
-/
namespace Go.Proofs.Ytlgjjemfckmidaa
open Go.RowKit

/-- Both disks, and a book that knows nothing of them. -/
structure Jt (w : World) (B K R : Nat) (v0 v1 : Value) (v : Nat → Value) (σ : Sg) (Q : Nat) (ρ : Nat → Nat) (vb vw : Value) (es : List Ent) : Prop where
  pr : Pr w B K R v0 v1 v σ
  ok : σ.Ok
  bk : Bk w B Q ρ vb vw es
  ze : ∀ k, (Foot K v0 v1 k ∨ RFoot R v k) → ρ k = 0
  eq : ∀ (i : Nat) (e : Ent), es[i]? = some e → e.old = e.bs ∧ e.bs.length ≤ 70368744177664
  hQ : B ≤ Q
  lo : ∀ k, k < B → ρ k = 0
theorem Jt.below {w w' : World} {B K R : Nat} {v0 v1 : Value} {v : Nat → Value} {σ : Sg} {Q : Nat} {ρ : Nat → Nat} {vb vw : Value} {es : List Ent} (h : Jt w B K R v0 v1 v σ Q ρ vb vw es) (hb : Below w.heap.size w w') : Jt w' B K R v0 v1 v σ Q ρ vb vw es :=
  ⟨h.pr.below hb, h.ok, h.bk.off (Off.of_below (P := fun _ => False) hb) (fun _ p => p.elim), h.ze, h.eq, h.hQ, h.lo⟩
theorem Jt.hB {w : World} {B K R : Nat} {v0 v1 : Value} {v : Nat → Value} {σ : Sg} {Q : Nat} {ρ : Nat → Nat} {vb vw : Value} {es : List Ent} (h : Jt w B K R v0 v1 v σ Q ρ vb vw es) : B ≤ w.heap.size := h.bk.hB
/-- A Take of a list that was made since. -/
theorem Take_jt {w0 w : World} {B K R : Nat} {v0 v1 : Value} {v : Nat → Value} {σ : Sg} {Q : Nat} {ρ : Nat → Nat} {vb vw : Value} {es : List Ent} {a : Option Addr} {n c : Nat} {bs : List Int} (h : Jt w B K R v0 v1 v σ Q ρ vb vw es) (hl : Row w B (.slice a n c) bs) (hnew : ∀ g, (Value.slice a n c).ownBlock = some g → w0.heap.size ≤ g ∧ ρ g = 0) (hfo : ∀ k, (Foot K v0 v1 k ∨ RFoot R v k) → k < w0.heap.size) (hn : n ≤ 70368744177664) (hm : es.length + 1 ≤ 1099511627776) :
    Calls Try.prog 49 #[.pointer (some ⟨Q, 0, none⟩), .slice a n c] w fun e w' => e = .returned (.tuple #[]) ∧ ∃ ρ' vb' vw' was, Jt w' B K R v0 v1 v σ Q ρ' vb' vw' (es ++ [⟨.slice a n c, was, bs, bs⟩]) ∧ Below B w w' ∧ (∀ k, k < w.heap.size → (Value.slice a n c).ownBlock ≠ some k → ρ' k = ρ k) ∧ Off (fun k => ρ k = 1 ∨ ρ k = 2 ∨ ρ k = 3) w w' := by
  refine (Take_any h.bk hl (fun g e => (hnew g e).2) hn hm).mono ?_
  rintro e w' ⟨he, ρ', vb', vw', was, hb, ho, hr⟩
  have hlen := hl.len
  refine ⟨he, ρ', vb', vw', was, ⟨h.pr.off ho (fun k hk p => by have := h.ze k hk; omega), h.ok, hb, fun k hk => ?_, fun i e he => ?_, h.hQ, fun k hk => by rw [hr k (Nat.lt_of_lt_of_le hk h.bk.hB) (fun e => by have := (hl.lt e).1; omega)]; exact h.lo k hk⟩, ?_, hr, ho⟩
  · rw [hr k (h.pr.foot_lt hk) (fun e => by have h1 := (hnew k e).1; have h2 := hfo k hk; omega)]
    exact h.ze k hk
  · rcases Nat.lt_or_ge i es.length with q | q
    · rw [List.getElem?_append_left q] at he; exact h.eq i e he
    · rw [List.getElem?_append_right q] at he
      rcases Nat.eq_zero_or_pos (i - es.length) with z | z
      · rw [z] at he; simp at he; subst he; exact ⟨rfl, by simp only; omega⟩
      · rw [List.getElem?_eq_none (by simp; omega)] at he; cases he
  · refine ho.below h.bk.hB (fun k p => ?_)
    rcases Nat.lt_or_ge k B with q | q
    · have := h.lo k q; omega
    · exact q
set_option maxRecDepth 100000 in
set_option maxHeartbeats 4000000 in
theorem reads_any {w : World} {B K R : Nat} {v0 v1 : Value} {v : Nat → Value} {σ : Sg} {Q : Nat} {ρ : Nat → Nat} {vb vw : Value} {es : List Ent} (h : Jt w B K R v0 v1 v σ Q ρ vb vw es) (ar p n : Int) (hp : -9223372036854775808 ≤ p ∧ p ≤ 9223372036854775807) (hm : es.length + 2 ≤ 1099511627776) :
    Calls Try.prog 38 #[.agg #[.pointer (some ⟨K, 0, none⟩), .pointer (some ⟨R, 0, none⟩)], .int .i64 ar, .int .i64 p, .int .i64 n, .pointer (some ⟨Q, 0, none⟩)] w fun e w' => e = .returned (.bool true) ∧ ∃ ρ' vb' vw' es', Jt w' B K R v0 v1 v σ Q ρ' vb' vw' es' ∧ es'.length = es.length + 2 ∧ Below B w w' ∧ Off (fun k => ρ k = 1 ∨ ρ k = 2 ∨ ρ k = 3) w w' ∧ (∀ k, k < w.heap.size → ρ' k = ρ k) := by
  obtain ⟨T, hT⟩ : ∃ y, w.alloc (.cells #[.pointer (some ⟨K, 0, none⟩), .pointer (some ⟨R, 0, none⟩)] 45) = y := ⟨_, rfl⟩
  have HW : Hid (w.alloc (.cells #[.pointer (some ⟨K, 0, none⟩), .pointer (some ⟨R, 0, none⟩)] 45) = T) := hT
  have bT : Below w.heap.size w T := by rw [← hT]; exact (Below.refl _ _).alloc (Nat.le_refl _) _
  have t0 : T.cell? ⟨w.heap.size, 0, none⟩ = some (.pointer (some ⟨K, 0, none⟩)) := by rw [← hT]; simp
  have t1 : T.cell? ⟨w.heap.size, 1, none⟩ = some (.pointer (some ⟨R, 0, none⟩)) := by rw [← hT]; simp
  have sT : w.heap.size < T.heap.size := by rw [← hT]; simp
  have HJ : Hid (Jt T B K R v0 v1 v σ Q ρ vb vw es ∧ Below w.heap.size w T ∧ T.cell? ⟨w.heap.size, 0, none⟩ = some (.pointer (some ⟨K, 0, none⟩)) ∧ T.cell? ⟨w.heap.size, 1, none⟩ = some (.pointer (some ⟨R, 0, none⟩)) ∧ w.heap.size < T.heap.size) := ⟨h.below bT, bT, t0, t1, sT⟩
  have HXl : Hid ((rdX σ ar p n).length ≤ 16777216) := by
    have l0 := h.ok.l0
    have l1 := h.ok.l1
    have hx : ∀ (xs : List Int) d, xs.length ≤ 16777216 → (rdX1 xs d p n).length ≤ 16777216 := fun xs d hl => by
      unfold rdX1
      split
      · split
        · simp
        · rw [List.length_take, List.length_drop]; omega
      · simp
    unfold Hid rdX
    split
    · exact hx _ _ l0
    · split
      · exact hx _ _ l1
      · simp
  have HBw : Hid (B ≤ w.heap.size) := h.hB
  clear h hT bT t0 t1 sT
  have u0 := HJ.out.2.2.1
  go_enter Try.func38, Try.ntmps38
  go_wp2_with fail
  rw [HW.out]
  go_wp2_with fail
  refine (dRead HJ.out.1.pr.d ar p n hp).mono ?_
  rintro e w1 ⟨a1, k1, c1, ev1, rfl, r1, e1, b1⟩
  have H1 : Hid (Row w1 T.heap.size (.slice a1 k1 c1) (rdX σ ar p n) ∧ EvD w1 T.heap.size ev1 (rdC σ ar p n) ∧ Below T.heap.size T w1) := ⟨r1, e1, b1⟩
  have u1 : w1.cell? ⟨w.heap.size, 0, none⟩ = some (.pointer (some ⟨K, 0, none⟩)) := by rw [b1.cell (p := ⟨w.heap.size, 0, none⟩) HJ.out.2.2.2.2]; exact u0
  clear r1 e1 b1 u0
  go_wp2_with fail
  refine (dRead (HJ.out.1.below H1.out.2.2).pr.d ar p n hp).mono ?_
  rintro e w2 ⟨a2, k2, c2, ev2, rfl, r2, e2, b2⟩
  have b02 : Below T.heap.size T w2 := H1.out.2.2.trans (b2.mono H1.out.2.2.size)
  have H2 : Hid (Row w2 w1.heap.size (.slice a2 k2 c2) (rdX σ ar p n) ∧ EvD w2 w1.heap.size ev2 (rdC σ ar p n) ∧ Below w1.heap.size w1 w2 ∧ Below T.heap.size T w2) := ⟨r2, e2, b2, b02⟩
  have u2 : w2.cell? ⟨w.heap.size, 1, none⟩ = some (.pointer (some ⟨R, 0, none⟩)) := by rw [b02.cell (p := ⟨w.heap.size, 1, none⟩) HJ.out.2.2.2.2]; exact HJ.out.2.2.2.1
  clear r2 e2 b2 b02 u1
  go_wp2_with fail
  refine (rRead (HJ.out.1.below H2.out.2.2.2).pr.r ar p n hp).mono ?_
  rintro e w3 ⟨a3, k3, c3, rfl, y3, b3, n3⟩
  have H3 : Hid (Byts w3 a3 k3 (rdX σ ar p n) ∧ Below w2.heap.size w2 w3 ∧ Below T.heap.size T w3 ∧ (∀ b o, a3 = some ⟨b, o, none⟩ → w2.heap.size ≤ b)) := ⟨y3, b3, H2.out.2.2.2.trans (b3.mono H2.out.2.2.2.size), n3.out⟩
  clear y3 b3 n3 u2
  obtain ⟨hr1, he1, hb1⟩ := H1.out
  obtain ⟨hr2, he2, hb2, hb02⟩ := H2.out
  obtain ⟨hy3, hb3, hb03, hn3⟩ := H3.out
  have hs1 := hb1.size
  have hs2 := hb2.size
  have hs3 := hb3.size
  have hJ3 : Jt w3 B K R v0 v1 v σ Q ρ vb vw es := HJ.out.1.below hb03
  have hBT : B ≤ T.heap.size := HJ.out.1.hB
  have b13 : Below w1.heap.size w1 w3 := hb2.trans (hb3.mono hs2)
  have R1 : Row w3 B (.slice a1 k1 c1) (rdX σ ar p n) := (hr1.keep (fun g e => b13.block g (hr1.lt e).2)).base hBT
  have R2 : Row w3 B (.slice a2 k2 c2) (rdX σ ar p n) := (hr2.keep (fun g e => hb3.block g (hr2.lt e).2)).base (by omega)
  have hz : ∀ g, T.heap.size ≤ g → ρ g = 0 := HJ.out.1.bk.new
  have hfo : ∀ k, (Foot K v0 v1 k ∨ RFoot R v k) → k < T.heap.size := fun k hk => HJ.out.1.pr.foot_lt hk
  have hk1 : k1 ≤ 16777216 := by have := R1.len; have := HXl.out; omega
  have hk2 : k2 ≤ 16777216 := by have := R2.len; have := HXl.out; omega
  have hk12 : k2 = k1 := by have := R1.len; have := R2.len; omega
  have hk13 : k3 = k1 := by have := R1.len; have := hy3.len; omega
  have T1 := Take_jt (w0 := T) hJ3 R1 (fun g e => ⟨(hr1.lt e).1, hz g (hr1.lt e).1⟩) hfo (by omega) (by omega)
  have HT1 : Hid (Calls Try.prog 49 #[.pointer (some ⟨Q, 0, none⟩), .slice a1 k1 c1] w3 fun e w' => e = .returned (.tuple #[]) ∧ ∃ ρ' vb' vw' was, Jt w' B K R v0 v1 v σ Q ρ' vb' vw' (es ++ [⟨.slice a1 k1 c1, was, rdX σ ar p n, rdX σ ar p n⟩]) ∧ Below B w3 w' ∧ (∀ k, k < w3.heap.size → (Value.slice a1 k1 c1).ownBlock ≠ some k → ρ' k = ρ k) ∧ Off (fun k => ρ k = 1 ∨ ρ k = 2 ∨ ρ k = 3) w3 w') := T1
  have HK : Hid (Row w3 B (.slice a1 k1 c1) (rdX σ ar p n) ∧ Row w3 B (.slice a2 k2 c2) (rdX σ ar p n) ∧ Byts w3 a3 k3 (rdX σ ar p n) ∧ EvD w3 T.heap.size ev1 (rdC σ ar p n) ∧ EvD w3 T.heap.size ev2 (rdC σ ar p n) ∧ (∀ g, (Value.slice a1 k1 c1).ownBlock = some g → T.heap.size ≤ g ∧ g < w1.heap.size) ∧ (∀ g, (Value.slice a2 k2 c2).ownBlock = some g → w1.heap.size ≤ g ∧ g < w2.heap.size) ∧ (∀ b o, a3 = some ⟨b, o, none⟩ → T.heap.size ≤ b) ∧ (∀ g, T.heap.size ≤ g → ρ g = 0) ∧ Below w.heap.size w w3 ∧ B ≤ w.heap.size ∧ T.heap.size ≤ w1.heap.size ∧ w2.heap.size ≤ w3.heap.size) := by
    refine ⟨R1, R2, hy3, he1.off (Off.of_below (P := fun _ => False) b13) (fun _ _ => id), ?_, fun g e => hr1.lt e, fun g e => hr2.lt e, fun b o e => by have := hn3 b o e; omega, hz, HJ.out.2.1.trans (hb03.mono HJ.out.2.1.size), ?_, hs1, hs3⟩
    · rcases he2 with q | ⟨b, q1, q2, q3, q4⟩
      · exact Or.inl q
      · exact Or.inr ⟨b, q1, q2.off (Off.of_below (P := fun _ => False) hb3) id, q3, by omega⟩
    · exact HBw.out
  clear hr1 he1 hb1 hr2 he2 hb2 hb02 hy3 hb3 hb03 hn3 hs1 hs2 hs3 hJ3 b13 R1 R2 hz hfo T1 H1 H2 H3 hBT
  subst hk12
  subst hk13
  go_wp2_with fail
  refine HT1.out.mono ?_
  rintro e w4 ⟨rfl, ρ1, vb1, vw1, was1, j1, bb1, rr1, oo1⟩
  obtain ⟨R1, R2, Y3, E1, E2, D1, D2, D3, hz, bw3, hBw, z1, z2⟩ := HK.out
  have hl1 : ∀ g, (Value.slice a2 k3 c2).ownBlock = some g → (Value.slice a1 k3 c1).ownBlock ≠ some g := fun g e e' => by have h1 := (D1 g e').2; have h2 := (D2 g e).1; omega
  have T2 := Take_jt (w0 := T) j1 (R2.off oo1 (fun g e p => by have h1 := hz g (by have := (D2 g e).1; omega); omega)) (fun g e => ⟨by have := (D2 g e).1; omega, by rw [rr1 g (by have := (D2 g e).2; omega) (hl1 g e)]; exact hz g (by have := (D2 g e).1; omega)⟩) (fun k hk => by have := HJ.out.1.pr.foot_lt hk; exact this) (by omega) (by simp; omega)
  have HT2 : Hid (Calls Try.prog 49 #[.pointer (some ⟨Q, 0, none⟩), .slice a2 k3 c2] w4 fun e w' => e = .returned (.tuple #[]) ∧ ∃ ρ' vb' vw' was, Jt w' B K R v0 v1 v σ Q ρ' vb' vw' (es ++ [⟨.slice a1 k3 c1, was1, rdX σ ar p n, rdX σ ar p n⟩] ++ [⟨.slice a2 k3 c2, was, rdX σ ar p n, rdX σ ar p n⟩]) ∧ Below B w4 w' ∧ (∀ k, k < w4.heap.size → (Value.slice a2 k3 c2).ownBlock ≠ some k → ρ' k = ρ1 k) ∧ Off (fun k => ρ1 k = 1 ∨ ρ1 k = 2 ∨ ρ1 k = 3) w4 w') := T2
  have H4 : Hid (Jt w4 B K R v0 v1 v σ Q ρ1 vb1 vw1 (es ++ [⟨.slice a1 k3 c1, was1, rdX σ ar p n, rdX σ ar p n⟩]) ∧ Below B w3 w4 ∧ (∀ k, k < w3.heap.size → (Value.slice a1 k3 c1).ownBlock ≠ some k → ρ1 k = ρ k) ∧ Off (fun k => ρ k = 1 ∨ ρ k = 2 ∨ ρ k = 3) w3 w4) := ⟨j1, bb1, rr1, oo1⟩
  clear R1 R2 Y3 E1 E2 D1 D2 D3 hz bw3 hBw z1 z2 hl1 T2 j1 bb1 rr1 oo1 HT1
  go_wp2_with fail
  refine HT2.out.mono ?_
  rintro e w5 ⟨rfl, ρ2, vb2, vw2, was2, j2, bb2, rr2, oo2⟩
  obtain ⟨R1, R2, Y3, E1, E2, D1, D2, D3, hz, bw3, hBw, z1, z2⟩ := HK.out
  have o35 : Off (fun k => ρ k = 1 ∨ ρ k = 2 ∨ ρ k = 3) w3 w5 := H4.out.2.2.2.join oo2 (fun i hi pq => by
    by_cases hq : (Value.slice a1 k3 c1).ownBlock = some i
    · have h1 := H4.out.1.bk.pval es.length ⟨.slice a1 k3 c1, was1, rdX σ ar p n, rdX σ ar p n⟩ (by simp) i hq
      omega
    · rw [H4.out.2.2.1 i hi hq] at pq; exact pq)
  have hzz : ∀ k, T.heap.size ≤ k → ¬ (ρ k = 1 ∨ ρ k = 2 ∨ ρ k = 3) := fun k hk pq => by have := hz k hk; omega
  have q1 : Byts w5 a1 k3 (rdX σ ar p n) := (R1.off o35 (fun g e => hzz g (D1 g e).1)).asByts0
  have q2 : Byts w5 a2 k3 (rdX σ ar p n) := (R2.off o35 (fun g e => hzz g (by have := (D2 g e).1; omega))).asByts0
  have q3 : Byts w5 a3 k3 (rdX σ ar p n) := Y3.off o35 (fun b o e => hzz b (D3 b o e))
  have q4 : EvD w5 T.heap.size ev1 (rdC σ ar p n) := E1.off o35 hzz
  have q5 : EvD w5 T.heap.size ev2 (rdC σ ar p n) := E2.off o35 hzz
  have q6 : Below B w w5 := (bw3.mono hBw).trans (H4.out.2.1.trans bb2)
  have q7 : Off (fun k => ρ k = 1 ∨ ρ k = 2 ∨ ρ k = 3) w w5 := (Off.of_below bw3).trans o35
  have q8 : ∀ k, k < w.heap.size → ρ2 k = ρ k := fun k hk => by
    have hT := HJ.out.2.2.2.2
    have s3 := bw3.size
    have s4 := H4.out.2.1.size
    rw [rr2 k (by omega) (fun e => by have := (D2 k e).1; omega)]
    exact H4.out.2.2.1 k (by omega) (fun e => by have := (D1 k e).1; omega)
  have H5 : Hid (Byts w5 a1 k3 (rdX σ ar p n) ∧ Byts w5 a2 k3 (rdX σ ar p n) ∧ Byts w5 a3 k3 (rdX σ ar p n) ∧ EvD w5 T.heap.size ev1 (rdC σ ar p n) ∧ EvD w5 T.heap.size ev2 (rdC σ ar p n) ∧ (Below B w w5 ∧ Off (fun k => ρ k = 1 ∨ ρ k = 2 ∨ ρ k = 3) w w5 ∧ (∀ k, k < w.heap.size → ρ2 k = ρ k)) ∧ Jt w5 B K R v0 v1 v σ Q ρ2 vb2 vw2 (es ++ [⟨.slice a1 k3 c1, was1, rdX σ ar p n, rdX σ ar p n⟩] ++ [⟨.slice a2 k3 c2, was2, rdX σ ar p n, rdX σ ar p n⟩])) := ⟨q1, q2, q3, q4, q5, ⟨q6, q7, q8⟩, j2⟩
  clear R1 R2 Y3 E1 E2 D1 D2 D3 hz bw3 hBw z1 z2 o35 hzz q1 q2 q3 q4 q5 q6 q7 q8 j2 bb2 rr2 oo2 HT2 H4 HK
  have hdr : Hid (∀ (W : World) (k : Nat), Below W.heap.size W (W.drewN k)) := fun W k => ((Off.refl (fun _ => False) W).drewN k).below (Nat.le_refl _) (fun _ p => p.elim)
  go_wp2_with fail
  refine (same_true H5.out.1 H5.out.2.2.1 (by omega)).mono ?_
  rintro e w6 ⟨rfl, k6, hw6⟩
  have b6 : Hid (Below w5.heap.size w5 w6) := by unfold Hid; rw [hw6]; exact hdr.out _ _
  clear hw6
  go_wp2_with fail
  refine (same_true (H5.out.2.1.below b6.out) (H5.out.2.2.1.below b6.out) (by omega)).mono ?_
  rintro e w7 ⟨rfl, k7, hw7⟩
  have b7 : Hid (Below w5.heap.size w5 w7) := by unfold Hid; rw [hw7]; exact b6.out.trans ((hdr.out _ _).mono b6.out.size)
  clear hw7 b6
  go_wp2_with fail
  refine (refused_any (H5.out.2.2.2.1.off (Off.of_below (P := fun _ => False) b7.out) (fun _ _ => id))).mono ?_
  rintro e w8 ⟨rfl, hw8⟩
  rw [hw8]
  clear hw8 w8
  go_wp2_with fail
  refine (refused_any (H5.out.2.2.2.2.1.off (Off.of_below (P := fun _ => False) b7.out) (fun _ _ => id))).mono ?_
  rintro e w8 ⟨rfl, hw8⟩
  rw [hw8]
  clear hw8 w8
  go_wp2_with fail
  go_ret
  refine ⟨rfl, ρ2, vb2, vw2, _, H5.out.2.2.2.2.2.2.below b7.out, by simp, ?_, ?_, H5.out.2.2.2.2.2.1.2.2⟩
  · have h9 := H5.out.2.2.2.2.2.1.1
    exact h9.trans (b7.out.mono H5.out.2.2.2.2.2.2.hB)
  · exact H5.out.2.2.2.2.2.1.2.1.trans (Off.of_below b7.out)
end Go.Proofs.Ytlgjjemfckmidaa
