import Derived.Test.YthnpckmgnompiaaGreatDoorPrLaw1
import Derived.Test.YthnpckmgnompiaaGreatDoorBookAlone
import Derived.Test.YthnpckmgnompiaaGreatDoorDkFrom
/-
  Read of both disks: one number, the same bytes. (Typed by gen/mkpr3.py.)
-/
namespace Go.Proofs.YthnpckmgnompiaaGreatDoor
open Go.RowKit

def rdC1 (xs : List Int) (dead : Bool) (p n : Int) : Int := if hasB xs.length p n = true then (if dead then 8 else 0) else 2
def rdX1 (xs : List Int) (dead : Bool) (p n : Int) : List Int := if hasB xs.length p n = true then (if dead then [] else (xs.drop p.toNat).take n.toNat) else []
def rdC (σ : Sg) (ar p n : Int) : Int := if ar = 0 then rdC1 σ.x0 σ.dead p n else if ar = 1 then rdC1 σ.x1 σ.dead p n else 2
def rdX (σ : Sg) (ar p n : Int) : List Int := if ar = 0 then rdX1 σ.x0 σ.dead p n else if ar = 1 then rdX1 σ.x1 σ.dead p n else []
theorem hasB_yes {l : Nat} {p n : Int} (h : hasB (l : Int) p n = true) : ∃ a b : Nat, p = (a : Int) ∧ n = (b : Int) ∧ a + b ≤ l := by
  unfold hasB at h
  simp at h
  exact ⟨p.toNat, n.toNat, by omega, by omega, by omega⟩
theorem hasB_no {l : Nat} {p n : Int} (h : ¬ hasB (l : Int) p n = true) : p < 0 ∨ n < 0 ∨ (l : Int) < p ∨ (l : Int) - p < n := by
  unfold hasB at h
  simp at h
  omega
section
variable {w : World} {B K R : Nat} {v0 v1 : Value} {v : Nat → Value} {σ : Sg}
theorem dRead0 (h : DskS w B K v0 v1 σ) (p n : Int) (hp : -9223372036854775808 ≤ p ∧ p ≤ 9223372036854775807) : Calls Tryz.prog 88 #[.pointer (some ⟨K, 0, none⟩), .int .i64 0, .int .i64 p, .int .i64 n] w fun e w' => ∃ a k c ev, e = .returned (.tuple #[.slice a k c, ev]) ∧ Row w' w.heap.size (.slice a k c) (rdX σ 0 p n) ∧ EvD w' w.heap.size ev (rdC σ 0 p n) ∧ Below w.heap.size w w' := by
  have e1 : rdC σ 0 p n = rdC1 σ.x0 σ.dead p n := by simp [rdC]
  have e2 : rdX σ 0 p n = rdX1 σ.x0 σ.dead p n := by simp [rdX]
  rw [e1, e2]
  unfold rdC1 rdX1
  by_cases hh : hasB σ.x0.length p n = true
  · rw [if_pos hh, if_pos hh]
    obtain ⟨i, j, rfl, rfl, hij⟩ := hasB_yes hh
    rw [Int.toNat_natCast, Int.toNat_natCast]
    unfold DskS at h
    cases hd : σ.dead with
    | true =>
      rw [hd] at h
      refine (Read0_dead i j h hij).mono ?_
      rintro e w' ⟨he, hf, hb⟩
      exact ⟨_, _, _, _, he, Row.nil _ _, EvD.mk hf rfl, hb⟩
    | false =>
      rw [hd] at h
      refine (Read0_at i j h hij).mono ?_
      rintro e w' ⟨a, k, c, he, hr, hb⟩
      exact ⟨a, k, c, _, he, hr, EvD.nil _ _, hb⟩
  · rw [if_neg hh, if_neg hh]
    refine (Read0_out p n h (stOf_any _) (by simpa using hh) hp).mono ?_
    rintro e w' ⟨he, hf, hb⟩
    exact ⟨_, _, _, _, he, Row.nil _ _, EvD.mk hf rfl, hb⟩
theorem dRead1 (h : DskS w B K v0 v1 σ) (p n : Int) (hp : -9223372036854775808 ≤ p ∧ p ≤ 9223372036854775807) : Calls Tryz.prog 88 #[.pointer (some ⟨K, 0, none⟩), .int .i64 1, .int .i64 p, .int .i64 n] w fun e w' => ∃ a k c ev, e = .returned (.tuple #[.slice a k c, ev]) ∧ Row w' w.heap.size (.slice a k c) (rdX σ 1 p n) ∧ EvD w' w.heap.size ev (rdC σ 1 p n) ∧ Below w.heap.size w w' := by
  have e1 : rdC σ 1 p n = rdC1 σ.x1 σ.dead p n := by simp [rdC]
  have e2 : rdX σ 1 p n = rdX1 σ.x1 σ.dead p n := by simp [rdX]
  rw [e1, e2]
  unfold rdC1 rdX1
  by_cases hh : hasB σ.x1.length p n = true
  · rw [if_pos hh, if_pos hh]
    obtain ⟨i, j, rfl, rfl, hij⟩ := hasB_yes hh
    rw [Int.toNat_natCast, Int.toNat_natCast]
    unfold DskS at h
    cases hd : σ.dead with
    | true =>
      rw [hd] at h
      refine (Read1_dead i j h hij).mono ?_
      rintro e w' ⟨he, hf, hb⟩
      exact ⟨_, _, _, _, he, Row.nil _ _, EvD.mk hf rfl, hb⟩
    | false =>
      rw [hd] at h
      refine (Read1_at i j h hij).mono ?_
      rintro e w' ⟨a, k, c, he, hr, hb⟩
      exact ⟨a, k, c, _, he, hr, EvD.nil _ _, hb⟩
  · rw [if_neg hh, if_neg hh]
    refine (Read1_out p n h (stOf_any _) (by simpa using hh) hp).mono ?_
    rintro e w' ⟨he, hf, hb⟩
    exact ⟨_, _, _, _, he, Row.nil _ _, EvD.mk hf rfl, hb⟩
theorem dRead (h : DskS w B K v0 v1 σ) (ar p n : Int) (hp : -9223372036854775808 ≤ p ∧ p ≤ 9223372036854775807) : Calls Tryz.prog 88 #[.pointer (some ⟨K, 0, none⟩), .int .i64 ar, .int .i64 p, .int .i64 n] w fun e w' => ∃ a k c ev, e = .returned (.tuple #[.slice a k c, ev]) ∧ Row w' w.heap.size (.slice a k c) (rdX σ ar p n) ∧ EvD w' w.heap.size ev (rdC σ ar p n) ∧ Below w.heap.size w w' := by
  by_cases h0 : ar = 0
  · subst h0; exact dRead0 h p n hp
  · by_cases h1 : ar = 1
    · subst h1; exact dRead1 h p n hp
    · unfold rdC rdX
      rw [if_neg h0, if_neg h1, if_neg h0, if_neg h1]
      refine (Read_bad ar p n h (stOf_any _) h0 h1).mono ?_
      rintro e w' ⟨he, hf, hb⟩
      exact ⟨_, _, _, _, he, Row.nil _ _, EvD.mk hf rfl, hb⟩
theorem dSync (h : DskS w B K v0 v1 σ) (ar : Int) : Calls Tryz.prog 58 #[.pointer (some ⟨K, 0, none⟩), .int .i64 ar] w fun e w' => ∃ ev v0' v1', e = .returned ev ∧ EvD w' w.heap.size ev (synC σ ar) ∧ DskS w' B K v0' v1' (synS σ ar) ∧ DStep w w' K v0 v1 v0' v1' := by
  by_cases h0 : ar = 0
  · subst h0; exact dSync0 h
  · by_cases h1 : ar = 1
    · subst h1; exact dSync1 h
    · have e1 : synC σ ar = 2 := by simp [synC, h0, h1]
      have e2 : synS σ ar = σ := by simp [synS, h0, h1]
      rw [e1, e2]
      refine (Sync_bad ar h (stOf_any _) h0 h1).mono ?_
      rintro e w' ⟨he, hf, hbl⟩
      exact ⟨_, v0, v1, he, EvD.mk hf rfl, h.below hbl, DStep.of_below _ _ _ hbl⟩
theorem dCut (h : DskS w B K v0 v1 σ) (ar n : Int) : Calls Tryz.prog 52 #[.pointer (some ⟨K, 0, none⟩), .int .i64 ar, .int .i64 n] w fun e w' => ∃ ev v0' v1', e = .returned ev ∧ EvD w' w.heap.size ev (cutC σ ar n) ∧ DskS w' B K v0' v1' (cutS σ ar n) ∧ DStep w w' K v0 v1 v0' v1' := by
  by_cases h0 : ar = 0
  · subst h0; exact dCut0 h n
  · by_cases h1 : ar = 1
    · subst h1; exact dCut1 h n
    · have e1 : cutC σ ar n = 2 := by simp [cutC, h0, h1]
      have e2 : cutS σ ar n = σ := by simp [cutS, h0, h1]
      rw [e1, e2]
      refine (Cut_bad ar n h (stOf_any _) h0 h1).mono ?_
      rintro e w' ⟨he, hf, hbl⟩
      exact ⟨_, v0, v1, he, EvD.mk hf rfl, h.below hbl, DStep.of_below _ _ _ hbl⟩
end
end Go.Proofs.YthnpckmgnompiaaGreatDoor

/-
  The law's 'reads': both disks and the book.
-/
namespace Go.Proofs.YthnpckmgnompiaaGreatDoor
open Go.RowKit

/-- Both disks, and a book that knows nothing of them. -/
structure Jt (w : World) (B K R : Nat) (v0 v1 : Value) (v : Nat → Value) (σ : Sg) (Q : Nat) (ρ : Nat → Nat) (vb vw : Value) (es : List Ent) : Prop where
  pr : Pr w B K R v0 v1 v σ
  ok : σ.Ok
  bk : Bk w B Q ρ vb vw es
  ze : ∀ k, (Foot K v0 v1 k ∨ RFoot R v k) → ρ k = 0
  eq : ∀ (i : Nat) (e : Ent), es[i]? = some e → e.old = e.bs ∧ e.bs.length ≤ 70368744177664
  hQ : B ≤ Q
  lo : ∀ k, k < B → ρ k = 0
theorem Jt.below {w w' : World} {B K R : Nat} {v0 v1 : Value} {v : Nat → Value} {σ : Sg} {Q : Nat} {ρ : Nat → Nat} {vb vw : Value} {es : List Ent} (h : Jt w B K R v0 v1 v σ Q ρ vb vw es) (hb : Below w.heap.size w w') : Jt w' B K R v0 v1 v σ Q ρ vb vw es :=
  ⟨h.pr.below hb, h.ok, h.bk.off (Off.of_below (P := fun _ => False) hb) (fun _ p => p.elim), h.ze, h.eq, h.hQ, h.lo⟩
theorem Jt.hB {w : World} {B K R : Nat} {v0 v1 : Value} {v : Nat → Value} {σ : Sg} {Q : Nat} {ρ : Nat → Nat} {vb vw : Value} {es : List Ent} (h : Jt w B K R v0 v1 v σ Q ρ vb vw es) : B ≤ w.heap.size := h.bk.hB
/-- A Take of a list that was made since. -/
theorem Take_jt {w0 w : World} {B K R : Nat} {v0 v1 : Value} {v : Nat → Value} {σ : Sg} {Q : Nat} {ρ : Nat → Nat} {vb vw : Value} {es : List Ent} {a : Option Addr} {n c : Nat} {bs : List Int} (h : Jt w B K R v0 v1 v σ Q ρ vb vw es) (hl : Row w B (.slice a n c) bs) (hnew : ∀ g, (Value.slice a n c).ownBlock = some g → w0.heap.size ≤ g ∧ ρ g = 0) (hfo : ∀ k, (Foot K v0 v1 k ∨ RFoot R v k) → k < w0.heap.size) (hn : n ≤ 70368744177664) (hm : es.length + 1 ≤ 1099511627776) :
    Calls Tryz.prog 10 #[.pointer (some ⟨Q, 0, none⟩), .slice a n c] w fun e w' => e = .returned (.tuple #[]) ∧ ∃ ρ' vb' vw' was, Jt w' B K R v0 v1 v σ Q ρ' vb' vw' (es ++ [⟨.slice a n c, was, bs, bs⟩]) ∧ Below B w w' ∧ (∀ k, k < w.heap.size → (Value.slice a n c).ownBlock ≠ some k → ρ' k = ρ k) ∧ Off (fun k => ρ k = 1 ∨ ρ k = 2 ∨ ρ k = 3) w w' := by
  refine (Take_any h.bk hl (fun g e => (hnew g e).2) hn hm).mono ?_
  rintro e w' ⟨he, ρ', vb', vw', was, hb, ho, hr⟩
  have hlen := hl.len
  refine ⟨he, ρ', vb', vw', was, ⟨h.pr.off ho (fun k hk p => by have := h.ze k hk; omega), h.ok, hb, fun k hk => ?_, fun i e he => ?_, h.hQ, fun k hk => by rw [hr k (Nat.lt_of_lt_of_le hk h.bk.hB) (fun e => by have := (hl.lt e).1; omega)]; exact h.lo k hk⟩, ?_, hr, ho⟩
  · rw [hr k (h.pr.foot_lt hk) (fun e => by have h1 := (hnew k e).1; have h2 := hfo k hk; omega)]
    exact h.ze k hk
  · rcases Nat.lt_or_ge i es.length with q | q
    · rw [List.getElem?_append_left q] at he; exact h.eq i e he
    · rw [List.getElem?_append_right q] at he
      rcases Nat.eq_zero_or_pos (i - es.length) with z | z
      · rw [z] at he; simp at he; subst he; exact ⟨rfl, by simp only; omega⟩
      · rw [List.getElem?_eq_none (by simp; omega)] at he; cases he
  · refine ho.below h.bk.hB (fun k p => ?_)
    rcases Nat.lt_or_ge k B with q | q
    · have := h.lo k q; omega
    · exact q
end Go.Proofs.YthnpckmgnompiaaGreatDoor

/-
  Both disks: Len and Synced, Fuse, Crash, Alive.
-/
namespace Go.Proofs.YthnpckmgnompiaaGreatDoor
open Go.RowKit

def lnV (σ : Sg) (ar : Int) : Int := if ar = 0 then σ.x0.length else if ar = 1 then σ.x1.length else 0
def snV (σ : Sg) (ar : Int) : Int := if ar = 0 then σ.s0 else if ar = 1 then σ.s1 else 0
def lnC (ar : Int) : Int := if ar = 0 ∨ ar = 1 then 0 else 2
def fusS (σ : Sg) (n : Int) : Sg := if σ.dead then σ else { σ with fuse := max n (-1) }
/-- What a crash leaves. -/
def crS (σ : Sg) (tk0 tz0 tk1 tz1 : Int) : Sg :=
  let k0 := (betw tk0 ((σ.x0.length - σ.s0 : Nat) : Int)).toNat
  let z0 := (betw tz0 ((σ.x0.length - σ.s0 - k0 : Nat) : Int)).toNat
  let k1 := (betw tk1 ((σ.x1.length - σ.s1 : Nat) : Int)).toNat
  let z1 := (betw tz1 ((σ.x1.length - σ.s1 - k1 : Nat) : Int)).toNat
  { σ with x0 := torn σ.x0 σ.s0 k0 z0, x1 := torn σ.x1 σ.s1 k1 z1, s0 := (torn σ.x0 σ.s0 k0 z0).length, s1 := (torn σ.x1 σ.s1 k1 z1).length, dead := false, fuse := -1 }
section
variable {w : World} {B K R : Nat} {v0 v1 : Value} {v : Nat → Value} {σ : Sg}
theorem dLen (h : DskS w B K v0 v1 σ) (ar : Int) : Calls Tryz.prog 13 #[.pointer (some ⟨K, 0, none⟩), .int .i64 ar] w fun e w' => ∃ ev, e = .returned (.tuple #[.int .i64 (lnV σ ar), ev]) ∧ EvD w' w.heap.size ev (lnC ar) ∧ Below w.heap.size w w' := by
  by_cases h0 : ar = 0
  · subst h0
    refine (Len0_ok h (stOf_any _)).mono ?_
    rintro e w' ⟨he, rfl⟩
    exact ⟨_, by simpa [lnV] using he, by simpa [lnC] using EvD.nil _ _, Below.refl _ _⟩
  · by_cases h1 : ar = 1
    · subst h1
      refine (Len1_ok h (stOf_any _)).mono ?_
      rintro e w' ⟨he, rfl⟩
      exact ⟨_, by simpa [lnV] using he, by simpa [lnC] using EvD.nil _ _, Below.refl _ _⟩
    · refine (Len_bad ar h (stOf_any _) h0 h1).mono ?_
      rintro e w' ⟨he, hf, hb⟩
      have e1 : lnV σ ar = 0 := by simp [lnV, h0, h1]
      have e2 : lnC ar = 2 := by simp [lnC, h0, h1]
      rw [e1, e2]
      exact ⟨_, he, EvD.mk hf rfl, hb⟩
theorem dSynced (h : DskS w B K v0 v1 σ) (ar : Int) : Calls Tryz.prog 87 #[.pointer (some ⟨K, 0, none⟩), .int .i64 ar] w fun e w' => ∃ ev, e = .returned (.tuple #[.int .i64 (snV σ ar), ev]) ∧ EvD w' w.heap.size ev (lnC ar) ∧ Below w.heap.size w w' := by
  by_cases h0 : ar = 0
  · subst h0
    refine (Synced0_ok h (stOf_any _)).mono ?_
    rintro e w' ⟨he, rfl⟩
    exact ⟨_, by simpa [snV] using he, by simpa [lnC] using EvD.nil _ _, Below.refl _ _⟩
  · by_cases h1 : ar = 1
    · subst h1
      refine (Synced1_ok h (stOf_any _)).mono ?_
      rintro e w' ⟨he, rfl⟩
      exact ⟨_, by simpa [snV] using he, by simpa [lnC] using EvD.nil _ _, Below.refl _ _⟩
    · refine (Synced_bad ar h (stOf_any _) h0 h1).mono ?_
      rintro e w' ⟨he, hf, hb⟩
      have e1 : snV σ ar = 0 := by simp [snV, h0, h1]
      have e2 : lnC ar = 2 := by simp [lnC, h0, h1]
      rw [e1, e2]
      exact ⟨_, he, EvD.mk hf rfl, hb⟩
theorem drewB (w : World) (k : Nat) : Below w.heap.size w (w.drewN k) := ((Off.refl (fun _ => False) w).drewN k).below (Nat.le_refl _) (fun _ p => p.elim)
end
end Go.Proofs.YthnpckmgnompiaaGreatDoor

/-
  Both disks: Crash.
-/
namespace Go.Proofs.YthnpckmgnompiaaGreatDoor
open Go.RowKit

theorem betw_back (n : Int) (m : Nat) : ((betw n (m : Int)).toNat : Int) = betw n (m : Int) := by unfold betw; omega
theorem torn_parts (xs : List Int) (s k z : Nat) : xs.take s ++ (xs.drop s).take k ++ List.replicate z 0 = torn xs s k z := by
  unfold torn; rw [List.take_add]
section
variable {w : World} {B K R : Nat} {v0 v1 : Value} {v : Nat → Value} {σ : Sg}
end
end Go.Proofs.YthnpckmgnompiaaGreatDoor

/-
  Image, with the two lists apart.
-/
namespace Go.Proofs.YthnpckmgnompiaaGreatDoor
open Go.RowKit

end Go.Proofs.YthnpckmgnompiaaGreatDoor
