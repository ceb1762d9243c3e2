/-
  DecideEnds: what came in, and the walk up to the loop.
-/
import Derived.Test.YtjmjimbhoncidaaDoorDcHeads2
namespace Go.Proofs.YtjmjimbhoncidaaDoor
open Go.RowKit

/-- Steps in memory. -/
def Stps (w : World) (ao : Option Addr) (xs : List (Bool × ByteArray × Bool)) : Prop :=
  ∀ k x, xs[k]? = some x → ∃ b o, ao = some ⟨b, o, none⟩ ∧ b < w.heap.size ∧ w.cell? ⟨b, o + k * 3, none⟩ = some (.bool x.1) ∧ w.cell? ⟨b, o + k * 3 + 1, none⟩ = some (.string x.2.1) ∧ w.cell? ⟨b, o + k * 3 + 2, none⟩ = some (.bool x.2.2)
theorem Stps.below {w w' : World} {ao : Option Addr} {xs : List (Bool × ByteArray × Bool)} (h : Stps w ao xs) (hb : Below w.heap.size w w') : Stps w' ao xs := fun k x hk => by
  obtain ⟨b, o, e, hl, c0, c1, c2⟩ := h k x hk
  exact ⟨b, o, e, Nat.lt_of_lt_of_le hl hb.size, by rw [hb.cell (p := ⟨b, o + k * 3, none⟩) hl]; exact c0, by rw [hb.cell (p := ⟨b, o + k * 3 + 1, none⟩) hl]; exact c1, by rw [hb.cell (p := ⟨b, o + k * 3 + 2, none⟩) hl]; exact c2⟩
theorem may_ca (D : DecOk) (e : Bool) (x y : Int) (q : Bool) (ok : okB e x y = true) (hq : caB e x = q) (w : World) (hV : PV w) : Calls Tryd.prog 21 #[.agg #[.bool e, .int .i64 x, .int .i64 y], .string ⟨#[67, 65]⟩] w fun r w' => r = .returned (.tuple #[.bool q, .nilIface]) ∧ Below w.heap.size w w' :=
  (D.may e x y ⟨#[67, 65]⟩ w hV).mono fun r w' ⟨ev, h, he, hb⟩ => by
    unfold errN at he
    rw [if_pos ok] at he
    rw [ok, sent_1, hq, he.nil] at h
    exact ⟨h, hb⟩
theorem tmod17 (n : Int) : -16 ≤ n.tmod 17 ∧ n.tmod 17 ≤ 16 := by
  have h := Int.natAbs_tmod n 17
  have h2 : (17 : Int).natAbs = 17 := rfl
  rw [h2] at h
  omega
theorem Stps.put {w0 w : World} {ao : Option Addr} {xs : List (Bool × ByteArray × Bool)} {Wb : Nat} {u v : Value} (h : Stps w ao xs) (h0 : Stps w0 ao xs) (hW : w0.heap.size ≤ Wb) : Stps ((w.setCell ⟨Wb, 0, none⟩ u).setCell ⟨Wb, 1, none⟩ v) ao xs := fun k x hk => by
  obtain ⟨b, o, e, hl, c0, c1, c2⟩ := h k x hk
  obtain ⟨b', o', e', hl', _⟩ := h0 k x hk
  obtain ⟨rfl, rfl⟩ : b = b' ∧ o = o' := by rw [e] at e'; simpa using e'
  have hne : Wb ≠ b := by omega
  have hc : ∀ q, ((w.setCell ⟨Wb, 0, none⟩ u).setCell ⟨Wb, 1, none⟩ v).cell? ⟨b, q, none⟩ = w.cell? ⟨b, q, none⟩ := fun q => by
    rw [World.cell?_setCell_other _ _ _ _ (by intro h; injection h with h1; exact hne h1), World.cell?_setCell_other _ _ _ _ (by intro h; injection h with h1; exact hne h1)]
  exact ⟨b, o, e, by simpa using hl, by rw [hc]; exact c0, by rw [hc]; exact c1, by rw [hc]; exact c2⟩
/-- The loop's invariant. -/
structure EI (w : World) (e : Bool) (x y T : Int) (ao : Option Addr) (xs : List (Bool × ByteArray × Bool)) (n C Wb i : Nat) (st lf : Int) (wx : World) : Prop where
  box : Box wx C #[.bool e, .int .i64 x, .int .i64 y]
  wbox : Box wx Wb #[.int .i64 st, .int .i64 lf]
  bel : Below w.heap.size w wx
  old : w.heap.size ≤ Wb ∧ C ≠ Wb
  fit : fitB e x y st lf = true
  left : lf ≤ T
  prog : n ≤ i → need st lf ≤ (n : Int) + T + 2 - i
  stps : Stps wx ao xs
theorem EI.st {w wx : World} {e : Bool} {x y T : Int} {ao : Option Addr} {xs : List (Bool × ByteArray × Bool)} {n C Wb i : Nat} {st lf : Int} (h : EI w e x y T ao xs n C Wb i st lf wx) : 1 ≤ st ∧ st ≤ 6 ∧ 0 ≤ lf ∧ lf ≤ 16 := fit_left h.fit
/-- One round of it: what the call answered stands in the want's box. -/
theorem EI.step {w wx W : World} {e : Bool} {x y T : Int} {ao : Option Addr} {xs : List (Bool × ByteArray × Bool)} {n C Wb i : Nat} {st lf : Int} (h : EI w e x y T ao xs n C Wb i st lf wx) {r : Ans} (hr : RunOk e x y st lf r)
    (hb : Box W C #[.bool e, .int .i64 x, .int .i64 y]) (hw : Box W Wb #[.int .i64 r.st, .int .i64 r.lf]) (hB : Below w.heap.size w W) (hs : Stps W ao xs) (hp : n ≤ i → need r.st r.lf ≤ need st lf - 1 ∨ 4 ≤ r.st) (_hT : 0 ≤ T) (hi : (i : Int) < n + T + 2) : EI w e x y T ao xs n C Wb (i + 1) r.st r.lf W := by
  have c := (cnt_bd 1 r.l).1
  refine ⟨hb, hw, hB, h.old, hr.fit, by have := hr.sends; have := h.left; omega, fun hn => ?_, hs⟩
  by_cases hni : n ≤ i
  · have h1 := h.prog hni
    rcases hp hni with k | k
    · omega
    · have : need r.st r.lf = 0 := by unfold need; rw [if_pos k]
      rw [this]; omega
  · have h1 := (need_bd hr.fit).2.1
    have := hr.sends
    have := h.left
    omega
end Go.Proofs.YtjmjimbhoncidaaDoor
