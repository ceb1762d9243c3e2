/-
  Two wheels side by side, and lists beside them.
-/
import Derived.Test.YtinigpneohogaaaWhSets
namespace Go.Proofs.Ytinigpneohogaaa
open Go.RowKit

/-- Two wheels, apart. -/
structure W2 (w : World) (Wa na : Nat) (Sa : List Tm) (Wb nb : Nat) (Sb : List Tm) (Fa Fb : Nat → Prop) (wx : World) : Prop where
  a : Whl wx w.heap.size Wa na Sa Fa
  b : Whl wx w.heap.size Wb nb Sb Fb
  d : ∀ q, Fa q → ¬ Fb q
  l : Below w.heap.size w wx
/-- A list beside them. -/
def Bes (w : World) (Fa Fb : Nat → Prop) (v : Value) (xs : List Tm) (wx : World) : Prop := TRow wx w.heap.size v xs ∧ ∀ q, v.ownBlock = some q → ¬ Fa q ∧ ¬ Fb q
section
variable {w wx w' : World} {Wa Wb na nb : Nat} {Sa Sb : List Tm} {Fa Fb : Nat → Prop}
theorem W2.swap (h : W2 w Wa na Sa Wb nb Sb Fa Fb wx) : W2 w Wb nb Sb Wa na Sa Fb Fa wx := ⟨h.b, h.a, fun q h1 h2 => h.d q h2 h1, h.l⟩
theorem Bes.swap {v : Value} {xs : List Tm} (h : Bes w Fa Fb v xs wx) : Bes w Fb Fa v xs wx := ⟨h.1, fun q e => ⟨(h.2 q e).2, (h.2 q e).1⟩⟩
theorem W2.below (h : W2 w Wa na Sa Wb nb Sb Fa Fb wx) (hb : Below wx.heap.size wx w') : W2 w Wa na Sa Wb nb Sb Fa Fb w' := ⟨h.a.below hb, h.b.below hb, h.d, h.l.trans (hb.mono h.l.size)⟩
theorem Bes.below {v : Value} {xs : List Tm} (h : Bes w Fa Fb v xs wx) (hb : Below wx.heap.size wx w') : Bes w Fa Fb v xs w' := ⟨h.1.below hb, h.2⟩
theorem w2_start {w1 w2 : World} {S : List Tm} {now : Nat} (ha : WB w Wa now S w1) (hb : WB w1 Wb now S w2) : ∃ Fa Fb, W2 w Wa now S Wb now S Fa Fb w2 := by
  obtain ⟨Fa, hA, ba⟩ := ha
  obtain ⟨Fb, hB, bb⟩ := hb
  refine ⟨Fa, Fb, hA.below bb, hB.low fun q hq => Nat.le_trans ba.size (hB.foot hq).1, fun q h1 h2 => ?_, ba.trans (bb.mono ba.size)⟩
  have h3 := (hA.foot h1).2
  have h4 := (hB.foot h2).1
  omega
theorem w2_adv (h : W2 w Wa na Sa Wb nb Sb Fa Fb wx) {t : Nat} (h1 : na ≤ t) (h2 : t ≤ MaxT) :
    Calls Try.prog 9 #[.pointer (some ⟨Wa, 0, none⟩), .int .i64 (t : Int)] wx fun e w' => ∃ a n c Fa', e = .returned (.tuple #[.slice a n c, .nilIface]) ∧ W2 w Wa t (Sa.filter (past t)) Wb nb Sb Fa' Fb w' ∧ Bes w Fa' Fb (.slice a n c) (Sa.filter (upto t)) w' ∧ ∀ v xs, Bes w Fa Fb v xs wx → Bes w Fa' Fb v xs w' := by
  refine (adv_ok h.a h.l.size h1 h2).mono ?_
  rintro e w' ⟨a, n, c, he, F', hW', hr, o, hf, hd⟩
  refine ⟨a, n, c, F', he, ⟨hW', h.b.off o (fun q hq e => h.d q e hq), fun q hq hb => ?_, h.l.trans (o.below h.l.size fun q hq => (h.a.foot hq).1)⟩, ⟨hr, fun q e => ⟨(hd q e).2, fun hb => ?_⟩⟩, fun v xs hv => ⟨hv.1.off o (fun q e => (hv.2 q e).1), fun q e => ⟨fun hq => ?_, (hv.2 q e).2⟩⟩⟩
  · rcases hf q hq with h3 | h3
    · exact h.d q h3 hb
    · have := (h.b.foot hb).2; omega
  · have h3 := (hd q e).1
    have := (h.b.foot hb).2; omega
  · rcases hf q hq with h3 | h3
    · exact (hv.2 q e).1 h3
    · have := (hv.1.lt e).2; omega
end
theorem ERow.zero (w : World) {B : Nat} (hB : B ≤ w.heap.size) : TRow (w.alloc (.cells #[] 38)) B (.slice (some ⟨w.heap.size, 0, none⟩) 0 0) [] :=
  ⟨rfl, Or.inr ⟨w.heap.size, 0, #[], rfl, hB, by show (w.heap.push _)[w.heap.size]? = _; simp, Nat.le_refl _, Nat.zero_le _, rfl, rfl⟩⟩
end Go.Proofs.Ytinigpneohogaaa
