/-
  A pair and the book behind so many calls, with the block that names the pair: plays, told, Alone.
-/
import Derived.Test.YtbljepiejbikaaaPrCallsLaw
import Derived.Test.YtbljepiejbikaaaBookAlone
namespace Go.Proofs.Ytbljepiejbikaaa
open Go.RowKit Go.BigFrame

def Sta (w1 : World) (K R Q bx : Nat) (m : Nat) (x : World) : Prop := Some1 x w1.heap.size K R Q m bx ∧ Below w1.heap.size w1 x ∧ x.cell? ⟨bx, 0, none⟩ = some (.pointer (some ⟨K, 0, none⟩)) ∧ x.cell? ⟨bx, 1, none⟩ = some (.pointer (some ⟨R, 0, none⟩)) ∧ bx < x.heap.size
/-- The block bx and what lies below w1's size read as they did. -/
def Frm (w1 : World) (bx : Nat) (x x' : World) : Prop := (∀ o, x'.cell? ⟨bx, o, none⟩ = x.cell? ⟨bx, o, none⟩) ∧ ∀ b o, b < w1.heap.size → x'.cell? ⟨b, o, none⟩ = x.cell? ⟨b, o, none⟩
theorem Sta.below {w1 : World} {K R Q bx m : Nat} {x x' : World} (h : Sta w1 K R Q bx m x) (hb : Below x.heap.size x x') : Sta w1 K R Q bx m x' := by
  obtain ⟨⟨v0, v1, v, σ, ρ, vb, vw, es, jt, hel, hal⟩, hbw, q0, q1, q2⟩ := h
  exact ⟨⟨v0, v1, v, σ, ρ, vb, vw, es, jt.below hb, hel, hal⟩, hbw.trans (hb.mono hbw.size), (hb.cell (p := ⟨bx, 0, none⟩) q2).trans q0, (hb.cell (p := ⟨bx, 1, none⟩) q2).trans q1, by have := hb.size; omega⟩
theorem Sta.drew {w1 : World} {K R Q bx m : Nat} {x : World} (h : Sta w1 K R Q bx m x) : Sta w1 K R Q bx m x.drew := h.below (Below.refl _ _).drew
theorem Sta.some {w1 : World} {K R Q bx m : Nat} {x x' : World} (h : Sta w1 K R Q bx m x) {v0 v1 : Value} {v : Nat → Value} {σ : Sg} {ρ : Nat → Nat} {vb vw : Value} {es : List Ent} {m' : Nat} (j : Jt x' w1.heap.size K R v0 v1 v σ Q ρ vb vw es) (hel : es.length ≤ m') (hb : Below w1.heap.size x x') (hk : x'.heap[bx]? = x.heap[bx]? ∧ Alien K R v0 v1 v ρ bx) : Sta w1 K R Q bx m' x' ∧ Frm w1 bx x x' := by
  obtain ⟨-, hbw, q0, q1, q2⟩ := h
  have hc : ∀ o, x'.cell? ⟨bx, o, none⟩ = x.cell? ⟨bx, o, none⟩ := fun o => World.cell?_of_block (a := ⟨bx, o, none⟩) hk.1
  exact ⟨⟨⟨v0, v1, v, σ, ρ, vb, vw, es, j, hel, hk.2⟩, hbw.trans hb, (hc 0).trans q0, (hc 1).trans q1, by have := hb.size; omega⟩, hc, fun b o hl => hb.cell (p := ⟨b, o, none⟩) hl⟩
theorem sta_plays {w1 : World} {K R Q bx m : Nat} {x : World} (h : Sta w1 K R Q bx m x) (y : Opv) (hby : Byts w1 y.po y.pl y.bs) (hfit : OpFit y) (hm : m + 4 ≤ 1099511627776) :
    Calls Try.prog 17 #[.agg #[.pointer (some ⟨K, 0, none⟩), .pointer (some ⟨R, 0, none⟩)], .agg #[.int .i64 y.kd, .int .i64 y.ar, .int .i64 y.at_, .int .i64 y.n, .slice y.po y.pl y.pc, .int .i64 y.t0, .int .i64 y.t1, .int .i64 y.t2, .int .i64 y.t3], .pointer (some ⟨Q, 0, none⟩)] x fun e x' => e = .returned (.bool true) ∧ Sta w1 K R Q bx (m + 4) x' ∧ Frm w1 bx x x' := by
  have h' := h
  obtain ⟨⟨v0, v1, v, σ, ρ, vb, vw, es, jx, hel, hal⟩, hbw, q0, q1, q2⟩ := h
  refine (plays_any jx y (hby.below hbw) hfit.po (by have := hfit.pl; omega) (fun h0 b' o' e' hf => by
    obtain ⟨b2', o2', e2', hl2, _⟩ := hby.cell 0 h0
    rw [e'] at e2'
    simp only [Option.some.injEq, Addr.mk.injEq] at e2'
    have hge : w1.heap.size ≤ b' := by
      rcases hf with hf | hf
      · exact (jx.pr.d.foot_lt hf).1
      · exact (jx.pr.r.foot_lt hf).1
    omega) hfit.at_ hfit.n (by omega)).mono ?_
  rintro e x' ⟨he, v0', v1', v', σ', ρ', vb', vw', es', j', l', bb', kp⟩
  exact ⟨he, h'.some j' (by omega) bb' (kp bx q2 hal)⟩
theorem sta_told {w1 : World} {K R Q bx m : Nat} {x : World} (h : Sta w1 K R Q bx m x) (hm : m + 4 ≤ 1099511627776) :
    Calls Try.prog 18 #[.agg #[.pointer (some ⟨K, 0, none⟩), .pointer (some ⟨R, 0, none⟩)], .pointer (some ⟨Q, 0, none⟩)] x fun e x' => e = .returned (.bool true) ∧ Sta w1 K R Q bx (m + 4) x' ∧ Frm w1 bx x x' := by
  have h' := h
  obtain ⟨⟨v0, v1, v, σ, ρ, vb, vw, es, jx, hel, hal⟩, hbw, q0, q1, q2⟩ := h
  refine (told_any jx (by omega)).mono ?_
  rintro e x' ⟨he, ρ', vb', vw', es', j', l', bb', o', p'⟩
  exact ⟨he, h'.some j' (by omega) bb' (Keep.book (Below.refl _ _) o' p' bx q2 hal)⟩
/-- Behind Alone the book is empty. -/
theorem Jt.alone {w w' : World} {B K R : Nat} {v0 v1 : Value} {v : Nat → Value} {σ : Sg} {Q : Nat} {ρ : Nat → Nat} {vb vw : Value} {es : List Ent} (h : Jt w B K R v0 v1 v σ Q ρ vb vw es) (hb : Bk w' B Q (fun k => if k = Q then 1 else 0) (.slice none 0 0) (.slice none 0 0) []) (ho : Off (fun k => ρ k = 1 ∨ ∃ j, ρ k = 6 + 2 * j) w w') : Jt w' B K R v0 v1 v σ Q (fun k => if k = Q then 1 else 0) (.slice none 0 0) (.slice none 0 0) [] ∧ Below B w w' := by
  have hz : ∀ k, ρ k = 0 → ¬ (ρ k = 1 ∨ ∃ j, ρ k = 6 + 2 * j) := fun k e g => by rcases g with g | ⟨j, g⟩ <;> omega
  have hq := h.bk.pK
  have hne : ∀ k, ρ k = 0 → k ≠ Q := fun k e g => by subst g; omega
  refine ⟨⟨h.pr.off ho (fun k hk => hz k (h.ze k hk)), h.ok, hb, fun k hk => if_neg (hne k (h.ze k hk)), fun i e he => by simp at he, h.hQ, fun k hk => if_neg (hne k (h.lo k hk))⟩, ho.below h.hB (fun k p => ?_)⟩
  rcases Nat.lt_or_ge k B with g | g
  · exact absurd p (hz k (h.lo k g))
  · exact g
theorem sta_alone {w1 : World} {K R Q bx m : Nat} {x : World} (h : Sta w1 K R Q bx m x) (hm : m + 1 ≤ 1099511627776) :
    Calls Try.prog 20 #[.pointer (some ⟨Q, 0, none⟩)] x fun e x' => e = .returned (.bool true) ∧ Sta w1 K R Q bx 0 x' ∧ Frm w1 bx x x' := by
  have h' := h
  obtain ⟨⟨v0, v1, v, σ, ρ, vb, vw, es, jx, hel, hal⟩, hbw, q0, q1, q2⟩ := h
  refine (Alone_true jx.bk jx.eq (by omega)).mono ?_
  rintro e x' ⟨he, hbk, o'⟩
  have j' := jx.alone hbk o'
  have hz : ¬ (ρ bx = 1 ∨ ∃ j, ρ bx = 6 + 2 * j) := fun g => by have := hal.2; rcases g with g | ⟨j, g⟩ <;> omega
  have hne : bx ≠ Q := fun g => by have := jx.bk.pK; have := hal.2; subst g; omega
  exact ⟨he, h'.some j'.1 (Nat.zero_le _) j'.2 ⟨o'.block bx q2 hz, hal.1, if_neg hne⟩⟩
end Go.Proofs.Ytbljepiejbikaaa
