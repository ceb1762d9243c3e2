import Derived.Test.YtoijhecphgdfnaaGreatDoorJsPl6
import Derived.Test.YtoijhecphgdfnaaGreatDoorJsPl2
import Derived.Test.YtoijhecphgdfnaaGreatDoorJsPl8
import Derived.Test.YtoijhecphgdfnaaGreatDoorHsAlone
import Derived.Test.YtoijhecphgdfnaaGreatDoorOxOpenU
import Derived.Test.YtoijhecphgdfnaaGreatDoorDcPa
import Derived.Carry
/-
  The law's plays: Next.
-/
namespace Go.Proofs.YtoijhecphgdfnaaGreatDoor
open Go.RowKit

section
variable {w w1 w2 w3 w4 w' z : World} {K b kb r B hb n m : Nat} {v L : Value} {f : Nat → Value} {sq : Bool} {tr : Int} {ms rs : List Msg}
/-- Looked at alone; then Held. -/
theorem PlH.looked (h : Pr w K b kb r v L sq tr ms rs) (hw : HW w B hb n f) (h3 : Below w.heap.size w w3) (hq : HWQ w3 B hb m f w4) (hz : Below w4.heap.size w4 z) : PlH w K b kb r B hb m v L f sq tr ms rs z := by
  have p3 := h.pb.below h3
  have hw3 := hw.below h3
  obtain ⟨f4, q1, q2, q3⟩ := hq
  exact ⟨v, L, ms, rs, f4, ⟨(p3.off q3 fun q hf hk => hft_ne p3 hw3 hf hk).below hz, h.wis, h.ok⟩, q1.below hz, fun q h1 => Or.inl h1, fun q h1 => (q2 q h1).imp id fun g => Nat.le_trans h3.size g, ((Off.of_below h3).trans (q3.trans (Off.of_below hz))).mono fun q h1 => Or.inr h1⟩
end
end Go.Proofs.YtoijhecphgdfnaaGreatDoor

/-
  The law's plays: Get.
-/
namespace Go.Proofs.YtoijhecphgdfnaaGreatDoor
open Go.RowKit

section
variable {w w1 w2 w3 w4 w' z : World} {K b kb r B hb n m : Nat} {v L : Value} {f : Nat → Value} {sq : Bool} {tr : Int} {ms rs : List Msg}
end
end Go.Proofs.YtoijhecphgdfnaaGreatDoor

/-
  The law's plays: all.
-/
namespace Go.Proofs.YtoijhecphgdfnaaGreatDoor
open Go.RowKit

section
variable {w w1 w2 w3 w4 w' z : World} {K b kb r B hb n m : Nat} {v L : Value} {f : Nat → Value} {sq : Bool} {tr : Int} {ms rs : List Msg}
theorem PlH.back (h1 : Below w.heap.size w w1) (h : PlH w1 K b kb r B hb m v L f sq tr ms rs w') : PlH w K b kb r B hb m v L f sq tr ms rs w' := by
  obtain ⟨v', L', ms', rs', f', p1, p2, p3, p4, p5⟩ := h
  exact ⟨v', L', ms', rs', f', p1, p2, fun q hq => (p3 q hq).imp id fun g => Nat.le_trans h1.size g, fun q hq => (p4 q hq).imp id fun g => Nat.le_trans h1.size g, (Off.of_below h1).trans p5⟩
end
end Go.Proofs.YtoijhecphgdfnaaGreatDoor

/-
  The law's plays, whatever the call.
-/
namespace Go.Proofs.YtoijhecphgdfnaaGreatDoor
open Go.RowKit

section
variable {w w1 w2 w3 w4 w' z : World} {K b kb r B hb n m : Nat} {v L : Value} {f : Nat → Value} {sq : Bool} {tr : Int} {ms rs : List Msg}
theorem PlH.more {k : Nat} (h : PlH w K b kb r B hb m v L f sq tr ms rs w') (hk : m ≤ k) : PlH w K b kb r B hb k v L f sq tr ms rs w' := by
  obtain ⟨v', L', ms', rs', f', p1, p2, p3⟩ := h
  exact ⟨v', L', ms', rs', f', p1, p2.more hk, p3⟩
/-- What a call writes lies behind the world in which the law began. -/
theorem Off.behind {P : Nat → Prop} {W : World} (hW : Below W.heap.size W w) (o : Off P w w') (hP : ∀ q, P q → W.heap.size ≤ q) : Below W.heap.size W w' := hW.trans (o.below hW.size fun q hq => hP q hq)
theorem ft_behind (h : Pb w K b kb r v L sq tr ms rs) (hw : HW w B hb n f) {N : Nat} (hK : N ≤ K) (hB : N ≤ B) {q : Nat} (hq : Ft b kb r v L ms rs q ∨ HFt hb f q) : N ≤ q := by
  rcases hq with g | g | ⟨j, hj, e⟩
  · exact Nat.le_trans hK (h.lt g).1
  · subst g; exact Nat.le_trans hB hw.lB
  · obtain ⟨xs, _, hr⟩ := hw.row j hj
    exact Nat.le_trans hB (ERow.lt hr e).1
/-- The law's own box of both is none of theirs. -/
theorem ft_two (h : Pb w K b kb r v L sq tr ms rs) (hw : HW w B hb n f) {q : Nat} {cs : Array Value} (hc : w.heap[q]? = some (.cells cs 29 (0, 0))) : ¬ (Ft b kb r v L ms rs q ∨ HFt hb f q) := fun e => by
  rcases e with h1 | h1
  · have key : ∃ cs t, w.heap[q]? = some (.cells cs t (0, 0)) ∧ t ≠ 29 := by
      rcases h1 with e | e | e | e | e | ⟨m, hm, e⟩ | ⟨m, hm, e⟩
      · subst e; exact ⟨_, _, h.bx.1, by decide⟩
      · subst e; exact ⟨_, _, h.bx.2.1.1, by decide⟩
      · subst e; exact ⟨_, _, h.rb.blk, by decide⟩
      · obtain ⟨cs, hc⟩ := msrow_type h.bx.2.1.2.1 e
        exact ⟨_, _, hc, by decide⟩
      · obtain ⟨cs, hc⟩ := msrow_type h.rb.row e
        exact ⟨_, _, hc, by decide⟩
      · obtain ⟨cs, hc⟩ := brow_type (h.bx.2.2 m hm).1 e
        exact ⟨_, _, hc, by decide⟩
      · obtain ⟨cs, hc⟩ := brow_type (h.rb.own m hm).1 e
        exact ⟨_, _, hc, by decide⟩
    obtain ⟨cs', t, hc', ht⟩ := key
    rw [hc] at hc'
    simp only [Option.some.injEq, Obj.cells.injEq] at hc'
    exact ht hc'.2.1.symm
  · exact held_ne hw hc (by decide) (by decide) (by decide) (by decide) h1
/-- Between two calls. -/
structure CaI (W : World) (K b kb r hb xb : Nat) (sq : Bool) (tr : Int) (i : Nat) (w : World) : Prop where
  st : ∃ v L ms rs f, Pr w K b kb r v L sq tr ms rs ∧ HW w W.heap.size hb (200 * i) f
  bx : w.heap[xb]? = some (.cells #[.pointer (some ⟨b, 0, none⟩), .pointer (some ⟨r, 0, none⟩)] 29 (0, 0))
  bel : Below W.heap.size W w
theorem CaI.below {W : World} {i xb : Nat} (h : CaI W K b kb r hb xb sq tr i w) (h9 : Below w.heap.size w w') : CaI W K b kb r hb xb sq tr i w' := by
  obtain ⟨v, L, ms, rs, f, h1, h2⟩ := h.st
  exact ⟨⟨v, L, ms, rs, f, h1.below h9, h2.below h9⟩, (h9.block _ (blk_lt h.bx)).trans h.bx, below_then h.bel h9⟩
theorem PlH.ca {W : World} {i xb : Nat} (h8 : CaI W K b kb r hb xb sq tr i w) (hK : W.heap.size ≤ K) (h0 : Pr w K b kb r v L sq tr ms rs) (hw : HW w W.heap.size hb (200 * i) f) (h : PlH w K b kb r W.heap.size hb (200 * i + 200) v L f sq tr ms rs w') : CaI W K b kb r hb xb sq tr (i + 1) w' := by
  obtain ⟨v', L', ms', rs', f', p1, p2, _, _, p5⟩ := h
  exact ⟨⟨v', L', ms', rs', f', p1, p2.more (by omega)⟩, (p5.block _ (blk_lt h8.bx) (ft_two h0.pb hw h8.bx)).trans h8.bx, Off.behind h8.bel p5 fun q hq => ft_behind h0.pb hw hK (Nat.le_refl _) hq⟩
end
end Go.Proofs.YtoijhecphgdfnaaGreatDoor

/-
  OutboxCalls, walked.
-/
namespace Go.Proofs.YtoijhecphgdfnaaGreatDoor
open Go.RowKit

/-- What made answers are pointers. -/
theorem MadeQ.ptr {W : World} {sq : Bool} {tr : Int} {xs : List Msg} {e : Ending} {w' : World} (h : MadeQ W sq tr xs e w') : ∃ pb pr, e = .returned (.tuple #[.agg #[.pointer pb, .pointer pr], .bool true]) ∧ Hid (∃ K, W.heap.size ≤ K ∧ MRes K sq tr xs (.pointer pb) (.pointer pr) w' ∧ Below W.heap.size W w') := by
  obtain ⟨bv, rv, e1, h1⟩ := h
  obtain ⟨K, hK, hM, hb⟩ := h1.out
  have key : ∃ pb pr, bv = .pointer pb ∧ rv = .pointer pr := by
    rcases hM with ⟨h2, h3⟩ | ⟨b, kb, v, ms, r, L, rs, h2, h3, _⟩
    · exact ⟨_, _, h2, h3⟩
    · exact ⟨_, _, h2, h3⟩
  obtain ⟨pb, pr, rfl, rfl⟩ := key
  exact ⟨pb, pr, e1, K, hK, hM, hb⟩
section
end
end Go.Proofs.YtoijhecphgdfnaaGreatDoor

/-
  The law's plays, all, alone, whatever the call: the state between.
-/
namespace Go.Proofs.YtoijhecphgdfnaaGreatDoor
open Go.RowKit

section
variable {w w' : World} {K b kb r B hb n : Nat} {v L : Value} {σ : Hs} {sq : Bool} {tr : Int} {ms rs : List Msg}
theorem plays_anyJ (h : JS w K b kb r B hb n v L σ sq tr ms rs) (hV : PVc w) (hn : n + 200 ≤ 1000000000) (x : Opv) (hp : Byts w x.tp x.tn x.tx) (hpo : x.tp = none → x.tc = 0) (hl : x.tn + 90 ≤ 140737488355328) (hK : 0 < x.tn → ∀ b o, x.tp = some ⟨b, o, none⟩ → b < K) :
    Calls Tryz.prog 7 #[.agg #[.pointer (some ⟨b, 0, none⟩), .pointer (some ⟨r, 0, none⟩)], .agg #[.int .i64 x.kd, .string x.ct, .slice x.tp x.tn x.tc, .bool x.e, .int .i64 x.a, .int .i64 x.p, .string x.cd, .int .i64 x.n], .pointer (some ⟨hb, 0, none⟩)] w fun e w' => e = .returned (.bool true) ∧ Hid (PlJ w K b kb r B hb (n + 66) v L σ sq tr ms rs w') := by
  by_cases h1 : x.kd = 1
  · rw [h1]; exact (plays_add h.pr hV x hp hpo hl hK _).mono fun e w' ⟨e1, g⟩ => ⟨e1, (PlR.toJ h g.out).more (by omega)⟩
  by_cases h2 : x.kd = 2
  · rw [h2]; exact (plays_nextJ h (by omega) x).mono fun e w' ⟨e1, g⟩ => ⟨e1, g.out.more (by omega)⟩
  by_cases h3 : x.kd = 3
  · rw [h3]; exact (plays_give h.pr x _).mono fun e w' ⟨e1, g⟩ => ⟨e1, (PlR.toJ h g.out).more (by omega)⟩
  by_cases h4 : x.kd = 4
  · rw [h4]; exact (plays_goJ h hV (by omega) x (goA_len2 _ _ _)).mono fun e w' ⟨e1, g⟩ => ⟨e1, g.out.more (by omega)⟩
  by_cases h5 : x.kd = 5
  · rw [h5]; exact (plays_heardJ h hV (by omega) x (heardA_len2 _ _ _ _ _)).mono fun e w' ⟨e1, g⟩ => ⟨e1, g.out.more (by omega)⟩
  by_cases h6 : x.kd = 6
  · rw [h6]; exact (plays_dueJ h hV (by omega) x (dueA_len2 _ _)).mono fun e w' ⟨e1, g⟩ => ⟨e1, g.out.more (by omega)⟩
  by_cases h7 : x.kd = 7
  · rw [h7]; exact (plays_getJ h (by omega) x).mono fun e w' ⟨e1, g⟩ => ⟨e1, g.out.more (by omega)⟩
  by_cases h8 : x.kd = 8
  · rw [h8]; exact (plays_allJ h (by omega) x).mono fun e w' ⟨e1, g⟩ => ⟨e1, g.out.more (by omega)⟩
  · exact (plays_other h.pr x h1 h2 h3 h4 h5 h6 h7 h8 _).mono fun e w' ⟨e1, g⟩ => ⟨e1, (PlR.toJ h g.out).more (by omega)⟩
theorem ft_two0 (h : Pb w K b kb r v L sq tr ms rs) {q : Nat} {cs : Array Value} (hc : w.heap[q]? = some (.cells cs 29 (0, 0))) : ¬ Ft b kb r v L ms rs q := fun h1 => by
  have key : ∃ cs t, w.heap[q]? = some (.cells cs t (0, 0)) ∧ t ≠ 29 := by
    rcases h1 with e | e | e | e | e | ⟨m, hm, e⟩ | ⟨m, hm, e⟩
    · subst e; exact ⟨_, _, h.bx.1, by decide⟩
    · subst e; exact ⟨_, _, h.bx.2.1.1, by decide⟩
    · subst e; exact ⟨_, _, h.rb.blk, by decide⟩
    · obtain ⟨cs, hc⟩ := msrow_type h.bx.2.1.2.1 e
      exact ⟨_, _, hc, by decide⟩
    · obtain ⟨cs, hc⟩ := msrow_type h.rb.row e
      exact ⟨_, _, hc, by decide⟩
    · obtain ⟨cs, hc⟩ := brow_type (h.bx.2.2 m hm).1 e
      exact ⟨_, _, hc, by decide⟩
    · obtain ⟨cs, hc⟩ := brow_type (h.rb.own m hm).1 e
      exact ⟨_, _, hc, by decide⟩
  obtain ⟨cs', t, hc', ht⟩ := key
  rw [hc] at hc'
  simp only [Option.some.injEq, Obj.cells.injEq] at hc'
  exact ht hc'.2.1.symm
/-- The law's own box of both, behind the world in which the law began. -/
structure JaG (W : World) (b r xb : Nat) (w : World) : Prop where
  bx : w.heap[xb]? = some (.cells #[.pointer (some ⟨b, 0, none⟩), .pointer (some ⟨r, 0, none⟩)] 29 (0, 0))
  bel : Below W.heap.size W w
/-- Between two calls. -/
structure JaI (W : World) (K b kb r hb xb : Nat) (sq : Bool) (tr : Int) (m : Nat) (w : World) : Prop where
  st : ∃ v L ms rs σ, JS w K b kb r W.heap.size hb m v L σ sq tr ms rs ∧ ¬ HsFt σ xb
  g : JaG W b r xb w
variable {W : World} {xb m : Nat}
theorem JaG.below (h : JaG W b r xb w) (h9 : Below w.heap.size w w') : JaG W b r xb w' := ⟨(h9.block _ (blk_lt h.bx)).trans h.bx, below_then h.bel h9⟩
theorem JaG.drew (h : JaG W b r xb w) : JaG W b r xb w.drew := h.below (Below.drew (Below.refl _ _))
theorem JaG.cells (h : JaG W b r xb w) : w.cell? ⟨xb, 0, none⟩ = some (.pointer (some ⟨b, 0, none⟩)) ∧ w.cell? ⟨xb, 1, none⟩ = some (.pointer (some ⟨r, 0, none⟩)) := by
  have hbx := h.bx
  exact ⟨by simp [World.cell?, hbx], by simp [World.cell?, hbx]⟩
theorem JaI.below (h : JaI W K b kb r hb xb sq tr m w) (h9 : Below w.heap.size w w') : JaI W K b kb r hb xb sq tr m w' := by
  obtain ⟨v, L, ms, rs, σ, h1, h2⟩ := h.st
  exact ⟨⟨v, L, ms, rs, σ, h1.below h9, h2⟩, h.g.below h9⟩
theorem JaI.more {k : Nat} (h : JaI W K b kb r hb xb sq tr m w) (hm : m ≤ k) : JaI W K b kb r hb xb sq tr k w := by
  obtain ⟨v, L, ms, rs, σ, h1, h2⟩ := h.st
  exact ⟨⟨v, L, ms, rs, σ, h1.more hm, h2⟩, h.g⟩
theorem PlJ.ja {k : Nat} (hg : JaG W b r xb w) (hK : W.heap.size ≤ K) (h0 : JS w K b kb r W.heap.size hb m v L σ sq tr ms rs) (hx : ¬ HsFt σ xb) (h : PlJ w K b kb r W.heap.size hb k v L σ sq tr ms rs w') : JaI W K b kb r hb xb sq tr k w' := by
  obtain ⟨v', L', ms', rs', σ', p1, p2, p3, p5⟩ := h
  have hxl := blk_lt hg.bx
  refine ⟨⟨v', L', ms', rs', σ', p1, fun e => ?_⟩, (p5.block _ hxl fun e => ?_).trans hg.bx, Off.behind hg.bel p5 fun q hq => ?_⟩
  · rcases p3 xb e with g | g
    · exact hx g
    · omega
  · rcases e with e | e
    · exact ft_two0 h0.pr.pb hg.bx e
    · exact hx e
  · rcases hq with e | e
    · exact Nat.le_trans hK (h0.pr.pb.lt e).1
    · exact (h0.hs.lt e).1
/-- One call of plays. -/
theorem JaI.plays (h : JaI W K b kb r hb xb sq tr m w) (hK : W.heap.size ≤ K) (hV : PVc W) (hn : m + 200 ≤ 1000000000) (x : Opv) (hp : Byts W x.tp x.tn x.tx) (hpo : x.tp = none → x.tc = 0) (hl : x.tn ≤ 1048576) :
    Calls Tryz.prog 7 #[.agg #[.pointer (some ⟨b, 0, none⟩), .pointer (some ⟨r, 0, none⟩)], .agg #[.int .i64 x.kd, .string x.ct, .slice x.tp x.tn x.tc, .bool x.e, .int .i64 x.a, .int .i64 x.p, .string x.cd, .int .i64 x.n], .pointer (some ⟨hb, 0, none⟩)] w fun e w' => e = .returned (.bool true) ∧ Hid (JaI W K b kb r hb xb sq tr (m + 66) w') := by
  obtain ⟨v, L, ms, rs, σ, h1, h2⟩ := h.st
  refine (plays_anyJ h1 (hV.below h.g.bel) hn x (hp.below h.g.bel) hpo (by omega) fun h0 c o e => ?_).mono fun e w' ⟨e1, g⟩ => ⟨e1, g.out.ja h.g hK h1 h2⟩
  obtain ⟨c', o', e2, hl2, _⟩ := hp.cell 0 h0
  rw [e] at e2
  injection e2 with e2
  injection e2 with e2
  omega
/-- One call of all. -/
theorem JaI.all (h : JaI W K b kb r hb xb sq tr m w) (hK : W.heap.size ≤ K) (hn : m + 200 ≤ 1000000000) :
    Calls Tryz.prog 8 #[.agg #[.pointer (some ⟨b, 0, none⟩), .pointer (some ⟨r, 0, none⟩)], .pointer (some ⟨hb, 0, none⟩)] w fun e w' => e = .returned (.bool true) ∧ Hid (JaI W K b kb r hb xb sq tr (m + 66) w') := by
  obtain ⟨v, L, ms, rs, σ, h1, h2⟩ := h.st
  exact (all_anyJ h1 hn).mono fun e w' ⟨e1, g⟩ => ⟨e1, g.out.ja h.g hK h1 h2⟩
/-- One call of alone. -/
theorem JaI.alone (h : JaI W K b kb r hb xb sq tr m w) (hn : m ≤ 300000000) :
    Calls Tryz.prog 9 #[.pointer (some ⟨hb, 0, none⟩)] w fun e w' => e = .returned (.bool true) ∧ Hid (JaI W K b kb r hb xb sq tr m w') := by
  obtain ⟨v, L, ms, rs, σ, h1, h2⟩ := h.st
  refine (alone_s h1.hs hn).mono fun e w' ⟨e1, g⟩ => ⟨e1, ?_⟩
  obtain ⟨σ', q1, q2, q3⟩ := g.out
  have hhb : HsFt σ hb := Or.inl h1.hs.h0.hr.hbl.2
  refine ⟨⟨v, L, ms, rs, σ', ⟨⟨h1.pr.pb.off q3 fun q hf hk => h1.ap q hf hk, h1.pr.wis, h1.pr.ok⟩, q1.more (Nat.zero_le _), fun q hf hk => ?_⟩, fun e => ?_⟩, (q3.block _ (blk_lt h.g.bx) h2).trans h.g.bx, Off.behind h.g.bel q3 fun q hq => (h1.hs.lt hq).1⟩
  · rw [q2 q hk] at hf; exact h1.ap hb hf hhb
  · rw [q2 xb e] at h2; exact h2 hhb
/-- Held, new, strongly. -/
theorem hs_new {w : World} {B n : Nat} (hB : B ≤ w.heap.size) : ∃ σ, HS (w.alloc (.cells #[.slice none 0 0, .slice none 0 0, .slice none 0 0, .slice none 0 0, .slice none 0 0, .slice none 0 0, .slice none 0 0, .slice none 0 0, .slice none 0 0, .slice none 0 0] 41)) B w.heap.size n σ ∧ ∀ g, HsFt σ g → g = w.heap.size := by
  have bx := Box.new w #[.slice none 0 0, .slice none 0 0, .slice none 0 0, .slice none 0 0, .slice none 0 0, .slice none 0 0, .slice none 0 0, .slice none 0 0, .slice none 0 0, .slice none 0 0] 41
  refine ⟨⟨fun _ => .slice none 0 0, rho0 w.heap.size, [], [], []⟩, ⟨⟨⟨⟨_, _, Bo.Bk.empty (fun q hq => ?_) (fun q hq => ?_) (fun q => bx.free q) (by simp; omega)⟩, fun q hq => ?_, fun i j g _ _ _ h => (by cases h), fun q g _ h => (by cases h), fun g hg => by rw [rho0_of hg]; exact hB⟩, LB.nil _ _ _ _ _, LB.nil _ _ _ _ _, fun g hg => ?_, fun i e he => (by simp at he)⟩, fun x hx => (by cases hx), Nat.zero_le _, Nat.zero_le _, Nat.zero_le _, fun x hx => (by cases hx), fun x hx => (by cases hx)⟩, fun g hg => ?_⟩
  · rw [bx.cell (q + 4)]
    rcases q with _ | _ | _ | _ | _ | _ | q
    · rfl
    · rfl
    · rfl
    · rfl
    · rfl
    · rfl
    · omega
  · rw [bx.cell q]
    rcases q with _ | _ | _ | _ | q
    · rfl
    · rfl
    · rfl
    · rfl
    · omega
  · have e : Hs.X ⟨fun _ => .slice none 0 0, rho0 w.heap.size, [], [], []⟩ q = [] := by
      rcases q with _ | _ | _ | _ | q
      · rfl
      · rfl
      · rfl
      · rfl
      · omega
    rw [e]
    exact ERow.nil _ _ _ _ _
  · rcases hg with ⟨x, hx, _⟩ | ⟨x, hx, _⟩ <;> cases hx
  · rcases hg with (e | ⟨q, hq, e⟩) | ⟨x, hx, _⟩ | ⟨x, hx, _⟩
    · exact rho0_of e
    · cases e
    · cases hx
    · cases hx
end
end Go.Proofs.YtoijhecphgdfnaaGreatDoor

/-
  OutboxExact, walked.
-/
namespace Go.Proofs.YtoijhecphgdfnaaGreatDoor
open Go.RowKit

section
set_option maxRecDepth 100000 in
set_option maxHeartbeats 16000000 in
theorem exact_law (ao : Option Addr) (cap : Nat) (xs : List Msg) (sq : Bool) (tr : Int) (bo : Option Addr) (bc : Nat) (ys : List Opv) (W : World) (hV : PVc W) (ho : Outs W ao xs) (hp : ∀ x ∈ xs, Plain x) (hl : xs.length ≤ 1048576) (hw : ∀ x ∈ xs, x.tn ≤ 1048576) (hO : Ops 8 W bo ys) (hm : ys.length ≤ 1048576) (hq : ∀ y ∈ ys, y.tn ≤ 1048576) :
    Calls Tryz.prog 4 #[.agg #[.slice ao xs.length cap, .bool sq, .int .i64 tr], .slice bo ys.length bc] W fun e w' => e = .returned (.bool true) ∧ Below W.heap.size W w' := by
  have b0 : Below W.heap.size W (W.alloc (.cells #[.slice ao xs.length cap, .bool sq, .int .i64 tr] 24)) := (Below.refl _ _).alloc (Nat.le_refl _) _
  have x0 := Box.new W #[.slice ao xs.length cap, .bool sq, .int .i64 tr] 24
  obtain ⟨V, hVV⟩ : ∃ V, W.alloc (.cells #[.slice ao xs.length cap, .bool sq, .int .i64 tr] 24) = V := ⟨_, rfl⟩
  rw [hVV] at b0 x0
  have hmd := made_any ao cap xs sq tr V (hV.below b0) (ho.below b0) hp (by omega) (fun x hx => by have := hw x hx; omega)
  obtain ⟨N, hN⟩ : ∃ N, ys.length = N := ⟨_, rfl⟩
  obtain ⟨M, hM⟩ : ∃ M, xs.length = M := ⟨_, rfl⟩
  rw [hM] at hmd x0 hVV
  have HH : Hid (PVc W ∧ Ops 8 W bo ys ∧ N ≤ 1048576 ∧ (∀ y ∈ ys, y.tn ≤ 1048576) ∧ (∀ x ∈ xs, Plain x) ∧ ys.length = N ∧ Below W.heap.size W V) := ⟨hV, hO, by omega, hq, hp, hN, b0⟩
  have hNi : (N : Int) ≤ 1048576 := by omega
  have c0 : V.cell? ⟨W.heap.size, 0, none⟩ = some (.slice ao M cap) := x0.cell 0
  have c1 : V.cell? ⟨W.heap.size, 1, none⟩ = some (.bool sq) := x0.cell 1
  have c2 : V.cell? ⟨W.heap.size, 2, none⟩ = some (.int .i64 tr) := x0.cell 2
  rw [hN, hM]
  clear hV ho hp hl hw hO hm hq hN hM b0 x0
  go_enter Tryz.func4, Tryz.ntmps4
  go_upto_region 2 with (go_at_call 6; refine hmd.mono ?_; rintro _ w1 hmq; obtain ⟨pb, pr, rfl, H1⟩ := hmq.ptr; clear hmq)
  clear hmd hVV c0 c1 c2
  obtain ⟨K, hK, hM, hb1⟩ := H1.out
  have HK : Hid (V.heap.size ≤ K ∧ Below V.heap.size V w1) := ⟨hK, hb1⟩
  rcases hM.pr HH.out.2.2.2.2.1 with ⟨e1, e2⟩ | ⟨b, kb, v, ms, r, L, rs, e1, e2, hP⟩
  · obtain rfl : pb = none := by injection e1
    obtain rfl : pr = none := by injection e2
    clear e1 e2
    have xA := Box.new w1 #[.pointer none, .pointer none] 29
    have bA : Below w1.heap.size w1 (w1.alloc (.cells #[.pointer none, .pointer none] 29)) := (Below.refl _ _).alloc (Nat.le_refl _) _
    have HB : Hid (Below W.heap.size W (w1.alloc (.cells #[.pointer none, .pointer none] 29))) := below_then (below_then HH.out.2.2.2.2.2.2 hb1) bA
    have c0 : (w1.alloc (.cells #[.pointer none, .pointer none] 29)).cell? ⟨w1.heap.size, 0, none⟩ = some (.pointer none) := xA.cell 0
    clear hM hb1 H1 hK xA bA
    go_wp2_with fail
    go_ret
    exact ⟨rfl, HB.out⟩
  · obtain rfl : pb = some ⟨b, 0, none⟩ := by injection e1
    obtain rfl : pr = some ⟨r, 0, none⟩ := by injection e2
    clear e1 e2
    have xA := Box.new w1 #[.pointer (some ⟨b, 0, none⟩), .pointer (some ⟨r, 0, none⟩)] 29
    have bA : Below w1.heap.size w1 (w1.alloc (.cells #[.pointer (some ⟨b, 0, none⟩), .pointer (some ⟨r, 0, none⟩)] 29)) := (Below.refl _ _).alloc (Nat.le_refl _) _
    have hA : (w1.alloc (.cells #[.pointer (some ⟨b, 0, none⟩), .pointer (some ⟨r, 0, none⟩)] 29)).heap[w1.heap.size]? = some (.cells #[.pointer (some ⟨b, 0, none⟩), .pointer (some ⟨r, 0, none⟩)] 29 (0, 0)) := heap_alloc_new _ _
    obtain ⟨V1, hV1⟩ : ∃ V1, w1.alloc (.cells #[.pointer (some ⟨b, 0, none⟩), .pointer (some ⟨r, 0, none⟩)] 29) = V1 := ⟨_, rfl⟩
    have c0 : (w1.alloc (.cells #[.pointer (some ⟨b, 0, none⟩), .pointer (some ⟨r, 0, none⟩)] 29)).cell? ⟨w1.heap.size, 0, none⟩ = some (.pointer (some ⟨b, 0, none⟩)) := xA.cell 0
    obtain ⟨xb, hxb⟩ : ∃ xb, w1.heap.size = xb := ⟨_, rfl⟩
    rw [hV1] at xA bA hA c0 ⊢
    rw [hxb] at xA hA c0 ⊢
    have bW1 : Below W.heap.size W V1 := below_then (below_then HH.out.2.2.2.2.2.2 hb1) bA
    have hWK : W.heap.size ≤ K := Nat.le_trans HH.out.2.2.2.2.2.2.size hK
    have bH : Below V1.heap.size V1 (V1.alloc (.cells #[.slice none 0 0, .slice none 0 0, .slice none 0 0, .slice none 0 0, .slice none 0 0, .slice none 0 0, .slice none 0 0, .slice none 0 0, .slice none 0 0, .slice none 0 0] 41)) := (Below.refl _ _).alloc (Nat.le_refl _) _
    obtain ⟨σ0, hk, hk2⟩ := hs_new (w := V1) (n := 132 * 0) bW1.size
    obtain ⟨V2, hV2⟩ : ∃ V2, V1.alloc (.cells #[.slice none 0 0, .slice none 0 0, .slice none 0 0, .slice none 0 0, .slice none 0 0, .slice none 0 0, .slice none 0 0, .slice none 0 0, .slice none 0 0, .slice none 0 0] 41) = V2 := ⟨_, rfl⟩
    rw [hV2] at bH hk
    obtain ⟨hb, hhb⟩ : ∃ hb, V1.heap.size = hb := ⟨_, rfl⟩
    rw [hhb] at hk hk2
    have hPA := hP.below bA
    have HC : Hid (JaI W K b kb r hb xb sq tr (132 * 0) V2 ∧ W.heap.size ≤ K) := ⟨⟨⟨v, L, ms, rs, σ0, ⟨hPA.below bH, hk, fun q hf hq => by have := (hPA.pb.lt hf).2; have := hk2 q hq; omega⟩, fun e => by have := hk2 xb e; have := xA.lt; omega⟩, ⟨(bH.block _ (by have := xA.lt; omega)).trans hA, below_then bW1 bH⟩⟩, hWK⟩
    clear hP hM hb1 H1 hK HK bA xA hA bH hk hk2 bW1 hWK hV1 hPA
    go_upto_region 6 with fail
    try rw [hhb]
    try rw [hxb]
    clear hV2 c0 hhb hxb
    go_loopw [4, 8] (fun v t wx => v = .bool false ∧ ∃ i : Nat, i ≤ N ∧ t = .int .i64 i ∧ Hid (JaI W K b kb r hb xb sq tr (132 * i) wx)) (fun _ t _ => N - (intOf t).toNat)
    case atStart => exact ⟨rfl, 0, Nat.zero_le _, rfl, HC.out.1⟩
    case round =>
      obtain ⟨rfl, i, hi, rfl, HI⟩ := hrel
      obtain ⟨x0, x1⟩ := HI.out.g.cells
      by_cases hlt : i < N
      · have hlt1 : (i : Int) < N := by omega
        obtain ⟨x, hx⟩ : ∃ x, ys[i]? = some x := ⟨_, List.getElem?_eq_getElem (by have := HH.out.2.2.2.2.2.1; omega)⟩
        obtain ⟨ob, oo, rfl, hatW⟩ := HH.out.2.1 i x hx
        have gop : ∀ {z : World}, JaG W b r xb z → OpAt z ob (oo + i * 8) x := fun {z} hz => hatW.below hz.bel
        obtain ⟨d0l, d0, d1, d2, d3, d4, d5, d6, d7, dp, dq⟩ := gop HI.out.g
        have hxl := HH.out.2.2.2.1 x (List.mem_of_getElem? hx)
        have hi1 : 132 * i + 200 ≤ 1000000000 := by have := HH.out.2.2.1; omega
        have HP : Hid (∀ z, Below wr.heap.size wr z → Calls Tryz.prog 7 #[.agg #[.pointer (some ⟨b, 0, none⟩), .pointer (some ⟨r, 0, none⟩)], .agg #[.int .i64 x.kd, .string x.ct, .slice x.tp x.tn x.tc, .bool x.e, .int .i64 x.a, .int .i64 x.p, .string x.cd, .int .i64 x.n], .pointer (some ⟨hb, 0, none⟩)] z fun e w' => e = .returned (.bool true) ∧ Hid (JaG W b r xb w') ∧ Hid (JaI W K b kb r hb xb sq tr (132 * i + 66) w')) := fun z hz => ((HI.out.below hz).plays HC.out.2 HH.out.1 hi1 x hatW.p hatW.q hxl).mono fun e w' ⟨e1, h1⟩ => ⟨e1, h1.out.g, h1⟩
        have HAl : Hid (∀ z, JaI W K b kb r hb xb sq tr (132 * i + 66) z → Calls Tryz.prog 8 #[.agg #[.pointer (some ⟨b, 0, none⟩), .pointer (some ⟨r, 0, none⟩)], .pointer (some ⟨hb, 0, none⟩)] z fun e w' => e = .returned (.bool true) ∧ Hid (JaG W b r xb w') ∧ Hid (JaI W K b kb r hb xb sq tr (132 * (i + 1)) w')) := fun z hz => (hz.all HC.out.2 (by have := HH.out.2.2.1; omega)).mono fun e w' ⟨e1, h1⟩ => ⟨e1, h1.out.g, h1.out.more (by omega)⟩
        have HAo : Hid (∀ z, JaI W K b kb r hb xb sq tr (132 * (i + 1)) z → Calls Tryz.prog 9 #[.pointer (some ⟨hb, 0, none⟩)] z fun e w' => e = .returned (.bool true) ∧ Hid (JaI W K b kb r hb xb sq tr (132 * (i + 1)) w')) := fun z hz => hz.alone (by have := HH.out.2.2.1; omega)
        have HG : Hid (JaG W b r xb wr) := HI.out.g
        have gc : ∀ {z : World}, JaG W b r xb z → (z.cell? ⟨xb, 0, none⟩ = some (.pointer (some ⟨b, 0, none⟩)) ∧ z.cell? ⟨xb, 1, none⟩ = some (.pointer (some ⟨r, 0, none⟩)) ∧ z.cell? ⟨ob, oo + i * 8, none⟩ = some (.int .i64 x.kd) ∧ z.cell? ⟨ob, oo + i * 8 + 1, none⟩ = some (.string x.ct) ∧ z.cell? ⟨ob, oo + i * 8 + 2, none⟩ = some (.slice x.tp x.tn x.tc) ∧ z.cell? ⟨ob, oo + i * 8 + 3, none⟩ = some (.bool x.e) ∧ z.cell? ⟨ob, oo + i * 8 + 4, none⟩ = some (.int .i64 x.a) ∧ z.cell? ⟨ob, oo + i * 8 + 5, none⟩ = some (.int .i64 x.p) ∧ z.cell? ⟨ob, oo + i * 8 + 6, none⟩ = some (.string x.cd) ∧ z.cell? ⟨ob, oo + i * 8 + 7, none⟩ = some (.int .i64 x.n)) := fun {z} hz => by
          obtain ⟨y0, y1⟩ := hz.cells
          obtain ⟨_, g0, g1, g2, g3, g4, g5, g6, g7, _, _⟩ := gop hz
          exact ⟨y0, y1, g0, g1, g2, g3, g4, g5, g6, g7⟩
        clear HI dp dq gop hatW hxl hi1 d0l
        have hm6 : (i : Int).tmod 6 = (i : Int) % 6 := Int.tmod_eq_emod_of_nonneg (by omega)
        by_cases h6 : (i : Int) % 6 = 5
        all_goals
          go_upto_region 8 with fail
          go_region_held3 (fun z => (z.cell? ⟨xb, 0, none⟩ = some (.pointer (some ⟨b, 0, none⟩)) ∧ z.cell? ⟨xb, 1, none⟩ = some (.pointer (some ⟨r, 0, none⟩)) ∧ z.cell? ⟨ob, oo + i * 8, none⟩ = some (.int .i64 x.kd) ∧ z.cell? ⟨ob, oo + i * 8 + 1, none⟩ = some (.string x.ct) ∧ z.cell? ⟨ob, oo + i * 8 + 2, none⟩ = some (.slice x.tp x.tn x.tc) ∧ z.cell? ⟨ob, oo + i * 8 + 3, none⟩ = some (.bool x.e) ∧ z.cell? ⟨ob, oo + i * 8 + 4, none⟩ = some (.int .i64 x.a) ∧ z.cell? ⟨ob, oo + i * 8 + 5, none⟩ = some (.int .i64 x.p) ∧ z.cell? ⟨ob, oo + i * 8 + 6, none⟩ = some (.string x.cd) ∧ z.cell? ⟨ob, oo + i * 8 + 7, none⟩ = some (.int .i64 x.n))) ((refine gc ?_; (repeat' (first | (with_reducible exact Hid.out (by assumption)) | (with_reducible refine JaG.drew ?_))))) (first | (go_at_call 7; refine (HP.out _ (Below.drew (Below.refl _ _))).mono ?_; clear HP; rintro _ w6 ⟨rfl, HG6, HI6⟩) | (go_at_call 8; refine (HAl.out _ HI6.out).mono ?_; clear HAl; rintro _ w7 ⟨rfl, HG7, HI7⟩))
          all_goals
            go_wp2_with (go_at_call 9; refine (HAo.out _ HI7.out).mono ?_; rintro _ w8 ⟨rfl, HI8⟩)
            go_roundw
            case rel => exact ⟨rfl, i + 1, hlt, by go_num, by first | exact HI8 | exact HI7⟩
            case measure => simp [intOf]; omega
      · have hlt1 : ¬ (i : Int) < N := by omega
        have hi0 : i ≤ 1048576 := by have := HH.out.2.2.1; omega
        have HAo : Hid (∀ z, Below wr.heap.size wr z → Calls Tryz.prog 9 #[.pointer (some ⟨hb, 0, none⟩)] z fun e w' => e = .returned (.bool true) ∧ Hid (JaI W K b kb r hb xb sq tr (132 * i) w')) := fun z hz => (HI.out.below hz).alone (by omega)
        have HAl : Hid (∀ z, JaI W K b kb r hb xb sq tr (132 * i) z → Calls Tryz.prog 8 #[.agg #[.pointer (some ⟨b, 0, none⟩), .pointer (some ⟨r, 0, none⟩)], .pointer (some ⟨hb, 0, none⟩)] z fun e w' => e = .returned (.bool true) ∧ Hid (Below W.heap.size W w')) := fun z hz => (hz.all HC.out.2 (by omega)).mono fun e w' ⟨e1, h1⟩ => ⟨e1, h1.out.g.bel⟩
        clear HI x0 x1
        go_upto_region 12 with fail
        go_wp2_with (first | (go_at_call 9; refine (HAo.out _ (by first | exact Below.refl _ _ | exact below_drewN (Below.refl _ _) _)).mono ?_; clear HAo; rintro _ w6 ⟨rfl, HI6⟩; obtain ⟨x0, x1⟩ := HI6.out.g.cells) | (go_at_call 8; refine (HAl.out _ HI6.out).mono ?_; rintro _ w7 ⟨rfl, H7⟩))
        go_ret
        exact ⟨rfl, H7.out⟩
end
end Go.Proofs.YtoijhecphgdfnaaGreatDoor

/-
  OutboxExact: the row out of its walk.
-/
namespace Go.Proofs.YtoijhecphgdfnaaGreatDoor.outboxExactUpto
open Go.ChangeShapes Go.WideShapes Go.ChangeAt Go.RowKit

theorem laidOut : laidOutB Tryz.prog = true := by kernel_rfl
theorem given {W : World} (h : laidMetH Tryz.prog Rows.outboxExactUptoRow.laid W) : PVc W := codes_of (show laidMet Tryz.prog [("courier/decide.codes", Rows.laid_courier_decide_codes)] W from h)
theorem trod_block {H : Type} {enc : TypeId × Value → H} {P : Program} {W : World} {base : Nat} {spare : Nat → Bool} {held : Bool} {t : TypeId} {v : Value} {d : DataW H} {ps : List MemPlace} (h : DataW.Trod enc P W base spare held t v d ps) : ∀ x ∈ ps, x.block < W.heap.size := by
  obtain ⟨fuel, hf⟩ := h
  exact fun x hx => DataW.trod_lt _ _ _ _ hf x hx
set_option maxRecDepth 100000 in
theorem contract (H : Type) (enc : TypeId × Value → H) (W : World) (base : Nat) (args : Array Value) (ds gs : List (DataW H)) (before : List MemPlace)
    (hval : ∀ (j : Nat) t v, Tryz.f4.params[j]? = some t → args[j]? = some v → Value.okWide Tryz.prog W .any base t v)
    (hW : DataW.Whole enc Tryz.prog Tryz.f4.params.toList Rows.outboxExactSpec.vars false W args.toList ds gs before)
    (hK : Rows.uptoSmall H (ds ++ gs) = true) (hL : laidMetH Tryz.prog Rows.outboxExactUptoRow.laid W) :
    Calls Tryz.prog 4 args W fun e W' => ∃ v, e = .returned v ∧ Rows.outboxExactSpec.post enc Tryz.prog Tryz.f4 false true false false W args v W' := by
  have hW' := hW
  obtain ⟨p, q, hA0, hV, rfl, hfz, hnd⟩ := hW
  have hA : DataW.TrodAll enc Tryz.prog W 0 (fun _ => true) true Tryz.f4.params.toList args.toList ds p := hA0
  rw [Tryz.params4] at hA hval
  obtain ⟨v0, vs0, d0, ds0, p0, q0, hargs, rfl, rfl, h0, r0⟩ := trodAll_cons hA
  obtain ⟨v1, vs1, d1, ds1, p1, q1, rfl, rfl, rfl, h1, r1⟩ := trodAll_cons r0
  obtain ⟨rfl, rfl, rfl⟩ := trodAll_nil r1
  obtain rfl : args = #[v0, v1] := by cases args; simp_all
  obtain ⟨rfl, rfl⟩ := trodVars_none hV
  have hbk : Rows.uptoBulkAll ([d0, d1] ++ ([] : List (DataW H))) ≤ 1048576 := of_decide_eq_true hK
  simp only [List.append_nil, Rows.uptoBulkAll] at hbk
  have ht0 := h0
  obtain ⟨ao0, cap0, xs0, sq0, tr0, rfl, hO0, hP0, hL0, hT0⟩ := open_madeu (hval 0 24 v0 rfl rfl) h0
  have hy0 : xs0.length ≤ 1048576 := by omega
  have hq0 : ∀ y ∈ xs0, y.tn ≤ 1048576 := fun y hy => by have := hT0 y hy; omega
  have ht1 := h1
  obtain ⟨a1, l1, c1, rfl⟩ := okWide_slice Tryz.underlying25 (hval 1 25 v1 rfl rfl)
  obtain ⟨fu1, hf1⟩ := h1
  obtain ⟨ao1, cap1, xs1, e1, hO1, hz1, hp1⟩ := open_opsu hf1
  obtain ⟨rfl, rfl, rfl⟩ : a1 = ao1 ∧ l1 = xs1.length ∧ c1 = cap1 := by simpa [Value.cells] using e1
  have hd1 : Rows.uptoBulk d1 ≤ 1048576 := by omega
  have hy1 : xs1.length ≤ 1048576 := Nat.le_trans hz1 hd1
  have hq1 : ∀ y ∈ xs1, y.tn ≤ 1048576 := fun y hy => Nat.le_trans (hp1 y hy) hd1
  clear hA0
  refine (exact_law ao0 cap0 xs0 sq0 tr0 a1 c1 xs1 W (given hL) hO0 hP0 hy0 hq0 hO1 hy1 hq1).mono fun e W' ⟨he, hg⟩ => ?_
  subst he
  have e1 : Rows.outboxExactSpec.fn H ([d0, d1] ++ []) = { results := [.lit (.bool true)], args := [d0, d1] } := by simp [Rows.outboxExactSpec]
  refine ⟨_, rfl, _, _, _, [], (p0 ++ (p1 ++ [])), [], hW', ?_, ?_, ?_, hg.frame _, fun h => by cases h⟩
  · rw [e1]; exact trodAll_cons_mk (shut_bool Tryz.underlying4 true) trodAll_mk0
  · rw [e1]; exact trodAll_cons_mk (Below.trod laidOut (show Tryz.prog.readableRec 24 = true by kernel_rfl) (show 24 < Tryz.prog.types.size by rw [typesSize]; decide) ht0 hg (trod_block ht0)) (trodAll_cons_mk (Below.trod laidOut (show Tryz.prog.readableRec 25 = true by kernel_rfl) (show 25 < Tryz.prog.types.size by rw [typesSize]; decide) ht1 hg (trod_block ht1)) (trodAll_mk0))
  · rw [e1]; rfl
theorem reads (os : Os) {H : Type} (enc : TypeId × Value → H) : ∃ places, DataW.whole enc Tryz.prog ((World.doorLaid Tryz.prog 400 os).forCall (fun _ _ => 0) ⟨#[], #[.agg #[.slice none 0 0, .bool false, .int .i64 0], .slice none 0 0], []⟩).memory Tryz.f4.params.toList Rows.outboxExactSpec.vars false #[Value.agg #[.slice none 0 0, .bool false, .int .i64 0], Value.slice none 0 0].toList 8 = some ([.agg [.nil, .lit (.bool false), .lit (.int .i64 0)], .nil], [], places) :=
  ⟨[], by kernel_rfl⟩
theorem door_met (os : Os) : laidMetH Tryz.prog Rows.outboxExactUptoRow.laid ((World.doorLaid Tryz.prog 400 os).forCall (fun _ _ => 0) ⟨#[], #[.agg #[.slice none 0 0, .bool false, .int .i64 0], .slice none 0 0], []⟩).memory :=
  laidMetH_of_parts3 (fuel := 8) (laidMet_of_run' 8 (by kernel_rfl) (by kernel_rfl)) (by kernel_rfl) (by kernel_rfl)
set_option maxRecDepth 100000 in
theorem lifted (os : Os) (started : os.Started) (H : Type) (enc : TypeId × Value → H) (F : Stop.Interp) :
    ReturnsInHanded {} Tryz.checked os 4 .any ((Rows.OpenSpec.upto Rows.outboxExactSpec).preRow enc Tryz.prog Tryz.f4 Rows.outboxExactUptoRow.domain false Rows.outboxExactUptoRow.laid) (((Rows.OpenSpec.upto Rows.outboxExactSpec).at F).post enc Tryz.prog Tryz.f4 false true false false) := by
  obtain ⟨places, hx⟩ := reads os enc
  refine returnsInHanded_of_row (C := Tryz.checked) (s := Rows.OpenSpec.upto Rows.outboxExactSpec) own started (by kernel_rfl) Tryz.func4
    (witness_row_at (enc := enc) (C := Tryz.checked) false (World.doorLaid Tryz.prog 400 os) #[.agg #[.slice none 0 0, .bool false, .int .i64 0], .slice none 0 0] rfl (by kernel_rfl) (by kernel_rfl) (by kernel_rfl)
      (OpenSpec.preRow_of_cond 8 hx (by kernel_rfl) (fun k hk => by cases hk; kernel_rfl) (by kernel_rfl) (door_met os))) ?_
  intro W base args ds gs before hval hW _ hcond _ hL _ _
  exact contract H enc W base args ds gs before hval hW (hcond _ rfl) hL
theorem said : Rows.OutboxExactUptoSaid :=
  OpenClaim.holds_of_cond 4 Tryz.f4 rfl rfl rfl rfl rfl rfl rfl ⟨rfl, rfl, rfl, rfl, rfl⟩ rfl rfl rfl rfl rfl (by kernel_rfl) Tryz.func4 (by kernel_rfl)
    (of_decide_eq_true (by kernel_rfl)) (by unfold Func.isWrapper; first | (rw [if_pos (by decide +kernel)]; kernel_rfl) | (rw [if_neg (by decide +kernel)]; exact ⟨rfl, rfl⟩))
    (fun os started H enc _ F => by rw [OpenClaim.pre_eq_preRow]; exact lifted os started H enc F)
theorem plain (f : FuncId) (fn : Func) (hf : Tryz.pinned.checked.prog.funcNamed "courier/courierlaw14.OutboxExact" = some f) (hfn : Tryz.pinned.checked.prog.funcs[f]? = some fn) :
    true = Tryz.pinned.checked.prog.looks [] ∧ ∀ (j : Nat) t, fn.params[j]? = some t → Tryz.pinned.checked.prog.wantsStandIn t = false := by
  obtain rfl : f = 4 := Option.some.inj ((show Tryz.prog.funcNamed "courier/courierlaw14.OutboxExact" = some 4 by kernel_rfl).symm.trans hf) |>.symm
  obtain rfl : fn = Tryz.f4 := (Option.some.inj (Tryz.func4.symm.trans hfn)).symm
  refine ⟨by kernel_rfl, fun j t ht => ?_⟩
  rw [Tryz.params4] at ht
  have hm : t ∈ [24, 25] := by simpa using Array.mem_of_getElem? ht
  have hall : ([24, 25].all fun u => !Tryz.prog.wantsStandIn u) = true := by kernel_rfl
  exact (show Tryz.prog.wantsStandIn t = false by simpa using List.all_eq_true.1 hall t hm)

theorem card : Rows.OutboxExactUptoCardSaid :=
  Claim7.holds_tied_plain_at .later [] _ _ _ _ said (fun _ h => by cases h) (by kernel_rfl) (fun _ h => by cases h) outboxExactUpto_row_tie rfl ⟨rfl, rfl⟩ (by kernel_rfl) rfl plain (by kernel_rfl)
end Go.Proofs.YtoijhecphgdfnaaGreatDoor.outboxExactUpto

namespace Go.Proofs.YtoijhecphgdfnaaGreatDoor
theorem outboxExact_upto : Rows.OutboxExactUptoCardSaid := outboxExactUpto.card
#print axioms outboxExact_upto
end Go.Proofs.YtoijhecphgdfnaaGreatDoor
