import Derived.Test.YtoijhecphgdfnaaGreatDoorJsPl6
import Derived.Test.YtoijhecphgdfnaaGreatDoorJsPl2
import Derived.Test.YtoijhecphgdfnaaGreatDoorJsPl8
import Derived.Test.YtoijhecphgdfnaaGreatDoorHsAlone
/-
  The law's plays: Next.
-/
namespace Go.Proofs.YtoijhecphgdfnaaGreatDoor
open Go.RowKit

section
variable {w w1 w2 w3 w4 w' z : World} {K b kb r B hb n m : Nat} {v L : Value} {f : Nat → Value} {sq : Bool} {tr : Int} {ms rs : List Msg}
/-- Looked at alone; then Held. -/
theorem PlH.looked (h : Pr w K b kb r v L sq tr ms rs) (hw : HW w B hb n f) (h3 : Below w.heap.size w w3) (hq : HWQ w3 B hb m f w4) (hz : Below w4.heap.size w4 z) : PlH w K b kb r B hb m v L f sq tr ms rs z := by
  have p3 := h.pb.below h3
  have hw3 := hw.below h3
  obtain ⟨f4, q1, q2, q3⟩ := hq
  exact ⟨v, L, ms, rs, f4, ⟨(p3.off q3 fun q hf hk => hft_ne p3 hw3 hf hk).below hz, h.wis, h.ok⟩, q1.below hz, fun q h1 => Or.inl h1, fun q h1 => (q2 q h1).imp id fun g => Nat.le_trans h3.size g, ((Off.of_below h3).trans (q3.trans (Off.of_below hz))).mono fun q h1 => Or.inr h1⟩
end
end Go.Proofs.YtoijhecphgdfnaaGreatDoor

/-
  The law's plays: Get.
-/
namespace Go.Proofs.YtoijhecphgdfnaaGreatDoor
open Go.RowKit

section
variable {w w1 w2 w3 w4 w' z : World} {K b kb r B hb n m : Nat} {v L : Value} {f : Nat → Value} {sq : Bool} {tr : Int} {ms rs : List Msg}
end
end Go.Proofs.YtoijhecphgdfnaaGreatDoor

/-
  The law's plays: all.
-/
namespace Go.Proofs.YtoijhecphgdfnaaGreatDoor
open Go.RowKit

section
variable {w w1 w2 w3 w4 w' z : World} {K b kb r B hb n m : Nat} {v L : Value} {f : Nat → Value} {sq : Bool} {tr : Int} {ms rs : List Msg}
theorem PlH.back (h1 : Below w.heap.size w w1) (h : PlH w1 K b kb r B hb m v L f sq tr ms rs w') : PlH w K b kb r B hb m v L f sq tr ms rs w' := by
  obtain ⟨v', L', ms', rs', f', p1, p2, p3, p4, p5⟩ := h
  exact ⟨v', L', ms', rs', f', p1, p2, fun q hq => (p3 q hq).imp id fun g => Nat.le_trans h1.size g, fun q hq => (p4 q hq).imp id fun g => Nat.le_trans h1.size g, (Off.of_below h1).trans p5⟩
end
end Go.Proofs.YtoijhecphgdfnaaGreatDoor

/-
  The law's plays, whatever the call.
-/
namespace Go.Proofs.YtoijhecphgdfnaaGreatDoor
open Go.RowKit

section
variable {w w1 w2 w3 w4 w' z : World} {K b kb r B hb n m : Nat} {v L : Value} {f : Nat → Value} {sq : Bool} {tr : Int} {ms rs : List Msg}
theorem PlH.more {k : Nat} (h : PlH w K b kb r B hb m v L f sq tr ms rs w') (hk : m ≤ k) : PlH w K b kb r B hb k v L f sq tr ms rs w' := by
  obtain ⟨v', L', ms', rs', f', p1, p2, p3⟩ := h
  exact ⟨v', L', ms', rs', f', p1, p2.more hk, p3⟩
/-- What a call writes lies behind the world in which the law began. -/
theorem Off.behind {P : Nat → Prop} {W : World} (hW : Below W.heap.size W w) (o : Off P w w') (hP : ∀ q, P q → W.heap.size ≤ q) : Below W.heap.size W w' := hW.trans (o.below hW.size fun q hq => hP q hq)
theorem ft_behind (h : Pb w K b kb r v L sq tr ms rs) (hw : HW w B hb n f) {N : Nat} (hK : N ≤ K) (hB : N ≤ B) {q : Nat} (hq : Ft b kb r v L ms rs q ∨ HFt hb f q) : N ≤ q := by
  rcases hq with g | g | ⟨j, hj, e⟩
  · exact Nat.le_trans hK (h.lt g).1
  · subst g; exact Nat.le_trans hB hw.lB
  · obtain ⟨xs, _, hr⟩ := hw.row j hj
    exact Nat.le_trans hB (ERow.lt hr e).1
/-- The law's own box of both is none of theirs. -/
theorem ft_two (h : Pb w K b kb r v L sq tr ms rs) (hw : HW w B hb n f) {q : Nat} {cs : Array Value} (hc : w.heap[q]? = some (.cells cs 29 (0, 0))) : ¬ (Ft b kb r v L ms rs q ∨ HFt hb f q) := fun e => by
  rcases e with h1 | h1
  · have key : ∃ cs t, w.heap[q]? = some (.cells cs t (0, 0)) ∧ t ≠ 29 := by
      rcases h1 with e | e | e | e | e | ⟨m, hm, e⟩ | ⟨m, hm, e⟩
      · subst e; exact ⟨_, _, h.bx.1, by decide⟩
      · subst e; exact ⟨_, _, h.bx.2.1.1, by decide⟩
      · subst e; exact ⟨_, _, h.rb.blk, by decide⟩
      · obtain ⟨cs, hc⟩ := msrow_type h.bx.2.1.2.1 e
        exact ⟨_, _, hc, by decide⟩
      · obtain ⟨cs, hc⟩ := msrow_type h.rb.row e
        exact ⟨_, _, hc, by decide⟩
      · obtain ⟨cs, hc⟩ := brow_type (h.bx.2.2 m hm).1 e
        exact ⟨_, _, hc, by decide⟩
      · obtain ⟨cs, hc⟩ := brow_type (h.rb.own m hm).1 e
        exact ⟨_, _, hc, by decide⟩
    obtain ⟨cs', t, hc', ht⟩ := key
    rw [hc] at hc'
    simp only [Option.some.injEq, Obj.cells.injEq] at hc'
    exact ht hc'.2.1.symm
  · exact held_ne hw hc (by decide) (by decide) (by decide) (by decide) h1
/-- Between two calls. -/
structure CaI (W : World) (K b kb r hb xb : Nat) (sq : Bool) (tr : Int) (i : Nat) (w : World) : Prop where
  st : ∃ v L ms rs f, Pr w K b kb r v L sq tr ms rs ∧ HW w W.heap.size hb (200 * i) f
  bx : w.heap[xb]? = some (.cells #[.pointer (some ⟨b, 0, none⟩), .pointer (some ⟨r, 0, none⟩)] 29 (0, 0))
  bel : Below W.heap.size W w
theorem CaI.below {W : World} {i xb : Nat} (h : CaI W K b kb r hb xb sq tr i w) (h9 : Below w.heap.size w w') : CaI W K b kb r hb xb sq tr i w' := by
  obtain ⟨v, L, ms, rs, f, h1, h2⟩ := h.st
  exact ⟨⟨v, L, ms, rs, f, h1.below h9, h2.below h9⟩, (h9.block _ (blk_lt h.bx)).trans h.bx, below_then h.bel h9⟩
theorem PlH.ca {W : World} {i xb : Nat} (h8 : CaI W K b kb r hb xb sq tr i w) (hK : W.heap.size ≤ K) (h0 : Pr w K b kb r v L sq tr ms rs) (hw : HW w W.heap.size hb (200 * i) f) (h : PlH w K b kb r W.heap.size hb (200 * i + 200) v L f sq tr ms rs w') : CaI W K b kb r hb xb sq tr (i + 1) w' := by
  obtain ⟨v', L', ms', rs', f', p1, p2, _, _, p5⟩ := h
  exact ⟨⟨v', L', ms', rs', f', p1, p2.more (by omega)⟩, (p5.block _ (blk_lt h8.bx) (ft_two h0.pb hw h8.bx)).trans h8.bx, Off.behind h8.bel p5 fun q hq => ft_behind h0.pb hw hK (Nat.le_refl _) hq⟩
end
end Go.Proofs.YtoijhecphgdfnaaGreatDoor

/-
  OutboxCalls, walked.
-/
namespace Go.Proofs.YtoijhecphgdfnaaGreatDoor
open Go.RowKit

/-- What made answers are pointers. -/
theorem MadeQ.ptr {W : World} {sq : Bool} {tr : Int} {xs : List Msg} {e : Ending} {w' : World} (h : MadeQ W sq tr xs e w') : ∃ pb pr, e = .returned (.tuple #[.agg #[.pointer pb, .pointer pr], .bool true]) ∧ Hid (∃ K, W.heap.size ≤ K ∧ MRes K sq tr xs (.pointer pb) (.pointer pr) w' ∧ Below W.heap.size W w') := by
  obtain ⟨bv, rv, e1, h1⟩ := h
  obtain ⟨K, hK, hM, hb⟩ := h1.out
  have key : ∃ pb pr, bv = .pointer pb ∧ rv = .pointer pr := by
    rcases hM with ⟨h2, h3⟩ | ⟨b, kb, v, ms, r, L, rs, h2, h3, _⟩
    · exact ⟨_, _, h2, h3⟩
    · exact ⟨_, _, h2, h3⟩
  obtain ⟨pb, pr, rfl, rfl⟩ := key
  exact ⟨pb, pr, e1, K, hK, hM, hb⟩
section
end
end Go.Proofs.YtoijhecphgdfnaaGreatDoor

/-
  The law's plays, all, alone, whatever the call: the state between.
-/
namespace Go.Proofs.YtoijhecphgdfnaaGreatDoor
open Go.RowKit

section
variable {w w' : World} {K b kb r B hb n : Nat} {v L : Value} {σ : Hs} {sq : Bool} {tr : Int} {ms rs : List Msg}
theorem plays_anyJ (h : JS w K b kb r B hb n v L σ sq tr ms rs) (hV : PVc w) (hn : n + 200 ≤ 1000000000) (x : Opv) (hp : Byts w x.tp x.tn x.tx) (hpo : x.tp = none → x.tc = 0) (hl : x.tn + 90 ≤ 140737488355328) (hK : 0 < x.tn → ∀ b o, x.tp = some ⟨b, o, none⟩ → b < K) :
    Calls Tryz.prog 7 #[.agg #[.pointer (some ⟨b, 0, none⟩), .pointer (some ⟨r, 0, none⟩)], .agg #[.int .i64 x.kd, .string x.ct, .slice x.tp x.tn x.tc, .bool x.e, .int .i64 x.a, .int .i64 x.p, .string x.cd, .int .i64 x.n], .pointer (some ⟨hb, 0, none⟩)] w fun e w' => e = .returned (.bool true) ∧ Hid (PlJ w K b kb r B hb (n + 66) v L σ sq tr ms rs w') := by
  by_cases h1 : x.kd = 1
  · rw [h1]; exact (plays_add h.pr hV x hp hpo hl hK _).mono fun e w' ⟨e1, g⟩ => ⟨e1, (PlR.toJ h g.out).more (by omega)⟩
  by_cases h2 : x.kd = 2
  · rw [h2]; exact (plays_nextJ h (by omega) x).mono fun e w' ⟨e1, g⟩ => ⟨e1, g.out.more (by omega)⟩
  by_cases h3 : x.kd = 3
  · rw [h3]; exact (plays_give h.pr x _).mono fun e w' ⟨e1, g⟩ => ⟨e1, (PlR.toJ h g.out).more (by omega)⟩
  by_cases h4 : x.kd = 4
  · rw [h4]; exact (plays_goJ h hV (by omega) x (goA_len2 _ _ _)).mono fun e w' ⟨e1, g⟩ => ⟨e1, g.out.more (by omega)⟩
  by_cases h5 : x.kd = 5
  · rw [h5]; exact (plays_heardJ h hV (by omega) x (heardA_len2 _ _ _ _ _)).mono fun e w' ⟨e1, g⟩ => ⟨e1, g.out.more (by omega)⟩
  by_cases h6 : x.kd = 6
  · rw [h6]; exact (plays_dueJ h hV (by omega) x (dueA_len2 _ _)).mono fun e w' ⟨e1, g⟩ => ⟨e1, g.out.more (by omega)⟩
  by_cases h7 : x.kd = 7
  · rw [h7]; exact (plays_getJ h (by omega) x).mono fun e w' ⟨e1, g⟩ => ⟨e1, g.out.more (by omega)⟩
  by_cases h8 : x.kd = 8
  · rw [h8]; exact (plays_allJ h (by omega) x).mono fun e w' ⟨e1, g⟩ => ⟨e1, g.out.more (by omega)⟩
  · exact (plays_other h.pr x h1 h2 h3 h4 h5 h6 h7 h8 _).mono fun e w' ⟨e1, g⟩ => ⟨e1, (PlR.toJ h g.out).more (by omega)⟩
theorem ft_two0 (h : Pb w K b kb r v L sq tr ms rs) {q : Nat} {cs : Array Value} (hc : w.heap[q]? = some (.cells cs 29 (0, 0))) : ¬ Ft b kb r v L ms rs q := fun h1 => by
  have key : ∃ cs t, w.heap[q]? = some (.cells cs t (0, 0)) ∧ t ≠ 29 := by
    rcases h1 with e | e | e | e | e | ⟨m, hm, e⟩ | ⟨m, hm, e⟩
    · subst e; exact ⟨_, _, h.bx.1, by decide⟩
    · subst e; exact ⟨_, _, h.bx.2.1.1, by decide⟩
    · subst e; exact ⟨_, _, h.rb.blk, by decide⟩
    · obtain ⟨cs, hc⟩ := msrow_type h.bx.2.1.2.1 e
      exact ⟨_, _, hc, by decide⟩
    · obtain ⟨cs, hc⟩ := msrow_type h.rb.row e
      exact ⟨_, _, hc, by decide⟩
    · obtain ⟨cs, hc⟩ := brow_type (h.bx.2.2 m hm).1 e
      exact ⟨_, _, hc, by decide⟩
    · obtain ⟨cs, hc⟩ := brow_type (h.rb.own m hm).1 e
      exact ⟨_, _, hc, by decide⟩
  obtain ⟨cs', t, hc', ht⟩ := key
  rw [hc] at hc'
  simp only [Option.some.injEq, Obj.cells.injEq] at hc'
  exact ht hc'.2.1.symm
/-- The law's own box of both, behind the world in which the law began. -/
structure JaG (W : World) (b r xb : Nat) (w : World) : Prop where
  bx : w.heap[xb]? = some (.cells #[.pointer (some ⟨b, 0, none⟩), .pointer (some ⟨r, 0, none⟩)] 29 (0, 0))
  bel : Below W.heap.size W w
/-- Between two calls. -/
structure JaI (W : World) (K b kb r hb xb : Nat) (sq : Bool) (tr : Int) (m : Nat) (w : World) : Prop where
  st : ∃ v L ms rs σ, JS w K b kb r W.heap.size hb m v L σ sq tr ms rs ∧ ¬ HsFt σ xb
  g : JaG W b r xb w
variable {W : World} {xb m : Nat}
theorem JaG.below (h : JaG W b r xb w) (h9 : Below w.heap.size w w') : JaG W b r xb w' := ⟨(h9.block _ (blk_lt h.bx)).trans h.bx, below_then h.bel h9⟩
theorem JaG.drew (h : JaG W b r xb w) : JaG W b r xb w.drew := h.below (Below.drew (Below.refl _ _))
theorem JaG.cells (h : JaG W b r xb w) : w.cell? ⟨xb, 0, none⟩ = some (.pointer (some ⟨b, 0, none⟩)) ∧ w.cell? ⟨xb, 1, none⟩ = some (.pointer (some ⟨r, 0, none⟩)) := by
  have hbx := h.bx
  exact ⟨by simp [World.cell?, hbx], by simp [World.cell?, hbx]⟩
theorem JaI.below (h : JaI W K b kb r hb xb sq tr m w) (h9 : Below w.heap.size w w') : JaI W K b kb r hb xb sq tr m w' := by
  obtain ⟨v, L, ms, rs, σ, h1, h2⟩ := h.st
  exact ⟨⟨v, L, ms, rs, σ, h1.below h9, h2⟩, h.g.below h9⟩
theorem JaI.more {k : Nat} (h : JaI W K b kb r hb xb sq tr m w) (hm : m ≤ k) : JaI W K b kb r hb xb sq tr k w := by
  obtain ⟨v, L, ms, rs, σ, h1, h2⟩ := h.st
  exact ⟨⟨v, L, ms, rs, σ, h1.more hm, h2⟩, h.g⟩
theorem PlJ.ja {k : Nat} (hg : JaG W b r xb w) (hK : W.heap.size ≤ K) (h0 : JS w K b kb r W.heap.size hb m v L σ sq tr ms rs) (hx : ¬ HsFt σ xb) (h : PlJ w K b kb r W.heap.size hb k v L σ sq tr ms rs w') : JaI W K b kb r hb xb sq tr k w' := by
  obtain ⟨v', L', ms', rs', σ', p1, p2, p3, p5⟩ := h
  have hxl := blk_lt hg.bx
  refine ⟨⟨v', L', ms', rs', σ', p1, fun e => ?_⟩, (p5.block _ hxl fun e => ?_).trans hg.bx, Off.behind hg.bel p5 fun q hq => ?_⟩
  · rcases p3 xb e with g | g
    · exact hx g
    · omega
  · rcases e with e | e
    · exact ft_two0 h0.pr.pb hg.bx e
    · exact hx e
  · rcases hq with e | e
    · exact Nat.le_trans hK (h0.pr.pb.lt e).1
    · exact (h0.hs.lt e).1
/-- One call of plays. -/
theorem JaI.plays (h : JaI W K b kb r hb xb sq tr m w) (hK : W.heap.size ≤ K) (hV : PVc W) (hn : m + 200 ≤ 1000000000) (x : Opv) (hp : Byts W x.tp x.tn x.tx) (hpo : x.tp = none → x.tc = 0) (hl : x.tn ≤ 1048576) :
    Calls Tryz.prog 7 #[.agg #[.pointer (some ⟨b, 0, none⟩), .pointer (some ⟨r, 0, none⟩)], .agg #[.int .i64 x.kd, .string x.ct, .slice x.tp x.tn x.tc, .bool x.e, .int .i64 x.a, .int .i64 x.p, .string x.cd, .int .i64 x.n], .pointer (some ⟨hb, 0, none⟩)] w fun e w' => e = .returned (.bool true) ∧ Hid (JaI W K b kb r hb xb sq tr (m + 66) w') := by
  obtain ⟨v, L, ms, rs, σ, h1, h2⟩ := h.st
  refine (plays_anyJ h1 (hV.below h.g.bel) hn x (hp.below h.g.bel) hpo (by omega) fun h0 c o e => ?_).mono fun e w' ⟨e1, g⟩ => ⟨e1, g.out.ja h.g hK h1 h2⟩
  obtain ⟨c', o', e2, hl2, _⟩ := hp.cell 0 h0
  rw [e] at e2
  injection e2 with e2
  injection e2 with e2
  omega
/-- One call of all. -/
theorem JaI.all (h : JaI W K b kb r hb xb sq tr m w) (hK : W.heap.size ≤ K) (hn : m + 200 ≤ 1000000000) :
    Calls Tryz.prog 8 #[.agg #[.pointer (some ⟨b, 0, none⟩), .pointer (some ⟨r, 0, none⟩)], .pointer (some ⟨hb, 0, none⟩)] w fun e w' => e = .returned (.bool true) ∧ Hid (JaI W K b kb r hb xb sq tr (m + 66) w') := by
  obtain ⟨v, L, ms, rs, σ, h1, h2⟩ := h.st
  exact (all_anyJ h1 hn).mono fun e w' ⟨e1, g⟩ => ⟨e1, g.out.ja h.g hK h1 h2⟩
/-- One call of alone. -/
theorem JaI.alone (h : JaI W K b kb r hb xb sq tr m w) (hn : m ≤ 300000000) :
    Calls Tryz.prog 9 #[.pointer (some ⟨hb, 0, none⟩)] w fun e w' => e = .returned (.bool true) ∧ Hid (JaI W K b kb r hb xb sq tr m w') := by
  obtain ⟨v, L, ms, rs, σ, h1, h2⟩ := h.st
  refine (alone_s h1.hs hn).mono fun e w' ⟨e1, g⟩ => ⟨e1, ?_⟩
  obtain ⟨σ', q1, q2, q3⟩ := g.out
  have hhb : HsFt σ hb := Or.inl h1.hs.h0.hr.hbl.2
  refine ⟨⟨v, L, ms, rs, σ', ⟨⟨h1.pr.pb.off q3 fun q hf hk => h1.ap q hf hk, h1.pr.wis, h1.pr.ok⟩, q1.more (Nat.zero_le _), fun q hf hk => ?_⟩, fun e => ?_⟩, (q3.block _ (blk_lt h.g.bx) h2).trans h.g.bx, Off.behind h.g.bel q3 fun q hq => (h1.hs.lt hq).1⟩
  · rw [q2 q hk] at hf; exact h1.ap hb hf hhb
  · rw [q2 xb e] at h2; exact h2 hhb
/-- Held, new, strongly. -/
theorem hs_new {w : World} {B n : Nat} (hB : B ≤ w.heap.size) : ∃ σ, HS (w.alloc (.cells #[.slice none 0 0, .slice none 0 0, .slice none 0 0, .slice none 0 0, .slice none 0 0, .slice none 0 0, .slice none 0 0, .slice none 0 0, .slice none 0 0, .slice none 0 0] 41)) B w.heap.size n σ ∧ ∀ g, HsFt σ g → g = w.heap.size := by
  have bx := Box.new w #[.slice none 0 0, .slice none 0 0, .slice none 0 0, .slice none 0 0, .slice none 0 0, .slice none 0 0, .slice none 0 0, .slice none 0 0, .slice none 0 0, .slice none 0 0] 41
  refine ⟨⟨fun _ => .slice none 0 0, rho0 w.heap.size, [], [], []⟩, ⟨⟨⟨⟨_, _, Bo.Bk.empty (fun q hq => ?_) (fun q hq => ?_) (fun q => bx.free q) (by simp; omega)⟩, fun q hq => ?_, fun i j g _ _ _ h => (by cases h), fun q g _ h => (by cases h), fun g hg => by rw [rho0_of hg]; exact hB⟩, LB.nil _ _ _ _ _, LB.nil _ _ _ _ _, fun g hg => ?_, fun i e he => (by simp at he)⟩, fun x hx => (by cases hx), Nat.zero_le _, Nat.zero_le _, Nat.zero_le _, fun x hx => (by cases hx), fun x hx => (by cases hx)⟩, fun g hg => ?_⟩
  · rw [bx.cell (q + 4)]
    rcases q with _ | _ | _ | _ | _ | _ | q
    · rfl
    · rfl
    · rfl
    · rfl
    · rfl
    · rfl
    · omega
  · rw [bx.cell q]
    rcases q with _ | _ | _ | _ | q
    · rfl
    · rfl
    · rfl
    · rfl
    · omega
  · have e : Hs.X ⟨fun _ => .slice none 0 0, rho0 w.heap.size, [], [], []⟩ q = [] := by
      rcases q with _ | _ | _ | _ | q
      · rfl
      · rfl
      · rfl
      · rfl
      · omega
    rw [e]
    exact ERow.nil _ _ _ _ _
  · rcases hg with ⟨x, hx, _⟩ | ⟨x, hx, _⟩ <;> cases hx
  · rcases hg with (e | ⟨q, hq, e⟩) | ⟨x, hx, _⟩ | ⟨x, hx, _⟩
    · exact rho0_of e
    · cases e
    · cases hx
    · cases hx
end
end Go.Proofs.YtoijhecphgdfnaaGreatDoor

/-
  The law's plays with wide texts; alone leaves no list.
-/
namespace Go.Proofs.YtoijhecphgdfnaaGreatDoor
open Go.RowKit

section
variable {w w' : World} {K b kb r B hb n : Nat} {v L : Value} {σ : Hs} {sq : Bool} {tr : Int} {ms rs : List Msg}
variable {W : World} {xb m : Nat}
/-- One call of plays. -/
theorem JaI.playsw (h : JaI W K b kb r hb xb sq tr m w) (hK : W.heap.size ≤ K) (hV : PVc W) (hn : m + 200 ≤ 1000000000) (x : Opv) (hp : Byts W x.tp x.tn x.tx) (hpo : x.tp = none → x.tc = 0) (hl : x.tn ≤ 140737488351232) :
    Calls Tryz.prog 7 #[.agg #[.pointer (some ⟨b, 0, none⟩), .pointer (some ⟨r, 0, none⟩)], .agg #[.int .i64 x.kd, .string x.ct, .slice x.tp x.tn x.tc, .bool x.e, .int .i64 x.a, .int .i64 x.p, .string x.cd, .int .i64 x.n], .pointer (some ⟨hb, 0, none⟩)] w fun e w' => e = .returned (.bool true) ∧ Hid (JaI W K b kb r hb xb sq tr (m + 66) w') := by
  obtain ⟨v, L, ms, rs, σ, h1, h2⟩ := h.st
  refine (plays_anyJ h1 (hV.below h.g.bel) hn x (hp.below h.g.bel) hpo (by omega) fun h0 c o e => ?_).mono fun e w' ⟨e1, g⟩ => ⟨e1, g.out.ja h.g hK h1 h2⟩
  obtain ⟨c', o', e2, hl2, _⟩ := hp.cell 0 h0
  rw [e] at e2
  injection e2 with e2
  injection e2 with e2
  omega
/-- One call of alone. -/
theorem JaI.alone0 (h : JaI W K b kb r hb xb sq tr m w) (hn : m ≤ 300000000) :
    Calls Tryz.prog 9 #[.pointer (some ⟨hb, 0, none⟩)] w fun e w' => e = .returned (.bool true) ∧ Hid (JaI W K b kb r hb xb sq tr 0 w') := by
  obtain ⟨v, L, ms, rs, σ, h1, h2⟩ := h.st
  refine (alone_s h1.hs hn).mono fun e w' ⟨e1, g⟩ => ⟨e1, ?_⟩
  obtain ⟨σ', q1, q2, q3⟩ := g.out
  have hhb : HsFt σ hb := Or.inl h1.hs.h0.hr.hbl.2
  refine ⟨⟨v, L, ms, rs, σ', ⟨⟨h1.pr.pb.off q3 fun q hf hk => h1.ap q hf hk, h1.pr.wis, h1.pr.ok⟩, q1, fun q hf hk => ?_⟩, fun e => ?_⟩, (q3.block _ (blk_lt h.g.bx) h2).trans h.g.bx, Off.behind h.g.bel q3 fun q hq => (h1.hs.lt hq).1⟩
  · rw [q2 q hk] at hf; exact h1.ap hb hf hhb
  · rw [q2 xb e] at h2; exact h2 hhb
end
end Go.Proofs.YtoijhecphgdfnaaGreatDoor
