/-
  Lists of the book, grown by marks of their own.
-/
import Derived.Test.YtoijhecphgdfnaaDoorHkWrite
namespace Go.Proofs.YtoijhecphgdfnaaDoor.Bo
open Go.RowKit

/-- l has grown out of v: it holds ys, v still holds bs. -/
structure Grew (w : World) (B : Nat) (v l : Value) (bs ys : List Int) : Prop where
  row : Row w B l ys
  val : Row w B v bs
  pre : ys.take bs.length = bs
  way : (∃ g n m cap, v = .slice (some ⟨g, 0, none⟩) n cap ∧ l = .slice (some ⟨g, 0, none⟩) m cap) ∨ (∀ g, l.ownBlock = some g → v.ownBlock ≠ some g)
theorem Grew.refl {w : World} {B : Nat} {v : Value} {bs : List Int} (h : Row w B v bs) : Grew w B v v bs bs := by
  refine ⟨h, h, List.take_length, ?_⟩
  rcases h.form with ⟨rfl, _⟩ | ⟨g, cap, rfl, _⟩
  · exact Or.inr (fun g e => by cases e)
  · exact Or.inl ⟨_, _, _, _, rfl, rfl⟩
theorem vrow_of_row {w : World} {B : Nat} {v : Value} {xs : List Int} (h : Row w B v xs) : VRow w B 5 v (u8s xs) := by
  unfold VRow; rw [u8s_length]; exact h
theorem row_of_vrow {w : World} {B : Nat} {v : Value} {xs : List Int} (h : VRow w B 5 v (u8s xs)) : Row w B v xs := by
  unfold VRow at h; rw [u8s_length] at h; exact h
theorem run_grow {w : World} {B : Nat} {v l : Value} {bs ys : List Int} (h : Grew w B v l bs ys) (hB : B ≤ w.heap.size) (hl : ys.length + 1 ≤ 140737488355328) (z : Int) :
    ∃ a n c w', (Builtin.append_ #[44, 44] 44 #[l, .slice (some ⟨w.heap.size, 0, none⟩) 1 1]).run Tryd.prog (w.alloc (.cells #[.int .u8 z] 5)) = .ok (.slice a n c) w' ∧ Grew w' B v (.slice a n c) bs (ys ++ [z]) ∧ Off (fun k => l.ownBlock = some k) w w' ∧ ((Value.slice a n c).ownBlock = l.ownBlock ∨ ∃ g, (Value.slice a n c).ownBlock = some g ∧ w.heap.size ≤ g) := by
  obtain ⟨i, hi, hz, hs, hby⟩ := u8info
  have hbl : Below w.heap.size w (w.alloc (.cells #[.int .u8 z] 5)) := (Below.refl w.heap.size w).alloc (Nat.le_refl _) _
  have hrow : Row (w.alloc (.cells #[.int .u8 z] 5)) B l ys := h.row.keep (fun g e => hbl.block g (h.row.lt e).2)
  have hval : Row (w.alloc (.cells #[.int .u8 z] 5)) B v bs := h.val.keep (fun g e => hbl.block g (h.val.lt e).2)
  have hbl2 : bs.length ≤ ys.length := by have := congrArg List.length h.pre; rw [List.length_take] at this; omega
  obtain ⟨v', w', hr, r, p⟩ := run_append_two (P := Tryd.prog) (w.alloc (.cells #[.int .u8 z] 5)) B 44 44 5 i _ 1 Tryd.underlying44 hi hz hs hby rfl l (u8s ys) (vrow_of_row hrow) ⟨w.heap.size, 0, none⟩ 1 1 [.int .u8 z] rfl (cell_one_new w _ _) (fun x hx => by simp only [List.mem_singleton] at hx; subst hx; rfl) (by rw [u8s_length]; unfold maxLen; omega) (by rw [u8s_length]; omega) (by simp; omega)
  have r2 : Row w' B v' (ys ++ [z]) := row_of_vrow (by rw [u8s_append]; exact r)
  have hof : Off (fun k => l.ownBlock = some k) w w' := by
    refine ((Off.refl _ w).alloc (.cells #[.int .u8 z] 5)).trans ?_
    cases p with
    | same g cap hv hv' hg => rw [hv]; exact Off.of_grown hg
    | idle hv hm hw => omega
    | fresh cap hv' hg hs => exact (Off.of_grown hg).mono (fun k e => by cases e)
  have hpre : (ys ++ [z]).take bs.length = bs := by rw [List.take_append_of_le_length hbl2]; exact h.pre
  cases p with
  | same g cap hv hv' hg =>
    subst hv; subst hv'
    refine ⟨_, _, _, w', hr, ⟨r2, ?_, hpre, ?_⟩, hof, Or.inl rfl⟩
    · rcases h.way with ⟨g1, n1, m1, c1, e1, e2⟩ | hne
      · simp only [Value.slice.injEq, Option.some.injEq, Addr.mk.injEq, and_true] at e2
        obtain ⟨rfl, _, rfl⟩ := e2
        subst e1
        have hn := h.val.len
        have hp := r2.prefix (m := n1) (by rw [u8s_length]; omega)
        rw [← hn, hpre] at hp
        rw [← hn]
        exact hp
      · exact hval.off (Off.of_grown hg) (fun k e p => by simp only [Option.some.injEq] at p; subst p; exact hne _ rfl e)
    · rcases h.way with ⟨g1, n1, m1, c1, e1, e2⟩ | hne
      · simp only [Value.slice.injEq, Option.some.injEq, Addr.mk.injEq, and_true] at e2
        obtain ⟨rfl, _, rfl⟩ := e2
        exact Or.inl ⟨_, _, _, _, e1, rfl⟩
      · exact Or.inr (fun k e => hne k e)
  | idle hv hm hw => omega
  | fresh cap hv' hg hs =>
    subst hv'
    refine ⟨_, _, _, w', hr, ⟨r2, hval.off (Off.of_grown hg) (fun k e p => by cases p), hpre, Or.inr (fun k e e2 => ?_)⟩, hof, Or.inr ⟨_, rfl, by simp⟩⟩
    simp only [Value.ownBlock, Option.some.injEq] at e
    have := (h.val.lt e2).2
    simp at e
    omega
/-- The book, and beside it the grown lists. -/
structure Gw (w : World) (B K : Nat) (ux : Nat → Value) (ρ : Nat → Nat) (vb vw vl : Value) (es : List Ent) (ls : List Value) : Prop where
  bk : Bk w B K ux ρ vb vw es
  rl : VRow w B 44 vl ls
  pl : ∀ g, vl.ownBlock = some g → ρ g = 5
  ll : ∀ (j : Nat) (l : Value) (e : Ent), ls[j]? = some l → es[j]? = some e → Row w B l (mk j (e.bs.length + 90)) ∧ ∀ g, l.ownBlock = some g → ρ g = 6 + 2 * j ∨ ρ g = 7 + 2 * j
theorem set_self (es : List Ent) (i : Nat) (e : Ent) (h : es[i]? = some e) : es.set i { e with bs := e.bs } = es := by
  refine List.ext_getElem? fun j => ?_
  have hi := (List.getElem?_eq_some_iff.1 h).1
  by_cases hj : i = j
  · subst hj; rw [List.getElem?_set_self hi, h]
  · rw [List.getElem?_set_ne hj]
theorem gw_step {w w1 w2 : World} {B K i : Nat} {ux : Nat → Value} {ρ : Nat → Nat} {vb vw vl l : Value} {a : Option Addr} {n c : Nat} {es : List Ent} {ls : List Value} {e : Ent} (h : Gw w B K ux ρ vb vw vl es ls) (hi : ls.length = i) (he : es[i]? = some e)
    (o1 : Off (fun k => ρ k = 6 + 2 * i) w w1) (hg : Grew w1 B e.val l e.bs (mk i (e.bs.length + 90))) (hlb : ∀ g, l.ownBlock = some g → e.val.ownBlock = some g ∨ w.heap.size ≤ g)
    (v2 : VRow w2 B 44 (.slice a n c) (ls ++ [l])) (o2 : Off (fun k => vl.ownBlock = some k) w1 w2) (s2 : (Value.slice a n c).ownBlock = vl.ownBlock ∨ ∃ g, (Value.slice a n c).ownBlock = some g ∧ w1.heap.size ≤ g) :
    ∃ ρ', Gw w2 B K ux ρ' vb vw (.slice a n c) es (ls ++ [l]) ∧ Off (fun k => ρ k = 6 + 2 * i ∨ vl.ownBlock = some k) w w2 ∧ (∀ k, k < w.heap.size → ρ' k = ρ k) := by
  obtain ⟨l2, hl2⟩ : ∃ x, Value.slice a n c = x := ⟨_, rfl⟩
  rw [hl2] at v2 s2 ⊢
  have hs1 := o1.size
  have hs2 := o2.size
  have hvl : ∀ g, vl.ownBlock = some g → g < w.heap.size ∧ ρ g = 5 := fun g e => ⟨(h.rl.lt e).2, h.pl g e⟩
  have b1 : Bk w1 B K ux ρ vb vw es := by
    have := h.bk.touch he o1 hg.val
    rw [set_self es i e he] at this
    exact this
  have hll : ∀ g, l.ownBlock = some g → (g < w.heap.size ∧ ρ g = 6 + 2 * i) ∨ (w.heap.size ≤ g ∧ g < w1.heap.size) := fun g eg => by
    rcases hlb g eg with q | q
    · exact Or.inl ⟨(h.bk.val i e he |>.lt q).2, h.bk.pval i e he g q⟩
    · exact Or.inr ⟨q, (hg.row.lt eg).2⟩
  have hl2b : ∀ g, l2.ownBlock = some g → (g < w.heap.size ∧ ρ g = 5) ∨ (w1.heap.size ≤ g ∧ g < w2.heap.size) := fun g eg => by
    rcases s2 with q | ⟨k, q, hk⟩
    · rw [q] at eg; exact Or.inl (hvl g eg)
    · have := (v2.lt eg).2
      rw [q] at eg; simp only [Option.some.injEq] at eg
      exact Or.inr ⟨by omega, this⟩
  refine ⟨fun k => if k < w.heap.size then ρ k else if l.ownBlock = some k then 7 + 2 * i else if l2.ownBlock = some k then 5 else 0, ⟨?_, v2, fun g eg => ?_, fun j x y hx hy => ?_⟩, (o1.mono (fun _ p => Or.inl p)).trans (o2.mono (fun k p => Or.inr p)), fun k hk => if_pos hk⟩
  · refine b1.role o2 (fun k p => Or.inr (hvl k p).2) (fun k _ h0 _ => ?_) (fun g hgs => ?_)
    · have hk : k < w.heap.size := by
        rcases Nat.lt_or_ge k w.heap.size with q | q
        · exact q
        · exact absurd (h.bk.new k q) h0
      exact if_pos hk
    · rw [if_neg (by omega), if_neg (fun q => by rcases hll g q with z | z <;> omega), if_neg (fun q => by rcases hl2b g q with z | z <;> omega)]
  · rcases hl2b g eg with q | q
    · rw [if_pos q.1]; exact q.2
    · rw [if_neg (by omega), if_neg (fun z => by rcases hll g z with z | z <;> omega), if_pos eg]
  · rcases Nat.lt_or_ge j ls.length with q | q
    · rw [List.getElem?_append_left q] at hx
      obtain ⟨r, p⟩ := h.ll j x y hx hy
      have hb : ∀ g, x.ownBlock = some g → g < w.heap.size := fun g eg => (r.lt eg).2
      refine ⟨(r.off o1 (fun g eg z => by have := p g eg; omega)).off o2 (fun g eg z => by have := p g eg; have := (hvl g z).2; omega), fun g eg => ?_⟩
      rw [if_pos (hb g eg)]; exact p g eg
    · rw [List.getElem?_append_right q] at hx
      have hj : j = ls.length := by
        rcases Nat.eq_or_lt_of_le q with z | z
        · exact z.symm
        · rw [List.getElem?_eq_none (by simp; omega)] at hx; cases hx
      subst hj
      rw [hi, he] at hy
      simp only [Nat.sub_self, List.getElem?_cons_zero, Option.some.injEq] at hx hy
      subst hx; subst hy
      rw [hi]
      refine ⟨hg.row.off o2 (fun g eg z => ?_), fun g eg => ?_⟩
      · have := hvl g z
        rcases hll g eg with z2 | z2 <;> omega
      · rcases hll g eg with z | z
        · rw [if_pos z.1]; exact Or.inl z.2
        · rw [if_neg (by omega), if_pos eg]; exact Or.inr rfl
end Go.Proofs.YtoijhecphgdfnaaDoor.Bo
