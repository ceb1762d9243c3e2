import Derived.Test.YtplhdgijjckjcaaGreatDoorIbBx
import Derived.Test.YtplhdgijjckjcaaGreatDoorIbRb4
import Derived.Test.YtplhdgijjckjcaaGreatDoorIbAcc
import Derived.Test.YtplhdgijjckjcaaGreatDoorIbKeepR
/-
  A box where other blocks change.
-/
namespace Go.Proofs.YtplhdgijjckjcaaGreatDoor
open Go.RowKit

section
variable {w w' : World} {B b sb M : Nat} {v : Value} {K R : Int} {es : List Ent}
/-- A block of another type is none of its blocks. -/
theorem Shf.notType (h : Shf w B sb M v K R es) {t : TypeId} (h1 : 95 ≠ t) (h2 : 29 ≠ t) {q : Nat} {cs : Array Value} {cur : Nat × Nat} (hq : w.heap[q]? = some (.cells cs t cur)) : ¬ Ft sb M v q := by
  rintro (rfl | rfl | hg)
  · rw [h.blk] at hq
    simp only [Option.some.injEq, Obj.cells.injEq] at hq
    exact h1 hq.2.1
  · obtain ⟨es', clock, hm⟩ := h.map.isMap
    rw [hm] at hq
    simp at hq
  · obtain ⟨cs', b1⟩ := row_type h.row hg
    rw [b1] at hq
    simp only [Option.some.injEq, Obj.cells.injEq] at hq
    exact h2 hq.2.1
theorem Bx.off {P : Nat → Prop} (h : Bx w B b sb M v K R es) (o : Off P w w') (hb : ¬ P b) (hF : ∀ q, Ft sb M v q → ¬ P q) (hy : ∀ q cs, w.heap[q]? = some (.cells cs 5 (0, 0)) → ¬ P q) : Bx w' B b sb M v K R es :=
  ⟨(o.block b h.lt hb).trans h.blk, h.sh.off o hF, fun e he => (h.own e he).byType o hy, h.lb, h.ls, h.lm, h.inv⟩
end
end Go.Proofs.YtplhdgijjckjcaaGreatDoor

/-
  The document's box: Accept.
-/
namespace Go.Proofs.YtplhdgijjckjcaaGreatDoor
open Go.RowKit

theorem bf_eq {es : List Ent} {e : Ent} (h : mayB e = true) : (decide (0 < es.length) && decide (e.tk < lastT es)) = decide (e.tk < lastT es) := by
  cases es with
  | nil =>
    have := (mayB_is h).2.2.2.2.2.1
    have e1 : lastT [] = 0 := rfl
    rw [e1, decide_eq_false (by omega : ¬ e.tk < 0)]
    simp
  | cons x r => simp
/-- The block X keeps its cells but the one at 4. -/
def XK (X : Nat) (w w' : World) : Prop := ∀ cs t, w.heap[X]? = some (.cells cs t (0, 0)) → ∃ u, w'.heap[X]? = some (.cells (cs.set! 4 u) t (0, 0))
theorem set_self (cs : Array Value) : ∃ u, cs.set! 4 u = cs := by
  refine ⟨cs.getD 4 undef, ?_⟩
  rw [Array.set!_eq_setIfInBounds]
  apply Array.ext_getElem?
  intro i
  rw [Array.getElem?_setIfInBounds]
  split
  · rename_i h
    subst h
    split
    · rename_i h2
      simp [h2]
    · rename_i h2
      rw [Array.getElem?_eq_none (by omega)]
  · rfl
theorem XK.of_off {P : Nat → Prop} {X : Nat} {w w' : World} (o : Off P w w') (hX : ¬ P X) : XK X w w' := fun cs t h => by
  obtain ⟨u, hu⟩ := set_self cs
  exact ⟨u, by rw [hu]; exact (o.block X (blk_lt h) hX).trans h⟩
theorem XK.trans {X : Nat} {a b c : World} (h : XK X a b) (k : XK X b c) : XK X a c := fun cs t hx => by
  obtain ⟨u, h1⟩ := h cs t hx
  obtain ⟨u', h2⟩ := k _ _ h1
  refine ⟨u', ?_⟩
  rw [h2]
  simp [Array.set!_eq_setIfInBounds]
theorem XK.set {X : Nat} (w : World) (u : Value) : XK X w (w.setCell ⟨X, 4, none⟩ u) := fun _ _ hx => ⟨u, set_heap hx 4 u⟩
/-- What a call leaves of the document's box. -/
def RBQ (w : World) (B X : Nat) (v : Value) (K R : Int) (es' : List Ent) (w' : World) : Prop :=
  ∃ v', RBx w' B X v' K R es' ∧ Off (fun q => q = X ∨ v.ownBlock = some q) w w' ∧ (∀ q, v'.ownBlock = some q → v.ownBlock = some q ∨ w.heap.size ≤ q) ∧ XK X w w'
section
variable {w w' : World} {B X : Nat} {v : Value} {K R : Int} {es : List Ent}
theorem RBx.off {P : Nat → Prop} (h : RBx w B X v K R es) (o : Off P w w') (hX : ¬ P X) (hv : ∀ q, v.ownBlock = some q → ¬ P q) (hy : ∀ q cs, w.heap[q]? = some (.cells cs 5 (0, 0)) → ¬ P q) : RBx w' B X v K R es := by
  have e : ∀ i, w'.cell? ⟨X, i, none⟩ = w.cell? ⟨X, i, none⟩ := fun i => o.cell (p := ⟨X, i, none⟩) h.lt hX
  exact ⟨Nat.lt_of_lt_of_le h.lt o.size, by rw [e]; exact h.c1, by rw [e]; exact h.c2, by rw [e]; exact h.c3, by rw [e]; exact h.c4, by rw [o.frozen (p := ⟨X, 4, none⟩) h.lt hX]; exact h.fz, ERow.off h.row o hv, fun x hx => (h.own x hx).byType o hy, h.inv⟩
/-- The append behind a copy: what it comes to, and what it leaves with the store. -/
theorem racc_step {z : World} (h : RBx w B X v K R es) (hXt : ∃ cs t cur, w.heap[X]? = some (.cells cs t cur) ∧ t ≠ 5 ∧ t ≠ 29) (hB : B ≤ w.heap.size) {e : Ent} (ho : Own z w.heap.size e) (hb : Below w.heap.size w z) (hi : Inv K R (es ++ [e])) :
    ∃ a2 n2 c2 W2, (Builtin.append_ #[39, 39] 39 #[v, .slice (some ⟨z.heap.size, 0, none⟩) 1 1]).run Tryz.prog (z.alloc (.cells #[.string e.ct, .slice e.tp e.tn e.tc, .int .i64 e.nu, .int .i64 e.tk, .slice e.cp e.cn e.cc, .string e.cd, .slice e.ap e.an e.ac] 29)) = .ok (.slice a2 n2 c2) W2 ∧ z.cell? ⟨X, 4, none⟩ = some v ∧ (z.alloc (.cells #[.string e.ct, .slice e.tp e.tn e.tc, .int .i64 e.nu, .int .i64 e.tk, .slice e.cp e.cn e.cc, .string e.cd, .slice e.ap e.an e.ac] 29)).cell? ⟨X, 4, none⟩ = some v ∧ W2.cell? ⟨X, 4, none⟩ = some v ∧ W2.frozen? ⟨X, 4, none⟩ = false ∧ Hid (RBQ w B X v K R (es ++ [e]) (W2.setCell ⟨X, 4, none⟩ (.slice a2 n2 c2)) ∧ Own (W2.setCell ⟨X, 4, none⟩ (.slice a2 n2 c2)) w.heap.size e) := by
  have hz := h.below hb
  have hlen := h.inv.len
  obtain ⟨a2, c2, W2, hr, r2, o2, s2⟩ := run_epush (P := Tryz.prog) (t := 39) Tryz.underlying39 celE encE_len encE_one (w := z) hz.row e #[.string e.ct, .slice e.tp e.tn e.tc, .int .i64 e.nu, .int .i64 e.tk, .slice e.cp e.cn e.cc, .string e.cd, .slice e.ap e.an e.ac] rfl (by omega) (by decide) (Nat.le_trans hB hb.size)
  obtain ⟨xcs, xt, xcur, hX0, hX1, hX2⟩ := hXt
  have hXz : z.heap[X]? = some (.cells xcs xt xcur) := (hb.block X h.lt).trans hX0
  have nv : v.ownBlock ≠ some X := fun hq => by
    obtain ⟨cs', hc⟩ := row_type hz.row hq
    rw [hXz] at hc
    simp only [Option.some.injEq, Obj.cells.injEq] at hc
    exact hX2 hc.2.1
  have byt : ∀ q cs, z.heap[q]? = some (.cells cs 5 (0, 0)) → ¬ v.ownBlock = some q := fun q cs hc hq => by
    obtain ⟨cs', hc'⟩ := row_type hz.row hq
    rw [hc] at hc'
    simp at hc'
  have e4 : W2.cell? ⟨X, 4, none⟩ = some v := by rw [o2.cell (p := ⟨X, 4, none⟩) hz.lt nv]; exact hz.c4
  have f4 : W2.frozen? ⟨X, 4, none⟩ = false := by rw [o2.frozen (p := ⟨X, 4, none⟩) hz.lt nv]; exact hz.fz
  have hX2z : W2.heap[X]? = some (.cells xcs xt xcur) := (o2.block X hz.lt nv).trans hXz
  refine ⟨a2, _, c2, W2, hr, hz.c4, (hz.below ((Below.refl _ _).alloc (Nat.le_refl _) _)).c4, e4, f4, ?_⟩
  have o3 : Off (fun q => q = X) W2 (W2.setCell ⟨X, 4, none⟩ (.slice a2 (es.length + 1) c2)) := Off.setCell (P := fun q => q = X) (Off.refl _ _) (p := ⟨X, 4, none⟩) rfl _
  have rowX : ∀ {g : Nat}, (Value.slice a2 (es.length + 1) c2).ownBlock = some g → ¬ g = X := fun {g} hg e1 => by
    obtain ⟨cs', hc⟩ := row_type r2 hg
    rw [e1, hX2z] at hc
    simp only [Option.some.injEq, Obj.cells.injEq] at hc
    exact hX2 hc.2.1
  have bytX : ∀ q cs, W2.heap[q]? = some (.cells cs 5 (0, 0)) → ¬ q = X := fun q cs hc e1 => by
    rw [e1, hX2z] at hc
    simp only [Option.some.injEq, Obj.cells.injEq] at hc
    exact hX1 hc.2.1
  have key : ∀ (C : Nat) (x : Ent), Own z C x → Own (W2.setCell ⟨X, 4, none⟩ (.slice a2 (es.length + 1) c2)) C x := fun C x hx => (hx.byType o2 byt).byType o3 bytX
  have cO : ∀ i, ¬ i = 4 → (W2.setCell ⟨X, 4, none⟩ (.slice a2 (es.length + 1) c2)).cell? ⟨X, i, none⟩ = z.cell? ⟨X, i, none⟩ := fun i hi => by
    rw [World.cell?_setCell_other _ _ _ _ (by simp; try omega), o2.cell (p := ⟨X, i, none⟩) hz.lt nv]
  refine ⟨⟨.slice a2 (es.length + 1) c2, ⟨?_, ?_, ?_, ?_, ?_, ?_, ERow.off r2 o3 fun g hg => rowX hg, fun x hx => ?_, hi⟩, ?_, fun q hq => ?_, ?_⟩, key _ e ho⟩
  · exact Nat.lt_of_lt_of_le hz.lt (Nat.le_trans o2.size o3.size)
  · rw [cO 1 (by decide)]; exact hz.c1
  · rw [cO 2 (by decide)]; exact hz.c2
  · rw [cO 3 (by decide)]; exact hz.c3
  · exact World.cell?_setCell_same _ _ _ e4
  · rw [World.frozen?_setCell]; exact f4
  · rcases List.mem_append.1 hx with g | g
    · exact key B x (hz.own x g)
    · obtain rfl : x = e := by simpa using g
      exact key B x (ho.base hB)
  · refine Off.trans (Off.of_below hb) (Off.trans (o2.mono fun q hq => Or.inr hq) (o3.mono fun q hq => Or.inl hq))
  · rcases s2 with g | g
    · exact Or.inl (g ▸ hq)
    · rw [g] at hq
      simp only [Option.some.injEq] at hq
      have := hb.size
      exact Or.inr (by omega)
  · exact (XK.of_off (Off.trans (Off.of_below (P := fun q => v.ownBlock = some q) hb) o2) nv).trans (XK.set W2 _)
end
end Go.Proofs.YtplhdgijjckjcaaGreatDoor
