/-
  A box where other blocks change.
-/
import Derived.Test.YtgoknmikpanhbaaDoorIbBx
namespace Go.Proofs.YtgoknmikpanhbaaDoor
open Go.RowKit

section
variable {w w' : World} {B b sb M : Nat} {v : Value} {K R : Int} {es : List Ent}
/-- A block of another type is none of its blocks. -/
theorem Shf.notType (h : Shf w B sb M v K R es) {t : TypeId} (h1 : 73 ≠ t) (h2 : 24 ≠ t) {q : Nat} {cs : Array Value} {cur : Nat × Nat} (hq : w.heap[q]? = some (.cells cs t cur)) : ¬ Ft sb M v q := by
  rintro (rfl | rfl | hg)
  · rw [h.blk] at hq
    simp only [Option.some.injEq, Obj.cells.injEq] at hq
    exact h1 hq.2.1
  · obtain ⟨es', clock, hm⟩ := h.map.isMap
    rw [hm] at hq
    simp at hq
  · obtain ⟨cs', b1⟩ := row_type h.row hg
    rw [b1] at hq
    simp only [Option.some.injEq, Obj.cells.injEq] at hq
    exact h2 hq.2.1
theorem Bx.off {P : Nat → Prop} (h : Bx w B b sb M v K R es) (o : Off P w w') (hb : ¬ P b) (hF : ∀ q, Ft sb M v q → ¬ P q) (hy : ∀ q cs, w.heap[q]? = some (.cells cs 5 (0, 0)) → ¬ P q) : Bx w' B b sb M v K R es :=
  ⟨(o.block b h.lt hb).trans h.blk, h.sh.off o hF, fun e he => (h.own e he).byType o hy, h.lb, h.ls, h.lm, h.inv⟩
end
end Go.Proofs.YtgoknmikpanhbaaDoor
