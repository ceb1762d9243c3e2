/-
  WheelOnce: what is due in a leap.
-/
import Derived.Test.YtinigpneohogaaaWhAmong
namespace Go.Proofs.Ytinigpneohogaaa
open Go.RowKit

/-- A list of numbers that came in. -/
def Intl (w : World) (ao : Option Addr) (zs : List Int) : Prop := ∀ i z, zs[i]? = some z → ∃ b off, ao = some ⟨b, off, none⟩ ∧ b < w.heap.size ∧ w.cell? ⟨b, off + i, none⟩ = some (.int .i64 z)
/-- Is it due in this leap? -/
def dueB (c t : Nat) (y : Opv) : Bool := decide ((c : Int) < y.tick) && decide (y.tick ≤ (t : Int))
theorem Due.count {now : Nat} {D : List Opv} {S : List Tm} (h : Due now D S) (c t : Nat) : (D.filter (dueB c t)).length = ((S.filter (past c)).filter (upto t)).length := by
  have h1 := ((h.pm.filter (past c)).filter (upto t)).length_eq
  rw [← h1, List.filter_map, List.filter_map, List.length_map, List.filter_filter]
  congr 1
  refine List.filter_congr fun y hy => ?_
  have h0 := h.tk y hy
  unfold dueB past upto tmO
  simp only [Function.comp]
  by_cases g1 : (c : Int) < y.tick
  · by_cases g2 : y.tick ≤ (t : Int)
    · rw [decide_eq_true g1, decide_eq_true g2, decide_eq_true (by omega), decide_eq_true (by omega)]
    · rw [decide_eq_true g1, decide_eq_false g2, decide_eq_false (by omega), decide_eq_true (by omega)]; rfl
  · rw [decide_eq_false g1, decide_eq_false (p := c < y.tick.toNat) (by omega), Bool.false_and, Bool.and_false]
theorem Due.find {now : Nat} {D : List Opv} {S : List Tm} (h : Due now D S) {c t : Nat} {x : Tm} (hx : x ∈ (S.filter (past c)).filter (upto t)) : ∃ (m : Nat) (y : Opv), D[m]? = some y ∧ y.key = x.1 ∧ y.tick = (x.2 : Int) ∧ (c : Int) < (x.2 : Int) ∧ (x.2 : Int) ≤ (t : Int) := by
  obtain ⟨h1, h2⟩ := List.mem_filter.1 hx
  obtain ⟨h3, h4⟩ := List.mem_filter.1 h1
  obtain ⟨y, hy, e⟩ := List.mem_map.1 (h.pm.symm.subset h3)
  obtain ⟨m, hm⟩ := List.getElem?_of_mem hy
  have h0 := h.tk y hy
  unfold upto at h2
  unfold past at h4
  have h2' := of_decide_eq_true h2
  have h4' := of_decide_eq_true h4
  refine ⟨m, y, hm, by rw [← e]; rfl, ?_, by omega, by omega⟩
  rw [← e]
  show y.tick = ((y.tick.toNat : Nat) : Int)
  omega
theorem count_take {c t j : Nat} {D : List Opv} {y : Opv} (h : D[j]? = some y) : ((D.take (j + 1)).filter (dueB c t)).length = ((D.take j).filter (dueB c t)).length + (if dueB c t y = true then 1 else 0) := by
  rw [List.take_add_one, h, Option.toList_some, List.filter_append, List.length_append]
  by_cases g : dueB c t y = true
  · rw [List.filter_cons_of_pos g, if_pos g]; rfl
  · rw [List.filter_cons_of_neg g, if_neg g]; rfl
theorem On.range {w wx : World} {W now : Nat} {S : List Tm} {dv : Value} {D : List Opv} (h : On w W now S dv D wx) {t : Int} (ht : t < (now : Int) ∨ 1099511627776 < t) : Calls Try.prog 9 #[.pointer (some ⟨W, 0, none⟩), .int .i64 t] wx fun e w' => ∃ b, e = .returned (.tuple #[.slice none 0 0, .iface 70 (.pointer (some ⟨b, 0, none⟩))]) ∧ On w W now S dv D w' := by
  have hO := h
  obtain ⟨F, hW, _⟩ := h
  refine (adv_range hW ht).mono ?_
  rintro e w' ⟨b, he, _, hw'⟩
  exact ⟨b, he, by rw [hw']; exact hO.below ((Below.refl _ _).alloc (Nat.le_refl _) _)⟩
theorem On.low {w wx : World} {W now : Nat} {S : List Tm} {dv : Value} {D : List Opv} (h : On w W now S dv D wx) : Below w.heap.size w wx := by obtain ⟨_, _, _, _, hb⟩ := h; exact hb
end Go.Proofs.Ytinigpneohogaaa
