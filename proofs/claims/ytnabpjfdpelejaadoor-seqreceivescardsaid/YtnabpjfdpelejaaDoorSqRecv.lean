/-
  A pair of receivers, the program's beside the document's: the law's received.
-/
import Derived.Test.YtnabpjfdpelejaaDoorSqRefR
import Derived.Test.YtnabpjfdpelejaaDoorSqSend
namespace Go.Proofs.YtnabpjfdpelejaaDoor
open Go.RowKit

/-- A pair of receivers in the law's memory. -/
def PR (w : World) (x : Nat) : Option Nat → Int → Int → Prop
  | none, e, l => Box w x #[.pointer none, .bool false, .int .i64 e, .int .i64 l] ∧ e = 0 ∧ l = 0
  | some s, e, l => Box w x #[.pointer (some ⟨s, 0, none⟩), .bool true, .int .i64 e, .int .i64 l] ∧ Rcv w s e l ∧ s ≠ x
theorem PR.off {P : Nat → Prop} {w w' : World} {x : Nat} {so : Option Nat} {e l : Int} (h : PR w x so e l) (ho : Off P w w') (hP : ∀ k, PF x so k → ¬ P k) : PR w' x so e l := by
  cases so with
  | none => exact ⟨h.1.off ho (hP x (Or.inl rfl)), h.2⟩
  | some s => exact ⟨h.1.off ho (hP x (Or.inl rfl)), h.2.1.off ho (hP s (Or.inr rfl)), h.2.2⟩
theorem PR.below {w w' : World} {x : Nat} {so : Option Nat} {e l : Int} (h : PR w x so e l) (hb : Below w.heap.size w w') : PR w' x so e l := h.off (P := fun _ => False) (Off.of_below hb) (fun _ _ => id)
theorem PR.lt {w : World} {x : Nat} {so : Option Nat} {e l : Int} (h : PR w x so e l) {k : Nat} (hk : PF x so k) : k < w.heap.size := by
  cases so with
  | none => rcases hk with rfl | hk
            · exact h.1.lt
            · cases hk
  | some s => rcases hk with rfl | hk
              · exact h.1.lt
              · cases hk; exact h.2.1.lt
/-- What 'received' answers. -/
def RvQ (w : World) (r : Ending) (w' : World) : Prop := ∃ x so e l, r = .returned (.tuple #[.pointer (some ⟨x, 0, none⟩), .bool true]) ∧ (∀ k, PF x so k → w.heap.size ≤ k) ∧ PR w' x so e l ∧ Below w.heap.size w w'
theorem rvq_ok {w w1 w2 : World} {b : Nat} {e l : Int} (h1 : w.heap.size ≤ b ∧ Rcv w1 b e l ∧ Below w.heap.size w w1) (h2 : Below w1.heap.size w1 w2) :
    RvQ w (.returned (.tuple #[.pointer (some ⟨w2.heap.size + 1, 0, none⟩), .bool true])) ((w2.alloc (.cells #[.bool true, .int .i64 e, .int .i64 l] 58)).alloc (.cells #[.pointer (some ⟨b, 0, none⟩), .bool true, .int .i64 e, .int .i64 l] 60)).drew := by
  have hb : b < w2.heap.size := Nat.lt_of_lt_of_le h1.2.1.lt h2.size
  have h3 : Below w1.heap.size w1 ((w2.alloc (.cells #[.bool true, .int .i64 e, .int .i64 l] 58)).alloc (.cells #[.pointer (some ⟨b, 0, none⟩), .bool true, .int .i64 e, .int .i64 l] 60)).drew := Below.drew (bl_alloc (bl_alloc h2 _) _)
  refine ⟨_, some b, e, l, rfl, fun k hk => ?_, ⟨?_, h1.2.1.off (P := fun _ => False) (Off.of_below h3) id, by omega⟩, below_then h1.2.2 h3⟩
  · have := h1.2.2.size
    have := h2.size
    rcases hk with rfl | hk
    · omega
    · cases hk; exact h1.1
  · have := Box.drew (Box.new (w2.alloc (.cells #[.bool true, .int .i64 e, .int .i64 l] 58)) #[.pointer (some ⟨b, 0, none⟩), .bool true, .int .i64 e, .int .i64 l] 60)
    simpa using this
set_option maxHeartbeats 2000000 in
theorem received_ok (e l : Int) (h : newR e l = 0) (w : World) (hV : PV w) : Calls Tryd.prog 24 #[.int .i64 e, .int .i64 l] w fun r w' => RvQ w r w' := by
  have e1 : newR e l = 0 := h
  have e2 : rE e l = e := if_pos h
  have e3 : rL e l = l := if_pos h
  go_enter Tryd.func24, Tryd.ntmps24
  go_wp2_with fail
  refine (pNewR_ok e l h w hV).mono ?_
  rintro _ w1 ⟨b, rfl, hwb, hs, hb⟩
  have H1 : Hid (w.heap.size ≤ b ∧ Rcv w1 b e l ∧ Below w.heap.size w w1) := ⟨hwb, hs, hb⟩
  clear hwb hs hb hV h
  go_wp2_with fail
  refine (rNewR_any e l _).mono ?_
  rw [e1, e2, e3]
  rintro _ w2 ⟨rfl, hb⟩
  have H2 : Hid (Below w1.heap.size w1 w2) := hb
  clear hb e1 e2 e3
  go_wp2_with fail
  go_region_law (go_simp; first | (go_at_call 11; refine (code_ok _).mono ?_; rintro _ _ ⟨rfl, rfl⟩; go_wp2_with fail) | (go_at_call 38; refine (num_any _ _).mono ?_; rintro _ _ ⟨rfl, rfl⟩; go_wp2_with fail))
  all_goals
    go_wp2_with fail
    refine bodyPost_ret ?_ rfl (rvq_ok H1.out H2.out)
    simp [results, Tryd.results24, go_sem, Act.put]
end Go.Proofs.YtnabpjfdpelejaaDoor
