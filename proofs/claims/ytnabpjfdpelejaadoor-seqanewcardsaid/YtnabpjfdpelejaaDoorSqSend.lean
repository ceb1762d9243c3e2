/-
  A pair of senders, the program's beside the document's: the law's sent.
-/
import Derived.Test.YtnabpjfdpelejaaDoorSqRef
import Derived.Test.YtnabpjfdpelejaaDoorSqProg
import Derived.Deep.RegionLaw
import Derived.Deep.CutRange
namespace Go.Proofs.YtnabpjfdpelejaaDoor
open Go.RowKit

theorem bl_alloc {V x : World} (h : Below V.heap.size V x) (c : Obj) : Below V.heap.size V (x.alloc c) := h.alloc h.size c
/-- A pair of senders in the law's memory: the block x of the pair; the program's sender at s (none: nil). -/
def PS (w : World) (x : Nat) : Option Nat → Int → Prop
  | none, n => Box w x #[.pointer none, .bool false, .int .i64 n] ∧ n = 0
  | some s, n => Box w x #[.pointer (some ⟨s, 0, none⟩), .bool true, .int .i64 n] ∧ Snd w s n ∧ s ≠ x
def PF (x : Nat) (so : Option Nat) (k : Nat) : Prop := k = x ∨ so = some k
theorem PS.off {P : Nat → Prop} {w w' : World} {x : Nat} {so : Option Nat} {n : Int} (h : PS w x so n) (ho : Off P w w') (hP : ∀ k, PF x so k → ¬ P k) : PS w' x so n := by
  cases so with
  | none => exact ⟨h.1.off ho (hP x (Or.inl rfl)), h.2⟩
  | some s => exact ⟨h.1.off ho (hP x (Or.inl rfl)), h.2.1.off ho (hP s (Or.inr rfl)), h.2.2⟩
theorem PS.below {w w' : World} {x : Nat} {so : Option Nat} {n : Int} (h : PS w x so n) (hb : Below w.heap.size w w') : PS w' x so n := h.off (P := fun _ => False) (Off.of_below hb) (fun _ _ => id)
theorem PS.lt {w : World} {x : Nat} {so : Option Nat} {n : Int} (h : PS w x so n) {k : Nat} (hk : PF x so k) : k < w.heap.size := by
  cases so with
  | none => rcases hk with rfl | hk
            · exact h.1.lt
            · cases hk
  | some s => rcases hk with rfl | hk
              · exact h.1.lt
              · cases hk; exact h.2.1.lt
/-- What 'sent' answers. -/
def StQ (w : World) (r : Ending) (w' : World) : Prop := ∃ x so n, r = .returned (.tuple #[.pointer (some ⟨x, 0, none⟩), .bool true]) ∧ (∀ k, PF x so k → w.heap.size ≤ k) ∧ PS w' x so n ∧ Below w.heap.size w w'
theorem stq_ok {w w1 w2 : World} {b : Nat} {n : Int} (h1 : w.heap.size ≤ b ∧ Snd w1 b n ∧ Below w.heap.size w w1) (h2 : Below w1.heap.size w1 w2) :
    StQ w (.returned (.tuple #[.pointer (some ⟨w2.heap.size + 1, 0, none⟩), .bool true])) ((w2.alloc (.cells #[.bool true, .int .i64 n] 86)).alloc (.cells #[.pointer (some ⟨b, 0, none⟩), .bool true, .int .i64 n] 90)).drew := by
  have hb : b < w2.heap.size := Nat.lt_of_lt_of_le h1.2.1.lt h2.size
  have h3 : Below w1.heap.size w1 ((w2.alloc (.cells #[.bool true, .int .i64 n] 86)).alloc (.cells #[.pointer (some ⟨b, 0, none⟩), .bool true, .int .i64 n] 90)).drew := Below.drew (bl_alloc (bl_alloc h2 _) _)
  refine ⟨_, some b, n, rfl, fun k hk => ?_, ⟨?_, h1.2.1.off (P := fun _ => False) (Off.of_below h3) id, by omega⟩, below_then h1.2.2 h3⟩
  · have := h1.2.2.size
    have := h2.size
    rcases hk with rfl | hk
    · omega
    · cases hk; exact h1.1
  · have := Box.drew (Box.new (w2.alloc (.cells #[.bool true, .int .i64 n] 86)) #[.pointer (some ⟨b, 0, none⟩), .bool true, .int .i64 n] 90)
    simpa using this
set_option maxHeartbeats 2000000 in
theorem sent_ok (n : Int) (h : SOk n) (w : World) (hV : PV w) : Calls Tryd.prog 19 #[.int .i64 n] w fun r w' => StQ w r w' := by
  have e1 : newC n = 0 := if_pos h
  have e2 : setS 0 n = n := if_pos h
  go_enter Tryd.func19, Tryd.ntmps19
  go_wp2_with fail
  refine (pNewS_ok n h w hV).mono ?_
  rintro _ w1 ⟨b, rfl, hwb, hs, hb⟩
  have H1 : Hid (w.heap.size ≤ b ∧ Snd w1 b n ∧ Below w.heap.size w w1) := ⟨hwb, hs, hb⟩
  clear hwb hs hb hV h
  go_wp2_with fail
  refine (rNewS_any n _).mono ?_
  rw [e1, e2]
  rintro _ w2 ⟨rfl, hb⟩
  have H2 : Hid (Below w1.heap.size w1 w2) := hb
  clear hb e1 e2
  go_wp2_with fail
  go_region_law (go_simp; first | (go_at_call 11; refine (code_ok _).mono ?_; rintro _ _ ⟨rfl, rfl⟩; go_wp2_with fail) | (go_at_call 38; refine (num_any _ _).mono ?_; rintro _ _ ⟨rfl, rfl⟩; go_wp2_with fail))
  all_goals
    go_wp2_with fail
    refine bodyPost_ret ?_ rfl (stq_ok H1.out H2.out)
    simp [results, Tryd.results19, go_sem, Act.put]
end Go.Proofs.YtnabpjfdpelejaaDoor
