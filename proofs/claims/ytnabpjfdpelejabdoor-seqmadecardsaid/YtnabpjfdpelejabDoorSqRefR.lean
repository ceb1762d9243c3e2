/-
  The document's receiver (courierref12), at a block of the law's own.
-/
import Derived.Test.YtnabpjfdpelejabDoorSqRef
namespace Go.Proofs.YtnabpjfdpelejabDoor
open Go.RowKit

def rE (e l : Int) : Int := if newR e l = 0 then e else 0
def rL (e l : Int) : Int := if newR e l = 0 then l else 0
theorem newR_ok {e l : Int} (h : newR e l = 0) : ROk e l := by
  unfold newR at h
  split at h
  · unfold ROk; omega
  · cases h
theorem newR_01 (e l : Int) : newR e l = 0 ∨ newR e l = 2 := by unfold newR; split <;> simp
theorem newR_0 {e l : Int} (h : 0 ≤ e ∧ e ≤ 2147483648 ∧ 0 ≤ l ∧ l ≤ 2147483647 ∧ ¬ (e = 0 ∧ l ≠ 0) ∧ ¬ (e = 2147483648 ∧ l ≠ 2147483647) ∧ ¬ (e ≠ 0 ∧ l ≠ 0 ∧ l ≠ e - 1)) : newR e l = 0 := if_pos h
theorem newR_2 {e l : Int} (h : ¬ (0 ≤ e ∧ e ≤ 2147483648 ∧ 0 ≤ l ∧ l ≤ 2147483647 ∧ ¬ (e = 0 ∧ l ≠ 0) ∧ ¬ (e = 2147483648 ∧ l ≠ 2147483647) ∧ ¬ (e ≠ 0 ∧ l ≠ 0 ∧ l ≠ e - 1))) : newR e l = 2 := if_neg h
set_option maxHeartbeats 1000000 in
theorem rNewR_a (e l : Int) (w : World) (h0 : e < 0) : Calls Tryd.prog 21 #[.int .i64 e, .int .i64 l] w fun r w' => r = .returned (.tuple #[.agg #[.bool (newR e l == 0), .int .i64 (rE e l), .int .i64 (rL e l)], .int .i64 (newR e l)]) ∧ Below w.heap.size w w' := by
  have e1 : newR e l = 2 := newR_2 (by omega)
  rw [e1, show rE e l = 0 from if_neg (by rw [e1]; decide), show rL e l = 0 from if_neg (by rw [e1]; decide)]
  clear e1
  go_enter Tryd.func21, Tryd.ntmps21
  go_wp2
  refine bodyPost_ret ?_ rfl ⟨rfl, ?_⟩
  · simp [results, Tryd.results21, go_sem]
  · repeat (first | exact Below.refl _ _ | refine Below.setCell ?_ (by simp) _ | refine Below.alloc ?_ (by simp) _)
set_option maxHeartbeats 1000000 in
theorem rNewR_b (e l : Int) (w : World) (h0 : ¬ e < 0) (h1 : 2147483648 < e) : Calls Tryd.prog 21 #[.int .i64 e, .int .i64 l] w fun r w' => r = .returned (.tuple #[.agg #[.bool (newR e l == 0), .int .i64 (rE e l), .int .i64 (rL e l)], .int .i64 (newR e l)]) ∧ Below w.heap.size w w' := by
  have e1 : newR e l = 2 := newR_2 (by omega)
  rw [e1, show rE e l = 0 from if_neg (by rw [e1]; decide), show rL e l = 0 from if_neg (by rw [e1]; decide)]
  clear e1
  go_enter Tryd.func21, Tryd.ntmps21
  go_wp2
  refine bodyPost_ret ?_ rfl ⟨rfl, ?_⟩
  · simp [results, Tryd.results21, go_sem]
  · repeat (first | exact Below.refl _ _ | refine Below.setCell ?_ (by simp) _ | refine Below.alloc ?_ (by simp) _)
set_option maxHeartbeats 1000000 in
theorem rNewR_c (e l : Int) (w : World) (h0 : ¬ e < 0) (h1 : ¬ 2147483648 < e) (h2 : l < 0) : Calls Tryd.prog 21 #[.int .i64 e, .int .i64 l] w fun r w' => r = .returned (.tuple #[.agg #[.bool (newR e l == 0), .int .i64 (rE e l), .int .i64 (rL e l)], .int .i64 (newR e l)]) ∧ Below w.heap.size w w' := by
  have e1 : newR e l = 2 := newR_2 (by omega)
  rw [e1, show rE e l = 0 from if_neg (by rw [e1]; decide), show rL e l = 0 from if_neg (by rw [e1]; decide)]
  clear e1
  go_enter Tryd.func21, Tryd.ntmps21
  go_wp2
  refine bodyPost_ret ?_ rfl ⟨rfl, ?_⟩
  · simp [results, Tryd.results21, go_sem]
  · repeat (first | exact Below.refl _ _ | refine Below.setCell ?_ (by simp) _ | refine Below.alloc ?_ (by simp) _)
set_option maxHeartbeats 1000000 in
theorem rNewR_d (e l : Int) (w : World) (h0 : ¬ e < 0) (h1 : ¬ 2147483648 < e) (h2 : ¬ l < 0) (h3 : 2147483647 < l) : Calls Tryd.prog 21 #[.int .i64 e, .int .i64 l] w fun r w' => r = .returned (.tuple #[.agg #[.bool (newR e l == 0), .int .i64 (rE e l), .int .i64 (rL e l)], .int .i64 (newR e l)]) ∧ Below w.heap.size w w' := by
  have e1 : newR e l = 2 := newR_2 (by omega)
  rw [e1, show rE e l = 0 from if_neg (by rw [e1]; decide), show rL e l = 0 from if_neg (by rw [e1]; decide)]
  clear e1
  go_enter Tryd.func21, Tryd.ntmps21
  go_wp2
  refine bodyPost_ret ?_ rfl ⟨rfl, ?_⟩
  · simp [results, Tryd.results21, go_sem]
  · repeat (first | exact Below.refl _ _ | refine Below.setCell ?_ (by simp) _ | refine Below.alloc ?_ (by simp) _)
set_option maxHeartbeats 1000000 in
theorem rNewR_e (e l : Int) (w : World) (h0 : e = 0) (h1 : ¬ l < 0) (h2 : ¬ 2147483647 < l) (h3 : l ≠ 0) : Calls Tryd.prog 21 #[.int .i64 e, .int .i64 l] w fun r w' => r = .returned (.tuple #[.agg #[.bool (newR e l == 0), .int .i64 (rE e l), .int .i64 (rL e l)], .int .i64 (newR e l)]) ∧ Below w.heap.size w w' := by
  have e1 : newR e l = 2 := newR_2 (by omega)
  rw [e1, show rE e l = 0 from if_neg (by rw [e1]; decide), show rL e l = 0 from if_neg (by rw [e1]; decide)]
  clear e1
  subst h0
  have g3 : (l == 0) = false := by simpa using h3
  have gn3 : (l != 0) = true := by simpa using h3
  go_enter Tryd.func21, Tryd.ntmps21
  go_wp2
  refine bodyPost_ret ?_ rfl ⟨rfl, ?_⟩
  · simp [results, Tryd.results21, go_sem]
  · repeat (first | exact Below.refl _ _ | refine Below.setCell ?_ (by simp) _ | refine Below.alloc ?_ (by simp) _)
set_option maxHeartbeats 1000000 in
theorem rNewR_f (e l : Int) (w : World) (h0 : e = 0) (h1 : l = 0) : Calls Tryd.prog 21 #[.int .i64 e, .int .i64 l] w fun r w' => r = .returned (.tuple #[.agg #[.bool (newR e l == 0), .int .i64 (rE e l), .int .i64 (rL e l)], .int .i64 (newR e l)]) ∧ Below w.heap.size w w' := by
  have e1 : newR e l = 0 := newR_0 (by omega)
  rw [e1, show rE e l = e from if_pos e1, show rL e l = l from if_pos e1]
  clear e1
  subst h0
  subst h1
  go_enter Tryd.func21, Tryd.ntmps21
  go_wp2
  refine bodyPost_ret ?_ rfl ⟨rfl, ?_⟩
  · simp [results, Tryd.results21, go_sem]
  · repeat (first | exact Below.refl _ _ | refine Below.setCell ?_ (by simp) _ | refine Below.alloc ?_ (by simp) _)
set_option maxHeartbeats 1000000 in
theorem rNewR_g (e l : Int) (w : World) (h0 : e = 2147483648) (h1 : ¬ l < 0) (h2 : ¬ 2147483647 < l) (h3 : l ≠ 2147483647) : Calls Tryd.prog 21 #[.int .i64 e, .int .i64 l] w fun r w' => r = .returned (.tuple #[.agg #[.bool (newR e l == 0), .int .i64 (rE e l), .int .i64 (rL e l)], .int .i64 (newR e l)]) ∧ Below w.heap.size w w' := by
  have e1 : newR e l = 2 := newR_2 (by omega)
  rw [e1, show rE e l = 0 from if_neg (by rw [e1]; decide), show rL e l = 0 from if_neg (by rw [e1]; decide)]
  clear e1
  subst h0
  have g3 : (l == 2147483647) = false := by simpa using h3
  have gn3 : (l != 2147483647) = true := by simpa using h3
  go_enter Tryd.func21, Tryd.ntmps21
  go_wp2
  refine bodyPost_ret ?_ rfl ⟨rfl, ?_⟩
  · simp [results, Tryd.results21, go_sem]
  · repeat (first | exact Below.refl _ _ | refine Below.setCell ?_ (by simp) _ | refine Below.alloc ?_ (by simp) _)
set_option maxHeartbeats 1000000 in
theorem rNewR_h (e l : Int) (w : World) (h0 : e = 2147483648) (h1 : l = 2147483647) : Calls Tryd.prog 21 #[.int .i64 e, .int .i64 l] w fun r w' => r = .returned (.tuple #[.agg #[.bool (newR e l == 0), .int .i64 (rE e l), .int .i64 (rL e l)], .int .i64 (newR e l)]) ∧ Below w.heap.size w w' := by
  have e1 : newR e l = 0 := newR_0 (by omega)
  rw [e1, show rE e l = e from if_pos e1, show rL e l = l from if_pos e1]
  clear e1
  subst h0
  subst h1
  go_enter Tryd.func21, Tryd.ntmps21
  go_wp2
  refine bodyPost_ret ?_ rfl ⟨rfl, ?_⟩
  · simp [results, Tryd.results21, go_sem]
  · repeat (first | exact Below.refl _ _ | refine Below.setCell ?_ (by simp) _ | refine Below.alloc ?_ (by simp) _)
set_option maxHeartbeats 1000000 in
theorem rNewR_i (e l : Int) (w : World) (h0 : ¬ e < 0) (h1 : ¬ 2147483648 < e) (h2 : e ≠ 0) (h3 : e ≠ 2147483648) (h4 : l = 0) : Calls Tryd.prog 21 #[.int .i64 e, .int .i64 l] w fun r w' => r = .returned (.tuple #[.agg #[.bool (newR e l == 0), .int .i64 (rE e l), .int .i64 (rL e l)], .int .i64 (newR e l)]) ∧ Below w.heap.size w w' := by
  have e1 : newR e l = 0 := newR_0 (by omega)
  rw [e1, show rE e l = e from if_pos e1, show rL e l = l from if_pos e1]
  clear e1
  have g2 : (e == 0) = false := by simpa using h2
  have gn2 : (e != 0) = true := by simpa using h2
  have g3 : (e == 2147483648) = false := by simpa using h3
  have gn3 : (e != 2147483648) = true := by simpa using h3
  subst h4
  go_enter Tryd.func21, Tryd.ntmps21
  go_wp2
  refine bodyPost_ret ?_ rfl ⟨rfl, ?_⟩
  · simp [results, Tryd.results21, go_sem]
  · repeat (first | exact Below.refl _ _ | refine Below.setCell ?_ (by simp) _ | refine Below.alloc ?_ (by simp) _)
set_option maxHeartbeats 1000000 in
theorem rNewR_j (e l : Int) (w : World) (h0 : ¬ e < 0) (h1 : ¬ 2147483648 < e) (h2 : e ≠ 0) (h3 : e ≠ 2147483648) (h4 : ¬ l < 0) (h5 : ¬ 2147483647 < l) (h6 : l ≠ 0) (h7 : l ≠ e - 1) : Calls Tryd.prog 21 #[.int .i64 e, .int .i64 l] w fun r w' => r = .returned (.tuple #[.agg #[.bool (newR e l == 0), .int .i64 (rE e l), .int .i64 (rL e l)], .int .i64 (newR e l)]) ∧ Below w.heap.size w w' := by
  have e1 : newR e l = 2 := newR_2 (by omega)
  rw [e1, show rE e l = 0 from if_neg (by rw [e1]; decide), show rL e l = 0 from if_neg (by rw [e1]; decide)]
  clear e1
  have g2 : (e == 0) = false := by simpa using h2
  have gn2 : (e != 0) = true := by simpa using h2
  have g3 : (e == 2147483648) = false := by simpa using h3
  have gn3 : (e != 2147483648) = true := by simpa using h3
  have g6 : (l == 0) = false := by simpa using h6
  have gn6 : (l != 0) = true := by simpa using h6
  have g7 : (l == e - 1) = false := by simpa using h7
  have gn7 : (l != e - 1) = true := by simpa using h7
  go_enter Tryd.func21, Tryd.ntmps21
  go_wp2
  refine bodyPost_ret ?_ rfl ⟨rfl, ?_⟩
  · simp [results, Tryd.results21, go_sem]
  · repeat (first | exact Below.refl _ _ | refine Below.setCell ?_ (by simp) _ | refine Below.alloc ?_ (by simp) _)
set_option maxHeartbeats 1000000 in
theorem rNewR_k (e l : Int) (w : World) (h0 : ¬ e < 0) (h1 : ¬ 2147483648 < e) (h2 : e ≠ 0) (h3 : e ≠ 2147483648) (h4 : ¬ l < 0) (h5 : ¬ 2147483647 < l) (h6 : l ≠ 0) (h7 : l = e - 1) : Calls Tryd.prog 21 #[.int .i64 e, .int .i64 l] w fun r w' => r = .returned (.tuple #[.agg #[.bool (newR e l == 0), .int .i64 (rE e l), .int .i64 (rL e l)], .int .i64 (newR e l)]) ∧ Below w.heap.size w w' := by
  have e1 : newR e l = 0 := newR_0 (by omega)
  rw [e1, show rE e l = e from if_pos e1, show rL e l = l from if_pos e1]
  clear e1
  have g2 : (e == 0) = false := by simpa using h2
  have gn2 : (e != 0) = true := by simpa using h2
  have g3 : (e == 2147483648) = false := by simpa using h3
  have gn3 : (e != 2147483648) = true := by simpa using h3
  have g6 : (l == 0) = false := by simpa using h6
  have gn6 : (l != 0) = true := by simpa using h6
  have g7 : (l == e - 1) = true := by simpa using h7
  have gn7 : (l != e - 1) = false := by simp [h7]
  go_enter Tryd.func21, Tryd.ntmps21
  go_wp2
  refine bodyPost_ret ?_ rfl ⟨rfl, ?_⟩
  · simp [results, Tryd.results21, go_sem]
  · repeat (first | exact Below.refl _ _ | refine Below.setCell ?_ (by simp) _ | refine Below.alloc ?_ (by simp) _)
theorem rNewR_any (e l : Int) (w : World) : Calls Tryd.prog 21 #[.int .i64 e, .int .i64 l] w fun r w' => r = .returned (.tuple #[.agg #[.bool (newR e l == 0), .int .i64 (rE e l), .int .i64 (rL e l)], .int .i64 (newR e l)]) ∧ Below w.heap.size w w' := by
  by_cases h1 : e < 0
  · exact rNewR_a e l w h1
  by_cases h2 : 2147483648 < e
  · exact rNewR_b e l w h1 h2
  by_cases h3 : l < 0
  · exact rNewR_c e l w h1 h2 h3
  by_cases h4 : 2147483647 < l
  · exact rNewR_d e l w h1 h2 h3 h4
  by_cases h5 : e = 0
  · by_cases h6 : l = 0
    · exact rNewR_f e l w h5 h6
    · exact rNewR_e e l w h5 h3 h4 h6
  by_cases h6 : e = 2147483648
  · by_cases h7 : l = 2147483647
    · exact rNewR_h e l w h6 h7
    · exact rNewR_g e l w h6 h3 h4 h7
  by_cases h7 : l = 0
  · exact rNewR_i e l w h1 h2 h5 h6 h7
  by_cases h8 : l = e - 1
  · exact rNewR_k e l w h1 h2 h5 h6 h3 h4 h7 h8
  · exact rNewR_j e l w h1 h2 h5 h6 h3 h4 h7 h8
section
variable {w : World} {b : Nat} {sp : Value} {e l : Int}
/-- What a call of the document's receiver leaves. -/
def RRQ (w : World) (b : Nat) (sp : Value) (e l : Int) (w' : World) : Prop := Box w' b #[sp, .bool true, .int .i64 e, .int .i64 l] ∧ Off (fun k => k = b) w w'
theorem RRQ.put (h : Box w b #[sp, .bool true, .int .i64 e, .int .i64 l]) (e' l' : Int) : RRQ w b sp e' l' ((w.setCell ⟨b, 3, none⟩ (.int .i64 l')).setCell ⟨b, 2, none⟩ (.int .i64 e')) :=
  ⟨by simpa using (h.pPut (j := 3) (by simp) (.int .i64 l')).pPut (j := 2) (by simp) (.int .i64 e'), ((Off.refl (fun k => k = b) _).setCell (p := ⟨b, 3, none⟩) rfl _).setCell (p := ⟨b, 2, none⟩) rfl _⟩
theorem RRQ.put' (h : Box w b #[sp, .bool true, .int .i64 e, .int .i64 l]) (e' l' : Int) : RRQ w b sp e' l' ((w.setCell ⟨b, 2, none⟩ (.int .i64 e')).setCell ⟨b, 3, none⟩ (.int .i64 l')) :=
  ⟨by simpa using (h.pPut (j := 2) (by simp) (.int .i64 e')).pPut (j := 3) (by simp) (.int .i64 l'), ((Off.refl (fun k => k = b) _).setCell (p := ⟨b, 2, none⟩) rfl _).setCell (p := ⟨b, 3, none⟩) rfl _⟩
theorem RRQ.then {w1 w2 : World} {e' l' : Int} (hb : Below w.heap.size w w1) (h : RRQ w1 b sp e' l' w2) : RRQ w b sp e' l' w2 := ⟨h.1, (Off.of_below hb).trans h.2⟩
end
end Go.Proofs.YtnabpjfdpelejabDoor
