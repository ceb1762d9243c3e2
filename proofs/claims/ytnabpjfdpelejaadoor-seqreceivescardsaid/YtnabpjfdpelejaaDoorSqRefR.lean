/-
  The document's receiver (courierref12), at a block of the law's own.
-/
import Derived.Test.YtnabpjfdpelejaaDoorSqRef
namespace Go.Proofs.YtnabpjfdpelejaaDoor
open Go.RowKit

def rE (e l : Int) : Int := if newR e l = 0 then e else 0
def rL (e l : Int) : Int := if newR e l = 0 then l else 0
theorem newR_ok {e l : Int} (h : newR e l = 0) : ROk e l := by
  unfold newR at h
  split at h
  · unfold ROk; omega
  · cases h
theorem newR_01 (e l : Int) : newR e l = 0 ∨ newR e l = 2 := by unfold newR; split <;> simp
theorem newR_0 {e l : Int} (h : 0 ≤ e ∧ e ≤ 2147483648 ∧ 0 ≤ l ∧ l ≤ 2147483647 ∧ ¬ (e = 0 ∧ l ≠ 0) ∧ ¬ (e = 2147483648 ∧ l ≠ 2147483647) ∧ ¬ (e ≠ 0 ∧ l ≠ 0 ∧ l ≠ e - 1)) : newR e l = 0 := if_pos h
theorem newR_2 {e l : Int} (h : ¬ (0 ≤ e ∧ e ≤ 2147483648 ∧ 0 ≤ l ∧ l ≤ 2147483647 ∧ ¬ (e = 0 ∧ l ≠ 0) ∧ ¬ (e = 2147483648 ∧ l ≠ 2147483647) ∧ ¬ (e ≠ 0 ∧ l ≠ 0 ∧ l ≠ e - 1))) : newR e l = 2 := if_neg h
set_option maxHeartbeats 1000000 in
theorem rNewR_a (e l : Int) (w : World) (h0 : e < 0) : Calls Tryd.prog 43 #[.int .i64 e, .int .i64 l] w fun r w' => r = .returned (.tuple #[.agg #[.bool (newR e l == 0), .int .i64 (rE e l), .int .i64 (rL e l)], .int .i64 (newR e l)]) ∧ Below w.heap.size w w' := by
  have e1 : newR e l = 2 := newR_2 (by omega)
  rw [e1, show rE e l = 0 from if_neg (by rw [e1]; decide), show rL e l = 0 from if_neg (by rw [e1]; decide)]
  clear e1
  go_enter Tryd.func43, Tryd.ntmps43
  go_wp2
  refine bodyPost_ret ?_ rfl ⟨rfl, ?_⟩
  · simp [results, Tryd.results43, go_sem]
  · repeat (first | exact Below.refl _ _ | refine Below.setCell ?_ (by simp) _ | refine Below.alloc ?_ (by simp) _)
set_option maxHeartbeats 1000000 in
theorem rNewR_b (e l : Int) (w : World) (h0 : ¬ e < 0) (h1 : 2147483648 < e) : Calls Tryd.prog 43 #[.int .i64 e, .int .i64 l] w fun r w' => r = .returned (.tuple #[.agg #[.bool (newR e l == 0), .int .i64 (rE e l), .int .i64 (rL e l)], .int .i64 (newR e l)]) ∧ Below w.heap.size w w' := by
  have e1 : newR e l = 2 := newR_2 (by omega)
  rw [e1, show rE e l = 0 from if_neg (by rw [e1]; decide), show rL e l = 0 from if_neg (by rw [e1]; decide)]
  clear e1
  go_enter Tryd.func43, Tryd.ntmps43
  go_wp2
  refine bodyPost_ret ?_ rfl ⟨rfl, ?_⟩
  · simp [results, Tryd.results43, go_sem]
  · repeat (first | exact Below.refl _ _ | refine Below.setCell ?_ (by simp) _ | refine Below.alloc ?_ (by simp) _)
set_option maxHeartbeats 1000000 in
theorem rNewR_c (e l : Int) (w : World) (h0 : ¬ e < 0) (h1 : ¬ 2147483648 < e) (h2 : l < 0) : Calls Tryd.prog 43 #[.int .i64 e, .int .i64 l] w fun r w' => r = .returned (.tuple #[.agg #[.bool (newR e l == 0), .int .i64 (rE e l), .int .i64 (rL e l)], .int .i64 (newR e l)]) ∧ Below w.heap.size w w' := by
  have e1 : newR e l = 2 := newR_2 (by omega)
  rw [e1, show rE e l = 0 from if_neg (by rw [e1]; decide), show rL e l = 0 from if_neg (by rw [e1]; decide)]
  clear e1
  go_enter Tryd.func43, Tryd.ntmps43
  go_wp2
  refine bodyPost_ret ?_ rfl ⟨rfl, ?_⟩
  · simp [results, Tryd.results43, go_sem]
  · repeat (first | exact Below.refl _ _ | refine Below.setCell ?_ (by simp) _ | refine Below.alloc ?_ (by simp) _)
set_option maxHeartbeats 1000000 in
theorem rNewR_d (e l : Int) (w : World) (h0 : ¬ e < 0) (h1 : ¬ 2147483648 < e) (h2 : ¬ l < 0) (h3 : 2147483647 < l) : Calls Tryd.prog 43 #[.int .i64 e, .int .i64 l] w fun r w' => r = .returned (.tuple #[.agg #[.bool (newR e l == 0), .int .i64 (rE e l), .int .i64 (rL e l)], .int .i64 (newR e l)]) ∧ Below w.heap.size w w' := by
  have e1 : newR e l = 2 := newR_2 (by omega)
  rw [e1, show rE e l = 0 from if_neg (by rw [e1]; decide), show rL e l = 0 from if_neg (by rw [e1]; decide)]
  clear e1
  go_enter Tryd.func43, Tryd.ntmps43
  go_wp2
  refine bodyPost_ret ?_ rfl ⟨rfl, ?_⟩
  · simp [results, Tryd.results43, go_sem]
  · repeat (first | exact Below.refl _ _ | refine Below.setCell ?_ (by simp) _ | refine Below.alloc ?_ (by simp) _)
set_option maxHeartbeats 1000000 in
theorem rNewR_e (e l : Int) (w : World) (h0 : e = 0) (h1 : ¬ l < 0) (h2 : ¬ 2147483647 < l) (h3 : l ≠ 0) : Calls Tryd.prog 43 #[.int .i64 e, .int .i64 l] w fun r w' => r = .returned (.tuple #[.agg #[.bool (newR e l == 0), .int .i64 (rE e l), .int .i64 (rL e l)], .int .i64 (newR e l)]) ∧ Below w.heap.size w w' := by
  have e1 : newR e l = 2 := newR_2 (by omega)
  rw [e1, show rE e l = 0 from if_neg (by rw [e1]; decide), show rL e l = 0 from if_neg (by rw [e1]; decide)]
  clear e1
  subst h0
  have g3 : (l == 0) = false := by simpa using h3
  have gn3 : (l != 0) = true := by simpa using h3
  go_enter Tryd.func43, Tryd.ntmps43
  go_wp2
  refine bodyPost_ret ?_ rfl ⟨rfl, ?_⟩
  · simp [results, Tryd.results43, go_sem]
  · repeat (first | exact Below.refl _ _ | refine Below.setCell ?_ (by simp) _ | refine Below.alloc ?_ (by simp) _)
set_option maxHeartbeats 1000000 in
theorem rNewR_f (e l : Int) (w : World) (h0 : e = 0) (h1 : l = 0) : Calls Tryd.prog 43 #[.int .i64 e, .int .i64 l] w fun r w' => r = .returned (.tuple #[.agg #[.bool (newR e l == 0), .int .i64 (rE e l), .int .i64 (rL e l)], .int .i64 (newR e l)]) ∧ Below w.heap.size w w' := by
  have e1 : newR e l = 0 := newR_0 (by omega)
  rw [e1, show rE e l = e from if_pos e1, show rL e l = l from if_pos e1]
  clear e1
  subst h0
  subst h1
  go_enter Tryd.func43, Tryd.ntmps43
  go_wp2
  refine bodyPost_ret ?_ rfl ⟨rfl, ?_⟩
  · simp [results, Tryd.results43, go_sem]
  · repeat (first | exact Below.refl _ _ | refine Below.setCell ?_ (by simp) _ | refine Below.alloc ?_ (by simp) _)
set_option maxHeartbeats 1000000 in
theorem rNewR_g (e l : Int) (w : World) (h0 : e = 2147483648) (h1 : ¬ l < 0) (h2 : ¬ 2147483647 < l) (h3 : l ≠ 2147483647) : Calls Tryd.prog 43 #[.int .i64 e, .int .i64 l] w fun r w' => r = .returned (.tuple #[.agg #[.bool (newR e l == 0), .int .i64 (rE e l), .int .i64 (rL e l)], .int .i64 (newR e l)]) ∧ Below w.heap.size w w' := by
  have e1 : newR e l = 2 := newR_2 (by omega)
  rw [e1, show rE e l = 0 from if_neg (by rw [e1]; decide), show rL e l = 0 from if_neg (by rw [e1]; decide)]
  clear e1
  subst h0
  have g3 : (l == 2147483647) = false := by simpa using h3
  have gn3 : (l != 2147483647) = true := by simpa using h3
  go_enter Tryd.func43, Tryd.ntmps43
  go_wp2
  refine bodyPost_ret ?_ rfl ⟨rfl, ?_⟩
  · simp [results, Tryd.results43, go_sem]
  · repeat (first | exact Below.refl _ _ | refine Below.setCell ?_ (by simp) _ | refine Below.alloc ?_ (by simp) _)
set_option maxHeartbeats 1000000 in
theorem rNewR_h (e l : Int) (w : World) (h0 : e = 2147483648) (h1 : l = 2147483647) : Calls Tryd.prog 43 #[.int .i64 e, .int .i64 l] w fun r w' => r = .returned (.tuple #[.agg #[.bool (newR e l == 0), .int .i64 (rE e l), .int .i64 (rL e l)], .int .i64 (newR e l)]) ∧ Below w.heap.size w w' := by
  have e1 : newR e l = 0 := newR_0 (by omega)
  rw [e1, show rE e l = e from if_pos e1, show rL e l = l from if_pos e1]
  clear e1
  subst h0
  subst h1
  go_enter Tryd.func43, Tryd.ntmps43
  go_wp2
  refine bodyPost_ret ?_ rfl ⟨rfl, ?_⟩
  · simp [results, Tryd.results43, go_sem]
  · repeat (first | exact Below.refl _ _ | refine Below.setCell ?_ (by simp) _ | refine Below.alloc ?_ (by simp) _)
set_option maxHeartbeats 1000000 in
theorem rNewR_i (e l : Int) (w : World) (h0 : ¬ e < 0) (h1 : ¬ 2147483648 < e) (h2 : e ≠ 0) (h3 : e ≠ 2147483648) (h4 : l = 0) : Calls Tryd.prog 43 #[.int .i64 e, .int .i64 l] w fun r w' => r = .returned (.tuple #[.agg #[.bool (newR e l == 0), .int .i64 (rE e l), .int .i64 (rL e l)], .int .i64 (newR e l)]) ∧ Below w.heap.size w w' := by
  have e1 : newR e l = 0 := newR_0 (by omega)
  rw [e1, show rE e l = e from if_pos e1, show rL e l = l from if_pos e1]
  clear e1
  have g2 : (e == 0) = false := by simpa using h2
  have gn2 : (e != 0) = true := by simpa using h2
  have g3 : (e == 2147483648) = false := by simpa using h3
  have gn3 : (e != 2147483648) = true := by simpa using h3
  subst h4
  go_enter Tryd.func43, Tryd.ntmps43
  go_wp2
  refine bodyPost_ret ?_ rfl ⟨rfl, ?_⟩
  · simp [results, Tryd.results43, go_sem]
  · repeat (first | exact Below.refl _ _ | refine Below.setCell ?_ (by simp) _ | refine Below.alloc ?_ (by simp) _)
set_option maxHeartbeats 1000000 in
theorem rNewR_j (e l : Int) (w : World) (h0 : ¬ e < 0) (h1 : ¬ 2147483648 < e) (h2 : e ≠ 0) (h3 : e ≠ 2147483648) (h4 : ¬ l < 0) (h5 : ¬ 2147483647 < l) (h6 : l ≠ 0) (h7 : l ≠ e - 1) : Calls Tryd.prog 43 #[.int .i64 e, .int .i64 l] w fun r w' => r = .returned (.tuple #[.agg #[.bool (newR e l == 0), .int .i64 (rE e l), .int .i64 (rL e l)], .int .i64 (newR e l)]) ∧ Below w.heap.size w w' := by
  have e1 : newR e l = 2 := newR_2 (by omega)
  rw [e1, show rE e l = 0 from if_neg (by rw [e1]; decide), show rL e l = 0 from if_neg (by rw [e1]; decide)]
  clear e1
  have g2 : (e == 0) = false := by simpa using h2
  have gn2 : (e != 0) = true := by simpa using h2
  have g3 : (e == 2147483648) = false := by simpa using h3
  have gn3 : (e != 2147483648) = true := by simpa using h3
  have g6 : (l == 0) = false := by simpa using h6
  have gn6 : (l != 0) = true := by simpa using h6
  have g7 : (l == e - 1) = false := by simpa using h7
  have gn7 : (l != e - 1) = true := by simpa using h7
  go_enter Tryd.func43, Tryd.ntmps43
  go_wp2
  refine bodyPost_ret ?_ rfl ⟨rfl, ?_⟩
  · simp [results, Tryd.results43, go_sem]
  · repeat (first | exact Below.refl _ _ | refine Below.setCell ?_ (by simp) _ | refine Below.alloc ?_ (by simp) _)
set_option maxHeartbeats 1000000 in
theorem rNewR_k (e l : Int) (w : World) (h0 : ¬ e < 0) (h1 : ¬ 2147483648 < e) (h2 : e ≠ 0) (h3 : e ≠ 2147483648) (h4 : ¬ l < 0) (h5 : ¬ 2147483647 < l) (h6 : l ≠ 0) (h7 : l = e - 1) : Calls Tryd.prog 43 #[.int .i64 e, .int .i64 l] w fun r w' => r = .returned (.tuple #[.agg #[.bool (newR e l == 0), .int .i64 (rE e l), .int .i64 (rL e l)], .int .i64 (newR e l)]) ∧ Below w.heap.size w w' := by
  have e1 : newR e l = 0 := newR_0 (by omega)
  rw [e1, show rE e l = e from if_pos e1, show rL e l = l from if_pos e1]
  clear e1
  have g2 : (e == 0) = false := by simpa using h2
  have gn2 : (e != 0) = true := by simpa using h2
  have g3 : (e == 2147483648) = false := by simpa using h3
  have gn3 : (e != 2147483648) = true := by simpa using h3
  have g6 : (l == 0) = false := by simpa using h6
  have gn6 : (l != 0) = true := by simpa using h6
  have g7 : (l == e - 1) = true := by simpa using h7
  have gn7 : (l != e - 1) = false := by simp [h7]
  go_enter Tryd.func43, Tryd.ntmps43
  go_wp2
  refine bodyPost_ret ?_ rfl ⟨rfl, ?_⟩
  · simp [results, Tryd.results43, go_sem]
  · repeat (first | exact Below.refl _ _ | refine Below.setCell ?_ (by simp) _ | refine Below.alloc ?_ (by simp) _)
theorem rNewR_any (e l : Int) (w : World) : Calls Tryd.prog 43 #[.int .i64 e, .int .i64 l] w fun r w' => r = .returned (.tuple #[.agg #[.bool (newR e l == 0), .int .i64 (rE e l), .int .i64 (rL e l)], .int .i64 (newR e l)]) ∧ Below w.heap.size w w' := by
  by_cases h1 : e < 0
  · exact rNewR_a e l w h1
  by_cases h2 : 2147483648 < e
  · exact rNewR_b e l w h1 h2
  by_cases h3 : l < 0
  · exact rNewR_c e l w h1 h2 h3
  by_cases h4 : 2147483647 < l
  · exact rNewR_d e l w h1 h2 h3 h4
  by_cases h5 : e = 0
  · by_cases h6 : l = 0
    · exact rNewR_f e l w h5 h6
    · exact rNewR_e e l w h5 h3 h4 h6
  by_cases h6 : e = 2147483648
  · by_cases h7 : l = 2147483647
    · exact rNewR_h e l w h6 h7
    · exact rNewR_g e l w h6 h3 h4 h7
  by_cases h7 : l = 0
  · exact rNewR_i e l w h1 h2 h5 h6 h7
  by_cases h8 : l = e - 1
  · exact rNewR_k e l w h1 h2 h5 h6 h3 h4 h7 h8
  · exact rNewR_j e l w h1 h2 h5 h6 h3 h4 h7 h8
section
variable {w : World} {b : Nat} {sp : Value} {e l : Int}
/-- What a call of the document's receiver leaves. -/
def RRQ (w : World) (b : Nat) (sp : Value) (e l : Int) (w' : World) : Prop := Box w' b #[sp, .bool true, .int .i64 e, .int .i64 l] ∧ Off (fun k => k = b) w w'
set_option maxHeartbeats 1000000 in
theorem rJudge_a (h : Box w b #[sp, .bool true, .int .i64 e, .int .i64 l]) (n : Int) (h0 : n = 0) : Calls Tryd.prog 44 #[.pointer (some ⟨b, 1, none⟩), .int .i64 n] w fun r w' => r = .returned (.int .i64 (judK e l n)) ∧ Below w.heap.size w w' := by
  have ej : judK e l n = 1 := by
    unfold judK isN
    try unfold isN at *
    repeat (first | rfl | rw [if_pos (by omega)] | rw [if_neg (by omega)])
  rw [ej]
  clear ej
  have HB : Hid (Box w b #[sp, .bool true, .int .i64 e, .int .i64 l]) := h
  have k1 : w.cell? ⟨b, 1, none⟩ = some (.bool true) := h.cell 1
  have k2 : w.cell? ⟨b, 2, none⟩ = some (.int .i64 e) := h.cell 2
  have k3 : w.cell? ⟨b, 3, none⟩ = some (.int .i64 l) := h.cell 3
  have f2 : w.frozen? ⟨b, 2, none⟩ = false := h.free 2
  have f3 : w.frozen? ⟨b, 3, none⟩ = false := h.free 3
  clear h
  subst h0
  go_enter Tryd.func44, Tryd.ntmps44
  go_wp2_with fail
  go_ret
  exact ⟨rfl, Below.refl _ _⟩
set_option maxHeartbeats 1000000 in
theorem rJudge_b (h : Box w b #[sp, .bool true, .int .i64 e, .int .i64 l]) (n : Int) (h0 : n = -1) : Calls Tryd.prog 44 #[.pointer (some ⟨b, 1, none⟩), .int .i64 n] w fun r w' => r = .returned (.int .i64 (judK e l n)) ∧ Below w.heap.size w w' := by
  have ej : judK e l n = 2 := by
    unfold judK isN
    try unfold isN at *
    repeat (first | rfl | rw [if_pos (by omega)] | rw [if_neg (by omega)])
  rw [ej]
  clear ej
  have HB : Hid (Box w b #[sp, .bool true, .int .i64 e, .int .i64 l]) := h
  have k1 : w.cell? ⟨b, 1, none⟩ = some (.bool true) := h.cell 1
  have k2 : w.cell? ⟨b, 2, none⟩ = some (.int .i64 e) := h.cell 2
  have k3 : w.cell? ⟨b, 3, none⟩ = some (.int .i64 l) := h.cell 3
  have f2 : w.frozen? ⟨b, 2, none⟩ = false := h.free 2
  have f3 : w.frozen? ⟨b, 3, none⟩ = false := h.free 3
  clear h
  subst h0
  go_enter Tryd.func44, Tryd.ntmps44
  go_wp2_with fail
  go_ret
  exact ⟨rfl, Below.refl _ _⟩
set_option maxHeartbeats 1000000 in
theorem rJudge_c (h : Box w b #[sp, .bool true, .int .i64 e, .int .i64 l]) (n : Int) (h0 : isN n) (h1 : e = 0) : Calls Tryd.prog 44 #[.pointer (some ⟨b, 1, none⟩), .int .i64 n] w fun r w' => r = .returned (.int .i64 (judK e l n)) ∧ Below w.heap.size w w' := by
  have ej : judK e l n = 3 := by
    unfold judK isN
    try unfold isN at *
    repeat (first | rfl | rw [if_pos (by omega)] | rw [if_neg (by omega)])
  rw [ej]
  clear ej
  have HB : Hid (Box w b #[sp, .bool true, .int .i64 e, .int .i64 l]) := h
  have k1 : w.cell? ⟨b, 1, none⟩ = some (.bool true) := h.cell 1
  have k2 : w.cell? ⟨b, 2, none⟩ = some (.int .i64 e) := h.cell 2
  have k3 : w.cell? ⟨b, 3, none⟩ = some (.int .i64 l) := h.cell 3
  have f2 : w.frozen? ⟨b, 2, none⟩ = false := h.free 2
  have f3 : w.frozen? ⟨b, 3, none⟩ = false := h.free 3
  clear h
  have d1 : decide (isN n) = true := decide_eq_true h0
  have m0 : (n == 0) = false := by unfold isN at h0; simp; omega
  have m1 : (n == -1) = false := by unfold isN at h0; simp; omega
  subst h1
  go_enter Tryd.func44, Tryd.ntmps44
  go_wp2_with fail
  refine (rnumber_any n _).mono ?_
  rw [d1]
  rintro _ _ ⟨rfl, rfl⟩
  go_wp2_with fail
  go_ret
  exact ⟨rfl, Below.refl _ _⟩
set_option maxHeartbeats 1000000 in
theorem rJudge_d (h : Box w b #[sp, .bool true, .int .i64 e, .int .i64 l]) (n : Int) (h0 : isN n) (h1 : e ≠ 0) (h2 : e = n) : Calls Tryd.prog 44 #[.pointer (some ⟨b, 1, none⟩), .int .i64 n] w fun r w' => r = .returned (.int .i64 (judK e l n)) ∧ Below w.heap.size w w' := by
  have ej : judK e l n = 3 := by
    unfold judK isN
    try unfold isN at *
    repeat (first | rfl | rw [if_pos (by omega)] | rw [if_neg (by omega)])
  rw [ej]
  clear ej
  have HB : Hid (Box w b #[sp, .bool true, .int .i64 e, .int .i64 l]) := h
  have k1 : w.cell? ⟨b, 1, none⟩ = some (.bool true) := h.cell 1
  have k2 : w.cell? ⟨b, 2, none⟩ = some (.int .i64 e) := h.cell 2
  have k3 : w.cell? ⟨b, 3, none⟩ = some (.int .i64 l) := h.cell 3
  have f2 : w.frozen? ⟨b, 2, none⟩ = false := h.free 2
  have f3 : w.frozen? ⟨b, 3, none⟩ = false := h.free 3
  clear h
  have d1 : decide (isN n) = true := decide_eq_true h0
  have m0 : (n == 0) = false := by unfold isN at h0; simp; omega
  have m1 : (n == -1) = false := by unfold isN at h0; simp; omega
  have g1 : (e == 0) = false := by simpa using h1
  have g2 : (e == n) = true := by simpa using h2
  go_enter Tryd.func44, Tryd.ntmps44
  go_wp2_with fail
  refine (rnumber_any n _).mono ?_
  rw [d1]
  rintro _ _ ⟨rfl, rfl⟩
  go_wp2_with fail
  go_ret
  exact ⟨rfl, Below.refl _ _⟩
set_option maxHeartbeats 1000000 in
theorem rJudge_e (h : Box w b #[sp, .bool true, .int .i64 e, .int .i64 l]) (n : Int) (h0 : isN n) (h1 : e ≠ 0) (h2 : e ≠ n) (h3 : n = l) : Calls Tryd.prog 44 #[.pointer (some ⟨b, 1, none⟩), .int .i64 n] w fun r w' => r = .returned (.int .i64 (judK e l n)) ∧ Below w.heap.size w w' := by
  have ej : judK e l n = 4 := by
    unfold judK isN
    try unfold isN at *
    repeat (first | rfl | rw [if_pos (by omega)] | rw [if_neg (by omega)])
  rw [ej]
  clear ej
  have HB : Hid (Box w b #[sp, .bool true, .int .i64 e, .int .i64 l]) := h
  have k1 : w.cell? ⟨b, 1, none⟩ = some (.bool true) := h.cell 1
  have k2 : w.cell? ⟨b, 2, none⟩ = some (.int .i64 e) := h.cell 2
  have k3 : w.cell? ⟨b, 3, none⟩ = some (.int .i64 l) := h.cell 3
  have f2 : w.frozen? ⟨b, 2, none⟩ = false := h.free 2
  have f3 : w.frozen? ⟨b, 3, none⟩ = false := h.free 3
  clear h
  have d1 : decide (isN n) = true := decide_eq_true h0
  have m0 : (n == 0) = false := by unfold isN at h0; simp; omega
  have m1 : (n == -1) = false := by unfold isN at h0; simp; omega
  have g1 : (e == 0) = false := by simpa using h1
  have g2 : (e == n) = false := by simpa using h2
  subst h3
  go_enter Tryd.func44, Tryd.ntmps44
  go_wp2_with fail
  refine (rnumber_any n _).mono ?_
  rw [d1]
  rintro _ _ ⟨rfl, rfl⟩
  go_wp2_with fail
  go_ret
  exact ⟨rfl, Below.refl _ _⟩
set_option maxHeartbeats 1000000 in
theorem rJudge_f (h : Box w b #[sp, .bool true, .int .i64 e, .int .i64 l]) (n : Int) (h0 : isN n) (h1 : e ≠ 0) (h2 : e ≠ n) (h3 : n ≠ l) : Calls Tryd.prog 44 #[.pointer (some ⟨b, 1, none⟩), .int .i64 n] w fun r w' => r = .returned (.int .i64 (judK e l n)) ∧ Below w.heap.size w w' := by
  have ej : judK e l n = 5 := by
    unfold judK isN
    try unfold isN at *
    repeat (first | rfl | rw [if_pos (by omega)] | rw [if_neg (by omega)])
  rw [ej]
  clear ej
  have HB : Hid (Box w b #[sp, .bool true, .int .i64 e, .int .i64 l]) := h
  have k1 : w.cell? ⟨b, 1, none⟩ = some (.bool true) := h.cell 1
  have k2 : w.cell? ⟨b, 2, none⟩ = some (.int .i64 e) := h.cell 2
  have k3 : w.cell? ⟨b, 3, none⟩ = some (.int .i64 l) := h.cell 3
  have f2 : w.frozen? ⟨b, 2, none⟩ = false := h.free 2
  have f3 : w.frozen? ⟨b, 3, none⟩ = false := h.free 3
  clear h
  have d1 : decide (isN n) = true := decide_eq_true h0
  have m0 : (n == 0) = false := by unfold isN at h0; simp; omega
  have m1 : (n == -1) = false := by unfold isN at h0; simp; omega
  have g1 : (e == 0) = false := by simpa using h1
  have g2 : (e == n) = false := by simpa using h2
  have g3 : (n == l) = false := by simpa using h3
  go_enter Tryd.func44, Tryd.ntmps44
  go_wp2_with fail
  refine (rnumber_any n _).mono ?_
  rw [d1]
  rintro _ _ ⟨rfl, rfl⟩
  go_wp2_with fail
  go_ret
  exact ⟨rfl, Below.refl _ _⟩
set_option maxHeartbeats 1000000 in
theorem rJudge_g (h : Box w b #[sp, .bool true, .int .i64 e, .int .i64 l]) (n : Int) (h0 : ¬ isN n) (h1 : n ≠ 0) (h2 : n ≠ -1) (h3 : n = l) : Calls Tryd.prog 44 #[.pointer (some ⟨b, 1, none⟩), .int .i64 n] w fun r w' => r = .returned (.int .i64 (judK e l n)) ∧ Below w.heap.size w w' := by
  have ej : judK e l n = 4 := by
    unfold judK isN
    try unfold isN at *
    repeat (first | rfl | rw [if_pos (by omega)] | rw [if_neg (by omega)])
  rw [ej]
  clear ej
  have HB : Hid (Box w b #[sp, .bool true, .int .i64 e, .int .i64 l]) := h
  have k1 : w.cell? ⟨b, 1, none⟩ = some (.bool true) := h.cell 1
  have k2 : w.cell? ⟨b, 2, none⟩ = some (.int .i64 e) := h.cell 2
  have k3 : w.cell? ⟨b, 3, none⟩ = some (.int .i64 l) := h.cell 3
  have f2 : w.frozen? ⟨b, 2, none⟩ = false := h.free 2
  have f3 : w.frozen? ⟨b, 3, none⟩ = false := h.free 3
  clear h
  have d1 : decide (isN n) = false := decide_eq_false h0
  have g1 : (n == 0) = false := by simpa using h1
  have g2 : (n == -1) = false := by simpa using h2
  subst h3
  go_enter Tryd.func44, Tryd.ntmps44
  go_wp2_with fail
  refine (rnumber_any n _).mono ?_
  rw [d1]
  rintro _ _ ⟨rfl, rfl⟩
  go_wp2_with fail
  go_ret
  exact ⟨rfl, Below.refl _ _⟩
set_option maxHeartbeats 1000000 in
theorem rJudge_h (h : Box w b #[sp, .bool true, .int .i64 e, .int .i64 l]) (n : Int) (h0 : ¬ isN n) (h1 : n ≠ 0) (h2 : n ≠ -1) (h3 : n ≠ l) : Calls Tryd.prog 44 #[.pointer (some ⟨b, 1, none⟩), .int .i64 n] w fun r w' => r = .returned (.int .i64 (judK e l n)) ∧ Below w.heap.size w w' := by
  have ej : judK e l n = 5 := by
    unfold judK isN
    try unfold isN at *
    repeat (first | rfl | rw [if_pos (by omega)] | rw [if_neg (by omega)])
  rw [ej]
  clear ej
  have HB : Hid (Box w b #[sp, .bool true, .int .i64 e, .int .i64 l]) := h
  have k1 : w.cell? ⟨b, 1, none⟩ = some (.bool true) := h.cell 1
  have k2 : w.cell? ⟨b, 2, none⟩ = some (.int .i64 e) := h.cell 2
  have k3 : w.cell? ⟨b, 3, none⟩ = some (.int .i64 l) := h.cell 3
  have f2 : w.frozen? ⟨b, 2, none⟩ = false := h.free 2
  have f3 : w.frozen? ⟨b, 3, none⟩ = false := h.free 3
  clear h
  have d1 : decide (isN n) = false := decide_eq_false h0
  have g1 : (n == 0) = false := by simpa using h1
  have g2 : (n == -1) = false := by simpa using h2
  have g3 : (n == l) = false := by simpa using h3
  go_enter Tryd.func44, Tryd.ntmps44
  go_wp2_with fail
  refine (rnumber_any n _).mono ?_
  rw [d1]
  rintro _ _ ⟨rfl, rfl⟩
  go_wp2_with fail
  go_ret
  exact ⟨rfl, Below.refl _ _⟩
theorem rJudge_any (h : Box w b #[sp, .bool true, .int .i64 e, .int .i64 l]) (n : Int) : Calls Tryd.prog 44 #[.pointer (some ⟨b, 1, none⟩), .int .i64 n] w fun r w' => r = .returned (.int .i64 (judK e l n)) ∧ Below w.heap.size w w' := by
  by_cases h1 : n = 0
  · exact rJudge_a h n h1
  by_cases h2 : n = -1
  · exact rJudge_b h n h2
  by_cases h3 : isN n
  · by_cases h4 : e = 0
    · exact rJudge_c h n h3 h4
    by_cases h5 : e = n
    · exact rJudge_d h n h3 h4 h5
    by_cases h6 : n = l
    · exact rJudge_e h n h3 h4 h5 h6
    · exact rJudge_f h n h3 h4 h5 h6
  by_cases h6 : n = l
  · exact rJudge_g h n h3 h1 h2 h6
  · exact rJudge_h h n h3 h1 h2 h6
theorem RRQ.put (h : Box w b #[sp, .bool true, .int .i64 e, .int .i64 l]) (e' l' : Int) : RRQ w b sp e' l' ((w.setCell ⟨b, 3, none⟩ (.int .i64 l')).setCell ⟨b, 2, none⟩ (.int .i64 e')) :=
  ⟨by simpa using (h.pPut (j := 3) (by simp) (.int .i64 l')).pPut (j := 2) (by simp) (.int .i64 e'), ((Off.refl (fun k => k = b) _).setCell (p := ⟨b, 3, none⟩) rfl _).setCell (p := ⟨b, 2, none⟩) rfl _⟩
theorem RRQ.put' (h : Box w b #[sp, .bool true, .int .i64 e, .int .i64 l]) (e' l' : Int) : RRQ w b sp e' l' ((w.setCell ⟨b, 2, none⟩ (.int .i64 e')).setCell ⟨b, 3, none⟩ (.int .i64 l')) :=
  ⟨by simpa using (h.pPut (j := 2) (by simp) (.int .i64 e')).pPut (j := 3) (by simp) (.int .i64 l'), ((Off.refl (fun k => k = b) _).setCell (p := ⟨b, 2, none⟩) rfl _).setCell (p := ⟨b, 3, none⟩) rfl _⟩
theorem RRQ.then {w1 w2 : World} {e' l' : Int} (hb : Below w.heap.size w w1) (h : RRQ w1 b sp e' l' w2) : RRQ w b sp e' l' w2 := ⟨h.1, (Off.of_below hb).trans h.2⟩
set_option maxHeartbeats 1000000 in
theorem rAccept_any (h : Box w b #[sp, .bool true, .int .i64 e, .int .i64 l]) (n : Int) : Calls Tryd.prog 45 #[.pointer (some ⟨b, 1, none⟩), .int .i64 n] w fun r w' => r = .returned (.int .i64 (accC e n)) ∧ RRQ w b sp (accE e n) (accL e l n) w' := by
  have hj := rJudge_any h n
  have k1 : w.cell? ⟨b, 1, none⟩ = some (.bool true) := h.cell 1
  have HB : Hid (Box w b #[sp, .bool true, .int .i64 e, .int .i64 l]) := h
  clear h
  by_cases hk : okR e n
  · have hj3 : judK e l n = 3 := jud3.2 hk
    rw [hj3] at hj
    rw [show accC e n = 0 from if_pos hk, show accE e n = n + 1 from if_pos hk, show accL e l n = n from if_pos hk]
    have hn : n ≤ 2147483647 := hk.1.2
    have hn1 : 1 ≤ n := hk.1.1
    go_enter Tryd.func45, Tryd.ntmps45
    go_wp2_with fail
    refine hj.mono ?_
    rintro _ w1 ⟨rfl, hb⟩
    have HB1 : Hid (Box w1 b #[sp, .bool true, .int .i64 e, .int .i64 l]) := HB.out.below hb
    have f2 : w1.frozen? ⟨b, 2, none⟩ = false := HB1.out.free 2
    have f3 : w1.frozen? ⟨b, 3, none⟩ = false := HB1.out.free 3
    have k2 : w1.cell? ⟨b, 2, none⟩ = some (.int .i64 e) := HB1.out.cell 2
    have k3 : w1.cell? ⟨b, 3, none⟩ = some (.int .i64 l) := HB1.out.cell 3
    have HW : Hid (Below w.heap.size w w1) := hb
    clear hb k1
    go_wp2_with fail
    go_ret
    exact ⟨rfl, RRQ.then HW.out (RRQ.put HB1.out _ _)⟩
  · have hj3 : (judK e l n != 3) = true := by
      have : judK e l n ≠ 3 := fun g => hk (jud3.1 g)
      simpa using this
    rw [show accC e n = 2 from if_neg hk, show accE e n = e from if_neg hk, show accL e l n = l from if_neg hk]
    go_enter Tryd.func45, Tryd.ntmps45
    go_wp2_with fail
    refine hj.mono ?_
    rintro _ w1 ⟨rfl, hb⟩
    have HW : Hid (Below w.heap.size w w1) := hb
    clear hb k1
    go_wp2_with fail
    go_ret
    exact ⟨rfl, HB.out.below HW.out, Off.of_below HW.out⟩
set_option maxHeartbeats 1000000 in
theorem rBegin_any (h : Box w b #[sp, .bool true, .int .i64 e, .int .i64 l]) : Calls Tryd.prog 46 #[.pointer (some ⟨b, 1, none⟩)] w fun r w' => r = .returned (.int .i64 0) ∧ RRQ w b sp 0 0 w' := by
  have HB : Hid (Box w b #[sp, .bool true, .int .i64 e, .int .i64 l]) := h
  have k1 : w.cell? ⟨b, 1, none⟩ = some (.bool true) := h.cell 1
  have k2 : w.cell? ⟨b, 2, none⟩ = some (.int .i64 e) := h.cell 2
  have k3 : w.cell? ⟨b, 3, none⟩ = some (.int .i64 l) := h.cell 3
  have f2 : w.frozen? ⟨b, 2, none⟩ = false := h.free 2
  have f3 : w.frozen? ⟨b, 3, none⟩ = false := h.free 3
  clear h
  go_enter Tryd.func46, Tryd.ntmps46
  go_wp2_with fail
  go_ret
  exact ⟨rfl, RRQ.put' HB.out _ _⟩
set_option maxHeartbeats 1000000 in
theorem rTell_any {m : Bool} (h : Box w b #[sp, .bool m, .int .i64 e, .int .i64 l]) : Calls Tryd.prog 47 #[.pointer (some ⟨b, 1, none⟩)] w fun r w' => r = .returned (.int .i64 (tellV e)) ∧ Below w.heap.size w w' := by
  have k2 : w.cell? ⟨b, 2, none⟩ = some (.int .i64 e) := h.cell 2
  clear h
  by_cases he : isN e
  · have d1 : decide (isN e) = true := decide_eq_true he
    rw [show tellV e = e from if_pos he]
    go_enter Tryd.func47, Tryd.ntmps47
    go_wp2_with fail
    refine (rnumber_any e _).mono ?_
    rw [d1]
    rintro _ _ ⟨rfl, rfl⟩
    go_wp2_with fail
    go_ret
    exact ⟨rfl, Below.refl _ _⟩
  · have d1 : decide (isN e) = false := decide_eq_false he
    rw [show tellV e = 0 from if_neg he]
    go_enter Tryd.func47, Tryd.ntmps47
    go_wp2_with fail
    refine (rnumber_any e _).mono ?_
    rw [d1]
    rintro _ _ ⟨rfl, rfl⟩
    go_wp2_with fail
    go_ret
    exact ⟨rfl, Below.refl _ _⟩
set_option maxHeartbeats 1000000 in
theorem rJudge_no (h : Box w b #[sp, .bool false, .int .i64 e, .int .i64 l]) (n : Int) : Calls Tryd.prog 44 #[.pointer (some ⟨b, 1, none⟩), .int .i64 n] w fun r w' => r = .returned (.int .i64 0) ∧ w' = w := by
  have k1 : w.cell? ⟨b, 1, none⟩ = some (.bool false) := h.cell 1
  clear h
  go_enter Tryd.func44, Tryd.ntmps44
  go_wp2_with fail
  go_ret
  exact ⟨rfl, rfl⟩
set_option maxHeartbeats 1000000 in
theorem rAccept_no (h : Box w b #[sp, .bool false, .int .i64 e, .int .i64 l]) (n : Int) : Calls Tryd.prog 45 #[.pointer (some ⟨b, 1, none⟩), .int .i64 n] w fun r w' => r = .returned (.int .i64 3) ∧ w' = w := by
  have k1 : w.cell? ⟨b, 1, none⟩ = some (.bool false) := h.cell 1
  clear h
  go_enter Tryd.func45, Tryd.ntmps45
  go_wp2_with fail
  go_ret
  exact ⟨rfl, rfl⟩
set_option maxHeartbeats 1000000 in
theorem rBegin_no (h : Box w b #[sp, .bool false, .int .i64 e, .int .i64 l]) : Calls Tryd.prog 46 #[.pointer (some ⟨b, 1, none⟩)] w fun r w' => r = .returned (.int .i64 3) ∧ w' = w := by
  have k1 : w.cell? ⟨b, 1, none⟩ = some (.bool false) := h.cell 1
  clear h
  go_enter Tryd.func46, Tryd.ntmps46
  go_wp2_with fail
  go_ret
  exact ⟨rfl, rfl⟩
end
end Go.Proofs.YtnabpjfdpelejaaDoor
