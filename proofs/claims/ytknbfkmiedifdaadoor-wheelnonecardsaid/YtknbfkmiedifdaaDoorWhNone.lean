/-
  A wheel that New did not make: every call; the document's, likewise.
-/
import Derived.Test.YtknbfkmiedifdaaDoorWhIs
namespace Go.Proofs.YtknbfkmiedifdaaDoor
open Go.RowKit

theorem cell_newO (w : World) (cs : Array Value) (t : TypeId) (j : Nat) : (w.alloc (.cells cs t)).cell? ⟨w.heap.size, j, none⟩ = cs[j]? := by
  have hb : (w.alloc (.cells cs t)).heap[w.heap.size]? = some (.cells cs t) := by show (w.heap.push _)[w.heap.size]? = _; simp
  unfold World.cell?
  rw [hb]
  rfl
/-- A nil wheel, or a plain one. -/
def UnW (w : World) (v : Value) : Prop := v = .pointer none ∨ ∃ b, v = .pointer (some ⟨b, 0, none⟩) ∧ w.cell? ⟨b, 0, none⟩ = some (.pointer none)
theorem UnW.below {w w' : World} {v : Value} (h : UnW w v) (hb : Below w.heap.size w w') : UnW w' v := by
  rcases h with h | ⟨b, h, hc⟩
  · exact Or.inl h
  · exact Or.inr ⟨b, h, (hb.cell (p := ⟨b, 0, none⟩) (cell_lt hc)).trans hc⟩
/-- The document's plain wheel. -/
def RPl (w : World) (rb : Nat) : Prop := ∀ o, w.cell? ⟨rb, o, none⟩ = (#[.bool false, .int .i64 0, .slice none 0 0] : Array Value)[o]?
theorem RPl.below {w w' : World} {rb : Nat} (h : RPl w rb) (hb : Below w.heap.size w w') : RPl w' rb := fun o => by
  have hl := cell_lt (show w.cell? ⟨rb, 0, none⟩ = some (.bool false) from h 0)
  rw [hb.cell (p := ⟨rb, o, none⟩) hl]; exact h o
section
variable {w : World} {v : Value} {rb : Nat}
set_option maxHeartbeats 400000 in
theorem un_made (h : UnW w v) : Calls Tryd.prog 25 #[v] w fun e w' => e = .returned (.bool false) ∧ w' = w := by
  rcases h with rfl | ⟨b, rfl, hc⟩
  · go_enter Tryd.func25, Tryd.ntmps25
    go_wp2
    go_ret
    exact ⟨rfl, rfl⟩
  · go_enter Tryd.func25, Tryd.ntmps25
    go_wp2_with fail
    go_ret
    exact ⟨rfl, rfl⟩
/-- A refusal of a wheel that nobody made. -/
def ZeroQ (w : World) (ev : Value) (w' : World) : Prop := ∃ b, ev = .iface 62 (.pointer (some ⟨b, 0, none⟩)) ∧ FaultAt w' b 3 ∧ Below w.heap.size w w'
set_option maxHeartbeats 400000 in
theorem zero_fault (w : World) : Calls Tryd.prog 26 #[.int .i64 3] w fun e w' => ∃ ev, e = .returned ev ∧ ZeroQ w ev w' := by
  go_enter Tryd.func26, Tryd.ntmps26
  go_wp2
  go_ret
  exact ⟨_, rfl, _, rfl, by simp [FaultAt], (Below.refl _ _).alloc (Nat.le_refl _) _⟩
set_option maxHeartbeats 400000 in
theorem un_set (h : UnW w v) (k t : Int) : Calls Tryd.prog 7 #[v, .int .i64 k, .int .i64 t] w fun e w' => ∃ ev, e = .returned ev ∧ ZeroQ w ev w' := by
  have hm := un_made h
  clear h
  go_enter Tryd.func7, Tryd.ntmps7
  go_wp2_with fail
  refine hm.mono ?_
  rintro _ w1 ⟨rfl, h1⟩
  subst w1
  clear hm
  go_wp2_with fail
  refine (zero_fault _).mono ?_
  rintro _ w2 ⟨ev, rfl, hq⟩
  have HQ : Hid (ZeroQ w ev w2) := hq
  clear hq
  go_wp2_with fail
  go_ret
  exact ⟨ev, rfl, HQ.out⟩
set_option maxHeartbeats 400000 in
theorem un_stop (h : UnW w v) (k : Int) : Calls Tryd.prog 9 #[v, .int .i64 k] w fun e w' => e = .returned (.bool false) ∧ w' = w := by
  have hm := un_made h
  clear h
  go_enter Tryd.func9, Tryd.ntmps9
  go_wp2_with fail
  refine hm.mono ?_
  rintro _ w1 ⟨rfl, h1⟩
  subst w1
  clear hm
  go_wp2_with fail
  go_ret
  exact ⟨rfl, rfl⟩
set_option maxHeartbeats 400000 in
theorem un_adv (h : UnW w v) (t : Int) : Calls Tryd.prog 11 #[v, .int .i64 t] w fun e w' => ∃ ev, e = .returned (.tuple #[.slice none 0 0, ev]) ∧ ZeroQ w ev w' := by
  have hm := un_made h
  clear h
  go_enter Tryd.func11, Tryd.ntmps11
  go_wp2_with fail
  refine hm.mono ?_
  rintro _ w1 ⟨rfl, h1⟩
  subst w1
  clear hm
  go_wp2_with fail
  refine (zero_fault _).mono ?_
  rintro _ w2 ⟨ev, rfl, hq⟩
  have HQ : Hid (ZeroQ w ev w2) := hq
  clear hq
  go_wp2_with fail
  refine bodyPost_ret (v := .tuple #[.slice none 0 0, ev]) ?_ rfl ⟨ev, rfl, HQ.out⟩
  simp [results, Tryd.results11, go_sem]
set_option maxHeartbeats 400000 in
theorem un_next (h : UnW w v) : Calls Tryd.prog 15 #[v] w fun e w' => e = .returned (.tuple #[.int .i64 0, .bool false]) ∧ w' = w := by
  have hm := un_made h
  clear h
  go_enter Tryd.func15, Tryd.ntmps15
  go_wp2_with fail
  refine hm.mono ?_
  rintro _ w1 ⟨rfl, h1⟩
  subst w1
  clear hm
  go_wp2_with fail
  refine bodyPost_ret (v := .tuple #[.int .i64 0, .bool false]) ?_ rfl ⟨rfl, rfl⟩
  simp [results, Tryd.results15, go_sem]
set_option maxHeartbeats 400000 in
theorem un_at (h : UnW w v) (k : Int) : Calls Tryd.prog 17 #[v, .int .i64 k] w fun e w' => e = .returned (.tuple #[.int .i64 0, .bool false]) ∧ w' = w := by
  have hm := un_made h
  clear h
  go_enter Tryd.func17, Tryd.ntmps17
  go_wp2_with fail
  refine hm.mono ?_
  rintro _ w1 ⟨rfl, h1⟩
  subst w1
  clear hm
  go_wp2_with fail
  refine bodyPost_ret (v := .tuple #[.int .i64 0, .bool false]) ?_ rfl ⟨rfl, rfl⟩
  simp [results, Tryd.results17, go_sem]
set_option maxHeartbeats 400000 in
theorem un_now (h : UnW w v) : Calls Tryd.prog 19 #[v] w fun e w' => e = .returned (.int .i64 0) ∧ w' = w := by
  have hm := un_made h
  clear h
  go_enter Tryd.func19, Tryd.ntmps19
  go_wp2_with fail
  refine hm.mono ?_
  rintro _ w1 ⟨rfl, h1⟩
  subst w1
  clear hm
  go_wp2_with fail
  go_ret
  exact ⟨rfl, rfl⟩
set_option maxHeartbeats 400000 in
theorem un_len (h : UnW w v) : Calls Tryd.prog 20 #[v] w fun e w' => e = .returned (.int .i64 0) ∧ w' = w := by
  have hm := un_made h
  clear h
  go_enter Tryd.func20, Tryd.ntmps20
  go_wp2_with fail
  refine hm.mono ?_
  rintro _ w1 ⟨rfl, h1⟩
  subst w1
  clear hm
  go_wp2_with fail
  go_ret
  exact ⟨rfl, rfl⟩
set_option maxHeartbeats 400000 in
theorem un_all (h : UnW w v) : Calls Tryd.prog 21 #[v] w fun e w' => e = .returned (.slice none 0 0) ∧ w' = w := by
  have hm := un_made h
  clear h
  go_enter Tryd.func21, Tryd.ntmps21
  go_wp2_with fail
  refine hm.mono ?_
  rintro _ w1 ⟨rfl, h1⟩
  subst w1
  clear hm
  go_wp2_with fail
  go_ret
  exact ⟨rfl, rfl⟩
set_option maxHeartbeats 400000 in
theorem rpl_set (h : RPl w rb) (k : Int) (s : ByteArray) (t : Int) : Calls Tryd.prog 8 #[.pointer (some ⟨rb, 0, none⟩), .agg #[.int .i64 k, .string s], .int .i64 t] w fun e w' => e = .returned (.int .i64 3) ∧ Below w.heap.size w w' := by
  have cx := h
  unfold RPl at cx
  have hl := cell_lt (show w.cell? ⟨rb, 0, none⟩ = some (.bool false) from h 0)
  have cy : ∀ (x : Obj) o, (w.alloc x).cell? ⟨rb, o, none⟩ = (#[.bool false, .int .i64 0, .slice none 0 0] : Array Value)[o]? := fun x o => (World.cell?_alloc_lt w x ⟨rb, o, none⟩ hl).trans (h o)
  clear h hl
  go_enter Tryd.func8, Tryd.ntmps8
  go_wp2_with fail
  go_ret
  exact ⟨rfl, by first | exact Below.refl _ _ | exact (Below.refl _ _).alloc (Nat.le_refl _) _⟩
set_option maxHeartbeats 400000 in
theorem rpl_adv (h : RPl w rb) (t : Int) : Calls Tryd.prog 12 #[.pointer (some ⟨rb, 0, none⟩), .int .i64 t] w fun e w' => e = .returned (.tuple #[.slice none 0 0, .int .i64 3]) ∧ w' = w := by
  have cx := h
  unfold RPl at cx
  clear h
  go_enter Tryd.func12, Tryd.ntmps12
  go_wp2_with fail
  refine bodyPost_ret (v := .tuple #[.slice none 0 0, .int .i64 3]) ?_ rfl ⟨rfl, rfl⟩
  simp [results, Tryd.results12, go_sem]
set_option maxHeartbeats 400000 in
theorem rpl_next (h : RPl w rb) : Calls Tryd.prog 16 #[.pointer (some ⟨rb, 0, none⟩)] w fun e w' => e = .returned (.tuple #[.int .i64 0, .bool false]) ∧ w' = w := by
  have cx := h
  unfold RPl at cx
  clear h
  go_enter Tryd.func16, Tryd.ntmps16
  go_wp2_with fail
  refine bodyPost_ret (v := .tuple #[.int .i64 0, .bool false]) ?_ rfl ⟨rfl, rfl⟩
  simp [results, Tryd.results16, go_sem]
set_option maxHeartbeats 400000 in
theorem rpl_place (h : RPl w rb) (k : Int) (s : ByteArray) : Calls Tryd.prog 31 #[.pointer (some ⟨rb, 0, none⟩), .agg #[.int .i64 k, .string s]] w fun e w' => e = .returned (.int .i64 (-1)) ∧ Below w.heap.size w w' := by
  have cx := h
  unfold RPl at cx
  have hl := cell_lt (show w.cell? ⟨rb, 0, none⟩ = some (.bool false) from h 0)
  have cy : ∀ (x : Obj) o, (w.alloc x).cell? ⟨rb, o, none⟩ = (#[.bool false, .int .i64 0, .slice none 0 0] : Array Value)[o]? := fun x o => (World.cell?_alloc_lt w x ⟨rb, o, none⟩ hl).trans (h o)
  clear h hl
  go_enter Tryd.func31, Tryd.ntmps31
  go_wp2_with fail
  refine wp_loop_rounds 1 ?_
  rw [rounds_succ]
  go_wp2_with fail
  go_ret
  exact ⟨rfl, by first | exact Below.refl _ _ | exact (Below.refl _ _).alloc (Nat.le_refl _) _⟩
set_option maxHeartbeats 400000 in
theorem rpl_stop (h : RPl w rb) (k : Int) (s : ByteArray) : Calls Tryd.prog 10 #[.pointer (some ⟨rb, 0, none⟩), .agg #[.int .i64 k, .string s]] w fun e w' => e = .returned (.bool false) ∧ Below w.heap.size w w' := by
  have bv := (Below.refl w.heap.size w).alloc (Nat.le_refl _) (.cells #[.int .i64 k, .string s] 36)
  have hp := rpl_place (h.below bv) k s
  have HV : Hid (Below w.heap.size w (w.alloc (.cells #[.int .i64 k, .string s] 36))) := bv
  have cv : ∀ j, (w.alloc (.cells #[.int .i64 k, .string s] 36)).cell? ⟨w.heap.size, j, none⟩ = (#[.int .i64 k, .string s] : Array Value)[j]? := cell_newO w _ _
  clear h bv
  go_enter Tryd.func10, Tryd.ntmps10
  go_wp2_with fail
  refine hp.mono ?_
  rintro _ w1 ⟨rfl, hb⟩
  have HB : Hid (Below w.heap.size w w1) := below_then HV.out hb
  clear hp hb cv
  go_wp2_with fail
  go_ret
  exact ⟨rfl, HB.out⟩
set_option maxHeartbeats 400000 in
theorem rpl_at (h : RPl w rb) (k : Int) (s : ByteArray) : Calls Tryd.prog 18 #[.pointer (some ⟨rb, 0, none⟩), .agg #[.int .i64 k, .string s]] w fun e w' => e = .returned (.tuple #[.int .i64 0, .bool false]) ∧ Below w.heap.size w w' := by
  have bv := (Below.refl w.heap.size w).alloc (Nat.le_refl _) (.cells #[.int .i64 k, .string s] 36)
  have hp := rpl_place (h.below bv) k s
  have HV : Hid (Below w.heap.size w (w.alloc (.cells #[.int .i64 k, .string s] 36))) := bv
  have cv : ∀ j, (w.alloc (.cells #[.int .i64 k, .string s] 36)).cell? ⟨w.heap.size, j, none⟩ = (#[.int .i64 k, .string s] : Array Value)[j]? := cell_newO w _ _
  clear h bv
  go_enter Tryd.func18, Tryd.ntmps18
  go_wp2_with fail
  refine hp.mono ?_
  rintro _ w1 ⟨rfl, hb⟩
  have HB : Hid (Below w.heap.size w w1) := below_then HV.out hb
  clear hp hb cv
  go_wp2_with fail
  refine bodyPost_ret (v := .tuple #[.int .i64 0, .bool false]) ?_ rfl ⟨rfl, HB.out⟩
  simp [results, Tryd.results18, go_sem]
set_option maxHeartbeats 400000 in
theorem numbers_nil (w : World) : Calls Tryd.prog 14 #[.slice none 0 0] w fun e w' => e = .returned (.slice none 0 0) ∧ w' = w := by
  go_enter Tryd.func14, Tryd.ntmps14
  go_wp2_with fail
  refine wp_loop_rounds 1 ?_
  rw [rounds_succ]
  go_wp2_with fail
  go_ret
  exact ⟨rfl, rfl⟩
set_option maxHeartbeats 400000 in
theorem like_nil (w : World) : Calls Tryd.prog 13 #[.slice none 0 0, .slice none 0 0] w fun e w' => e = .returned (.bool true) ∧ w' = w := by
  go_enter Tryd.func13, Tryd.ntmps13
  go_wp2_with fail
  refine wp_loop_rounds 1 ?_
  rw [rounds_succ]
  go_wp2_with fail
  go_ret
  exact ⟨rfl, rfl⟩
end
end Go.Proofs.YtknbfkmiedifdaaDoor
