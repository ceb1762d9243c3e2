/-
  The program's automata: over, again, closed, stay, strange, refusedOrOver, heardAhead, heardBehind.
-/
import Derived.Test.YtigmgbnfiiobeaaDoorDcApp
import Derived.Deep.RegionLaw
import Derived.Deep.CutRange
namespace Go.Proofs.YtigmgbnfiiobeaaDoor
open Go.RowKit

/-- What a want's function answers. -/
def WQ (st lf : Int) (l : ActL) (w : World) (r : Ending) (w' : World) : Prop := ∃ po cap, r = .returned (.tuple #[.agg #[.int .i64 st, .int .i64 lf], .slice po l.length cap]) ∧ ActRow w' w.heap.size (.slice po l.length cap) l ∧ Below w.heap.size w w'
theorem fin2 {w x : World} {R B : Nat} {v u0 u1 : Value} {l : ActL} (hb : Below w.heap.size w x) (hr : ActRow x B v l) (hR : w.heap.size ≤ R) (hB : R < B) : ActRow ((x.setCell ⟨R, 0, none⟩ u0).setCell ⟨R, 1, none⟩ u1) w.heap.size v l ∧ Below w.heap.size w ((x.setCell ⟨R, 0, none⟩ u0).setCell ⟨R, 1, none⟩ u1) :=
  ⟨((hr.set (p := ⟨R, 0, none⟩) (fun g hg => by have := hr.ne hg; simp only; omega)).set (p := ⟨R, 1, none⟩) (fun g hg => by have := hr.ne hg; simp only; omega)).mono (by omega), (hb.setCell (p := ⟨R, 0, none⟩) hR _).setCell (p := ⟨R, 1, none⟩) hR _⟩
theorem passOver_any (w : World) : Calls Tryd.prog 49 #[] w fun r w' => ∃ b, r = .returned (.slice (some ⟨b, 0, none⟩) 1 1) ∧ ActRow w' w.heap.size (.slice (some ⟨b, 0, none⟩) 1 1) [(6, nT)] ∧ Below w.heap.size w w' := by
  go_enter Tryd.func49, Tryd.ntmps49
  go_wp2_with fail
  go_ret
  exact ⟨_, rfl, ActRow.lit' _ _ [(6, nT)] w.heap.size 1 _ (by simp) (by simp) rfl rfl (by simp) (by simp), (Below.refl _ _).alloc (Nat.le_refl _) _⟩
/-- Whether it is a refusal by number. -/
def numB (s : ByteArray) (n : Bool) : Bool := n && (s.toList == [67, 69] || s.toList == [65, 69])
set_option maxHeartbeats 1000000 in
theorem isBy_any (s : ByteArray) (n : Bool) (w : World) : Calls Tryd.prog 75 #[.agg #[.string s, .bool n]] w fun r w' => r = .returned (.bool (numB s n)) ∧ Below w.heap.size w w' := by
  cases n
  all_goals
    go_enter Tryd.func75, Tryd.ntmps75
    go_wp2
    all_goals (go_ret; exact ⟨ret_bool (by unfold numB; simp [*]), (Below.refl _ _).alloc (Nat.le_refl _) _⟩)
set_option maxRecDepth 100000 in
set_option maxHeartbeats 2000000 in
theorem over_any (st lf k : Int) (s : ByteArray) (w : World) : Calls Tryd.prog 74 #[.agg #[.int .i64 st, .int .i64 lf], .int .i64 k, .string s] w (WQ (k) (lf) [(4, s)] w) := by
  go_enter Tryd.func74, Tryd.ntmps74
  go_wp2_with fail
  refine bodyPost_ret (v := .tuple #[.agg #[.int .i64 (k), .int .i64 (lf)], .slice (some ⟨w.heap.size + 1 + 1, 0, none⟩) 1 1]) ?_ rfl ⟨_, _, rfl, ActRow.lit' _ _ [(4, s)] (w.heap.size + 1 + 1) 1 _ (by simp) (by omega) rfl rfl (by simp) (by simp), ?_⟩
  · simp [results, Tryd.results74, go_sem]
  · exact bl_alloc (bl_alloc ((Below.refl _ _).alloc (Nat.le_refl _) _) _) _
set_option maxRecDepth 100000 in
set_option maxHeartbeats 2000000 in
theorem stay_any (st lf : Int) (w : World) : Calls Tryd.prog 71 #[.agg #[.int .i64 st, .int .i64 lf]] w (WQ (st) (lf) [] w) := by
  go_enter Tryd.func71, Tryd.ntmps71
  go_wp2_with fail
  refine bodyPost_ret (v := .tuple #[.agg #[.int .i64 (st), .int .i64 (lf)], .slice none 0 0]) ?_ rfl ⟨_, _, rfl, ActRow.nil _ _, ?_⟩
  · simp [results, Tryd.results71, go_sem]
  · exact bl_alloc ((Below.refl _ _).alloc (Nat.le_refl _) _) _
set_option maxRecDepth 100000 in
set_option maxHeartbeats 2000000 in
theorem again_0 (st : Int) (w : World) : Calls Tryd.prog 65 #[.agg #[.int .i64 st, .int .i64 0]] w (WQ (6) (0) [(4, nT)] w) := by
  go_enter Tryd.func65, Tryd.ntmps65
  go_wp2_with fail
  refine (over_any st 0 6 nT _).mono ?_
  rintro _ w1 ⟨po, cap, rfl, r1, b1⟩
  have HB1 : Hid (Below w.heap.size w w1) := below_then (bl_alloc ((Below.refl _ _).alloc (Nat.le_refl _) _) _) b1
  have X1_0 : Hid (Box w1 (w.heap.size) #[.int .i64 st, .int .i64 0]) := ((Box.new' _ #[.int .i64 st, .int .i64 0] 47 (w.heap.size) (by simp)).alloc _).below b1
  have X1_1 : Hid (Box w1 (w.heap.size + 1) #[.int .i64 0, .int .i64 0]) := (Box.new' _ #[.int .i64 0, .int .i64 0] 47 (w.heap.size + 1) (by simp)).below b1
  obtain ⟨l1_0, k1_0, f1_0⟩ := X1_0.out
  obtain ⟨l1_1, k1_1, f1_1⟩ := X1_1.out
  have HR : Hid (ActRow w1 (w.heap.size + 1 + 1) (.slice po _ cap) _) := r1.mono (by simp)
  clear b1 r1
  go_wp2_with fail
  refine bodyPost_ret (v := .tuple #[.agg #[.int .i64 (6), .int .i64 (0)], .slice po _ cap]) ?_ rfl ⟨po, cap, rfl, ?_, ?_⟩
  · simp [results, Tryd.results65, go_sem, k1_1]
  · exact (fin2 HB1.out HR.out (by omega) (by omega)).1
  · exact (fin2 HB1.out HR.out (by omega) (by omega)).2
set_option maxRecDepth 100000 in
set_option maxHeartbeats 2000000 in
theorem again_1 (st lf : Int) (w : World) (h0 : 0 < lf) (h1 : lf ≤ 16) : Calls Tryd.prog 65 #[.agg #[.int .i64 st, .int .i64 lf]] w (WQ (st) (lf - 1) [(1, nT), (2, nT)] w) := by
  have h2 : (lf == 0) = false := by simp; omega
  have h3 : ¬ lf = 0 := by omega
  go_enter Tryd.func65, Tryd.ntmps65
  go_wp2_with fail
  refine bodyPost_ret (v := .tuple #[.agg #[.int .i64 (st), .int .i64 (lf - 1)], .slice (some ⟨w.heap.size + 1 + 1, 0, none⟩) 2 2]) ?_ rfl ⟨_, _, rfl, ActRow.lit' _ _ [(1, nT), (2, nT)] (w.heap.size + 1 + 1) 2 _ (by simp) (by omega) rfl rfl (by simp) (by simp), ?_⟩
  · simp [results, Tryd.results65, go_sem]
  · exact bl_alloc (bl_alloc ((Below.refl _ _).alloc (Nat.le_refl _) _) _) _
set_option maxRecDepth 100000 in
set_option maxHeartbeats 2000000 in
theorem closed_any (st lf : Int) (w : World) : Calls Tryd.prog 69 #[.agg #[.int .i64 st, .int .i64 lf]] w (WQ (5) (lf) [(4, nT)] w) := by
  go_enter Tryd.func69, Tryd.ntmps69
  go_wp2_with fail
  refine (over_any st lf 5 nT _).mono ?_
  rintro _ w1 ⟨po, cap, rfl, r1, b1⟩
  have HB1 : Hid (Below w.heap.size w w1) := below_then (bl_alloc ((Below.refl _ _).alloc (Nat.le_refl _) _) _) b1
  have X1_0 : Hid (Box w1 (w.heap.size) #[.int .i64 st, .int .i64 lf]) := ((Box.new' _ #[.int .i64 st, .int .i64 lf] 47 (w.heap.size) (by simp)).alloc _).below b1
  have X1_1 : Hid (Box w1 (w.heap.size + 1) #[.int .i64 0, .int .i64 0]) := (Box.new' _ #[.int .i64 0, .int .i64 0] 47 (w.heap.size + 1) (by simp)).below b1
  obtain ⟨l1_0, k1_0, f1_0⟩ := X1_0.out
  obtain ⟨l1_1, k1_1, f1_1⟩ := X1_1.out
  have HR : Hid (ActRow w1 (w.heap.size + 1 + 1) (.slice po _ cap) _) := r1.mono (by simp)
  clear b1 r1
  go_wp2_with fail
  refine bodyPost_ret (v := .tuple #[.agg #[.int .i64 (5), .int .i64 (lf)], .slice po _ cap]) ?_ rfl ⟨po, cap, rfl, ?_, ?_⟩
  · simp [results, Tryd.results69, go_sem, k1_1]
  · exact (fin2 HB1.out HR.out (by omega) (by omega)).1
  · exact (fin2 HB1.out HR.out (by omega) (by omega)).2
end Go.Proofs.YtigmgbnfiiobeaaDoor
