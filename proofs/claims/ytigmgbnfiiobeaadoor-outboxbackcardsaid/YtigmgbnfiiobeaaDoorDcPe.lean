/-
  The program's strange, refusedOrOver, heardAhead, heardBehind.
-/
import Derived.Test.YtigmgbnfiiobeaaDoorDcPd
namespace Go.Proofs.YtigmgbnfiiobeaaDoor
open Go.RowKit

set_option maxRecDepth 100000 in
set_option maxHeartbeats 2000000 in
theorem ro_1 (st lf : Int) (s : ByteArray) (n : Bool) (w : World) (h : numB s n = false) : Calls Tryd.prog 73 #[.agg #[.int .i64 st, .int .i64 lf], .agg #[.string s, .bool n]] w (WQ (4) (lf) [(4, s)] w) := by
  have c1 := fun w => isBy_any s n w
  rw [h] at c1
  go_enter Tryd.func73, Tryd.ntmps73
  go_wp2_with fail
  refine (c1 _).mono ?_
  rintro _ w1 ⟨rfl, b1⟩
  have HB1 : Hid (Below w.heap.size w w1) := below_then (bl_alloc (bl_alloc ((Below.refl _ _).alloc (Nat.le_refl _) _) _) _) b1
  have X1_0 : Hid (Box w1 (w.heap.size) #[.int .i64 st, .int .i64 lf]) := (((Box.new' _ #[.int .i64 st, .int .i64 lf] 47 (w.heap.size) (by simp)).alloc _).alloc _).below b1
  have X1_1 : Hid (Box w1 (w.heap.size + 1) #[.string s, .bool n]) := ((Box.new' _ #[.string s, .bool n] 119 (w.heap.size + 1) (by simp)).alloc _).below b1
  have X1_2 : Hid (Box w1 (w.heap.size + 1 + 1) #[.int .i64 0, .int .i64 0]) := (Box.new' _ #[.int .i64 0, .int .i64 0] 47 (w.heap.size + 1 + 1) (by simp)).below b1
  obtain ⟨l1_0, k1_0, f1_0⟩ := X1_0.out
  obtain ⟨l1_1, k1_1, f1_1⟩ := X1_1.out
  obtain ⟨l1_2, k1_2, f1_2⟩ := X1_2.out
  clear b1
  go_wp2_with fail
  have HZ2 : Hid (w.heap.size + 1 + 1 + 1 ≤ w1.heap.size) := l1_2
  refine (over_any st lf 4 s _).mono ?_
  rintro _ w2 ⟨po, cap, rfl, r2, b2⟩
  have HB2 : Hid (Below w.heap.size w w2) := below_then HB1.out b2
  have X2_0 : Hid (Box w2 (w.heap.size) #[.int .i64 st, .int .i64 lf]) := X1_0.out.below b2
  have X2_1 : Hid (Box w2 (w.heap.size + 1) #[.string s, .bool n]) := X1_1.out.below b2
  have X2_2 : Hid (Box w2 (w.heap.size + 1 + 1) #[.int .i64 0, .int .i64 0]) := X1_2.out.below b2
  clear k1_0 l1_0 f1_0 X1_0 k1_1 l1_1 f1_1 X1_1 k1_2 l1_2 f1_2 X1_2 HB1
  obtain ⟨l2_0, k2_0, f2_0⟩ := X2_0.out
  obtain ⟨l2_1, k2_1, f2_1⟩ := X2_1.out
  obtain ⟨l2_2, k2_2, f2_2⟩ := X2_2.out
  have HR : Hid (ActRow w2 (w.heap.size + 1 + 1 + 1) (.slice po _ cap) _) := r2.mono (by exact HZ2.out)
  clear b2 r2
  go_wp2_with fail
  refine bodyPost_ret (v := .tuple #[.agg #[.int .i64 (4), .int .i64 (lf)], .slice po _ cap]) ?_ rfl ⟨po, cap, rfl, ?_, ?_⟩
  · simp [results, Tryd.results73, go_sem, k2_2]
  · exact (fin2 HB2.out HR.out (by omega) (by omega)).1
  · exact (fin2 HB2.out HR.out (by omega) (by omega)).2
set_option maxRecDepth 100000 in
set_option maxHeartbeats 2000000 in
theorem ro_2 (st lf : Int) (s : ByteArray) (n : Bool) (w : World) (h : numB s n = true) (h0 : lf = 0) : Calls Tryd.prog 73 #[.agg #[.int .i64 st, .int .i64 lf], .agg #[.string s, .bool n]] w (WQ (4) (lf) [(4, s)] w) := by
  have c1 := fun w => isBy_any s n w
  rw [h] at c1
  subst h0
  go_enter Tryd.func73, Tryd.ntmps73
  go_wp2_with fail
  refine (c1 _).mono ?_
  rintro _ w1 ⟨rfl, b1⟩
  have HB1 : Hid (Below w.heap.size w w1) := below_then (bl_alloc (bl_alloc ((Below.refl _ _).alloc (Nat.le_refl _) _) _) _) b1
  have X1_0 : Hid (Box w1 (w.heap.size) #[.int .i64 st, .int .i64 0]) := (((Box.new' _ #[.int .i64 st, .int .i64 0] 47 (w.heap.size) (by simp)).alloc _).alloc _).below b1
  have X1_1 : Hid (Box w1 (w.heap.size + 1) #[.string s, .bool n]) := ((Box.new' _ #[.string s, .bool n] 119 (w.heap.size + 1) (by simp)).alloc _).below b1
  have X1_2 : Hid (Box w1 (w.heap.size + 1 + 1) #[.int .i64 0, .int .i64 0]) := (Box.new' _ #[.int .i64 0, .int .i64 0] 47 (w.heap.size + 1 + 1) (by simp)).below b1
  obtain ⟨l1_0, k1_0, f1_0⟩ := X1_0.out
  obtain ⟨l1_1, k1_1, f1_1⟩ := X1_1.out
  obtain ⟨l1_2, k1_2, f1_2⟩ := X1_2.out
  clear b1
  go_wp2_with fail
  have HZ2 : Hid (w.heap.size + 1 + 1 + 1 ≤ w1.heap.size) := l1_2
  refine (over_any st 0 4 s _).mono ?_
  rintro _ w2 ⟨po, cap, rfl, r2, b2⟩
  have HB2 : Hid (Below w.heap.size w w2) := below_then HB1.out b2
  have X2_0 : Hid (Box w2 (w.heap.size) #[.int .i64 st, .int .i64 0]) := X1_0.out.below b2
  have X2_1 : Hid (Box w2 (w.heap.size + 1) #[.string s, .bool n]) := X1_1.out.below b2
  have X2_2 : Hid (Box w2 (w.heap.size + 1 + 1) #[.int .i64 0, .int .i64 0]) := X1_2.out.below b2
  clear k1_0 l1_0 f1_0 X1_0 k1_1 l1_1 f1_1 X1_1 k1_2 l1_2 f1_2 X1_2 HB1
  obtain ⟨l2_0, k2_0, f2_0⟩ := X2_0.out
  obtain ⟨l2_1, k2_1, f2_1⟩ := X2_1.out
  obtain ⟨l2_2, k2_2, f2_2⟩ := X2_2.out
  have HR : Hid (ActRow w2 (w.heap.size + 1 + 1 + 1) (.slice po _ cap) _) := r2.mono (by exact HZ2.out)
  clear b2 r2
  go_wp2_with fail
  refine bodyPost_ret (v := .tuple #[.agg #[.int .i64 (4), .int .i64 (0)], .slice po _ cap]) ?_ rfl ⟨po, cap, rfl, ?_, ?_⟩
  · simp [results, Tryd.results73, go_sem, k2_2]
  · exact (fin2 HB2.out HR.out (by omega) (by omega)).1
  · exact (fin2 HB2.out HR.out (by omega) (by omega)).2
set_option maxRecDepth 100000 in
set_option maxHeartbeats 2000000 in
theorem strange_any (c ap ea : Bool) (st lf : Int) (s : ByteArray) (n : Bool) (w : World) : Calls Tryd.prog 70 #[.agg #[.bool c, .bool ap, .bool ea], .agg #[.int .i64 st, .int .i64 lf], .agg #[.string s, .bool n]] w (WQ (st) (lf) [(6, nT)] w) := by
  have b0 : Below w.heap.size w ((((w.alloc (.cells #[.bool c, .bool ap, .bool ea] 105)).alloc (.cells #[.int .i64 st, .int .i64 lf] 47)).alloc (.cells #[.string s, .bool n] 119)).alloc (.cells #[.int .i64 0, .int .i64 0] 47)) := bl_alloc (bl_alloc (bl_alloc ((Below.refl _ _).alloc (Nat.le_refl _) _) _) _) _
  have x1 : Box ((((w.alloc (.cells #[.bool c, .bool ap, .bool ea] 105)).alloc (.cells #[.int .i64 st, .int .i64 lf] 47)).alloc (.cells #[.string s, .bool n] 119)).alloc (.cells #[.int .i64 0, .int .i64 0] 47)) (w.heap.size + 1) #[.int .i64 st, .int .i64 lf] := ((Box.new' _ #[.int .i64 st, .int .i64 lf] 47 (w.heap.size + 1) (by simp)).alloc _).alloc _
  have x3 : Box ((((w.alloc (.cells #[.bool c, .bool ap, .bool ea] 105)).alloc (.cells #[.int .i64 st, .int .i64 lf] 47)).alloc (.cells #[.string s, .bool n] 119)).alloc (.cells #[.int .i64 0, .int .i64 0] 47)) (w.heap.size + 1 + 1 + 1) #[.int .i64 0, .int .i64 0] := Box.new' _ #[.int .i64 0, .int .i64 0] 47 (w.heap.size + 1 + 1 + 1) (by simp)
  have sz : ((((w.alloc (.cells #[.bool c, .bool ap, .bool ea] 105)).alloc (.cells #[.int .i64 st, .int .i64 lf] 47)).alloc (.cells #[.string s, .bool n] 119)).alloc (.cells #[.int .i64 0, .int .i64 0] 47)).heap.size = w.heap.size + 4 := by simp
  obtain ⟨V, hW⟩ : ∃ V, (((w.alloc (.cells #[.bool c, .bool ap, .bool ea] 105)).alloc (.cells #[.int .i64 st, .int .i64 lf] 47)).alloc (.cells #[.string s, .bool n] 119)).alloc (.cells #[.int .i64 0, .int .i64 0] 47) = V := ⟨_, rfl⟩
  rw [hW] at b0 x1 x3 sz
  have HQ : Hid (Below w.heap.size w V ∧ V.heap.size = w.heap.size + 4) := ⟨b0, sz⟩
  have X1 : Hid (Box V (w.heap.size + 1) #[.int .i64 st, .int .i64 lf]) := x1
  have X3 : Hid (Box V (w.heap.size + 1 + 1 + 1) #[.int .i64 0, .int .i64 0]) := x3
  obtain ⟨l1, k1, f1⟩ := x1
  obtain ⟨l3, k3, f3⟩ := x3
  clear b0 sz
  go_enter Tryd.func70, Tryd.ntmps70
  go_upto_region 1 with fail
  go_region_law (go_simp; go_at_call 49; refine (passOver_any _).mono ?_; rintro _ w5 ⟨b, rfl, r5, b5⟩; have hb5 : Hid (Below V.heap.size V w5) := (by first | exact b5 | exact below_then (Below.drew (Below.refl _ _)) b5); have HR5 : Hid (ActRow w5 V.heap.size (.slice (some ⟨b, 0, none⟩) 1 1) [(6, nT)]) := r5; obtain ⟨l15, k15, f15⟩ := X1.out.below hb5.out; obtain ⟨l35, k35, f35⟩ := X3.out.below hb5.out; clear r5 b5; go_wp2_with fail)
  all_goals
    go_wp2_with fail
    refine bodyPost_ret (v := .tuple #[.agg #[.int .i64 st, .int .i64 lf], .slice (some ⟨b, 0, none⟩) 1 1]) ?_ rfl ⟨_, _, rfl, ?_, ?_⟩
    · simp [results, Tryd.results70, go_sem, k35]
    · exact (fin2 (below_then HQ.out.1 hb5.out) HR5.out (by omega) (by have := HQ.out.2; omega)).1
    · exact (fin2 (below_then HQ.out.1 hb5.out) HR5.out (by omega) (by have := HQ.out.2; omega)).2
end Go.Proofs.YtigmgbnfiiobeaaDoor
