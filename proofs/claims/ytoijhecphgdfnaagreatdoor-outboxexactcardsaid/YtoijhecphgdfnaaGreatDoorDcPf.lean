/-
  The program's refusedOrOver with a try left; heardAhead, heardBehind.
-/
import Derived.Test.YtoijhecphgdfnaaGreatDoorDcPe
namespace Go.Proofs.YtoijhecphgdfnaaGreatDoor
open Go.RowKit

/-- append of a list of acts, as a step of a region that draws. -/
theorem step_aapp {w : World} {B N : Nat} {ops : Array Oper} {o : Oper} {a : Act} {K : Act → World → Prop} {Q : Exit → Act → World → Prop} {E : Prop} {v x : Value} {xs ys : ActL} (hgd : o.guard = none) (s y : Operand)
    (ho : o.op = .call { callee := .builtin .append, args := #[s, y], argTypes := #[132, 132] }) (hty : o.type = 132) (hs : a.eval s = v) (hx : a.eval y = x)
    (hr : ActRow w B v xs) (hB : B ≤ w.heap.size) (ha : Acts w N x ys) (hl : xs.length + ys.length ≤ 100)
    (h : ∀ a' c' w', ActRow w' B (.slice a' (xs.length + ys.length) c') (xs ++ ys) → Below B w w' → K (a.put o.dst (.slice a' (xs.length + ys.length) c')) w') :
    if Region.wanted o (yielded ops a.tmps) = true then Oper.wp Tryz.prog o a w K Q else E := by
  have hw : Region.wanted o (yielded ops a.tmps) = true := by simp [Region.wanted, hgd]
  obtain ⟨a', c', w', hrn, r1, b1⟩ := run_aapp hr hB ha hl
  rw [if_pos hw]
  unfold Oper.wp execOp
  simp only [ho, hty, resolve, invoke, builtin, Sem.run_bind, Sem.run_pure, Result.andThen_ok, List.map_toArray, List.map_cons, List.map_nil, hs, hx, hrn]
  exact h _ _ _ r1 b1
set_option maxRecDepth 100000 in
set_option maxHeartbeats 4000000 in
theorem ro_3 (st lf : Int) (s : ByteArray) (n : Bool) (w : World) (h : numB s n = true) (h0 : 0 < lf) (h1 : lf ≤ 16) : Calls Tryz.prog 123 #[.agg #[.int .i64 st, .int .i64 lf], .agg #[.string s, .bool n]] w (WQ (st) (lf - 1) [(5, nT), (1, nT), (2, nT)] w) := by
  have c1 := fun w => isBy_any s n w
  rw [h] at c1
  have c2 := fun w => again_1 st lf w h0 h1
  have h2 : (lf == 0) = false := by simp; omega
  have h3 : ¬ lf = 0 := by omega
  go_enter Tryz.func123, Tryz.ntmps123
  go_wp2_with fail
  refine (c1 _).mono ?_
  rintro _ w1 ⟨rfl, b1⟩
  have HB1 : Hid (Below w.heap.size w w1) := below_then (bl_alloc (bl_alloc ((Below.refl _ _).alloc (Nat.le_refl _) _) _) _) b1
  have X1_0 : Hid (Box w1 (w.heap.size) #[.int .i64 st, .int .i64 lf]) := (((Box.new' _ #[.int .i64 st, .int .i64 lf] 89 (w.heap.size) (by simp)).alloc _).alloc _).below b1
  have X1_1 : Hid (Box w1 (w.heap.size + 1) #[.string s, .bool n]) := ((Box.new' _ #[.string s, .bool n] 176 (w.heap.size + 1) (by simp)).alloc _).below b1
  have X1_2 : Hid (Box w1 (w.heap.size + 1 + 1) #[.int .i64 0, .int .i64 0]) := (Box.new' _ #[.int .i64 0, .int .i64 0] 89 (w.heap.size + 1 + 1) (by simp)).below b1
  obtain ⟨l1_0, k1_0, f1_0⟩ := X1_0.out
  obtain ⟨l1_1, k1_1, f1_1⟩ := X1_1.out
  obtain ⟨l1_2, k1_2, f1_2⟩ := X1_2.out
  clear b1
  go_wp2_with fail
  have HZ2 : Hid (w.heap.size + 1 + 1 + 1 ≤ w1.heap.size) := l1_2
  refine (c2 _).mono ?_
  rintro _ w2 ⟨po, cap, rfl, r2, b2⟩
  have HB2 : Hid (Below w.heap.size w w2) := below_then HB1.out b2
  have X2_0 : Hid (Box w2 (w.heap.size) #[.int .i64 st, .int .i64 lf]) := X1_0.out.below b2
  have X2_1 : Hid (Box w2 (w.heap.size + 1) #[.string s, .bool n]) := X1_1.out.below b2
  have X2_2 : Hid (Box w2 (w.heap.size + 1 + 1) #[.int .i64 0, .int .i64 0]) := X1_2.out.below b2
  clear k1_0 l1_0 f1_0 X1_0 k1_1 l1_1 f1_1 X1_1 k1_2 l1_2 f1_2 X1_2 HB1
  obtain ⟨l2_0, k2_0, f2_0⟩ := X2_0.out
  obtain ⟨l2_1, k2_1, f2_1⟩ := X2_1.out
  obtain ⟨l2_2, k2_2, f2_2⟩ := X2_2.out
  have HR : Hid (ActRow w2 (w.heap.size + 1 + 1 + 1) (.slice po 2 cap) [(1, nT), (2, nT)]) := r2.mono HZ2.out
  clear b2 r2
  go_upto_region 4 with fail
  have XV0 : Hid (Box ((w2.setCell ⟨w.heap.size, 0, none⟩ (.int .i64 st)).setCell ⟨w.heap.size, 1, none⟩ (.int .i64 (lf - 1))) w.heap.size #[.int .i64 st, .int .i64 (lf - 1)]) := X2_0.out.pPut2 _ _
  have XV2 : Hid (Box ((w2.setCell ⟨w.heap.size, 0, none⟩ (.int .i64 st)).setCell ⟨w.heap.size, 1, none⟩ (.int .i64 (lf - 1))) (w.heap.size + 1 + 1) #[.int .i64 0, .int .i64 0]) := (X2_2.out.pOff (p := ⟨w.heap.size, 0, none⟩) (by simp only; omega) _).pOff (p := ⟨w.heap.size, 1, none⟩) (by simp only; omega) _
  have HRV : Hid (ActRow ((w2.setCell ⟨w.heap.size, 0, none⟩ (.int .i64 st)).setCell ⟨w.heap.size, 1, none⟩ (.int .i64 (lf - 1))) w.heap.size (.slice po 2 cap) [(1, nT), (2, nT)] ∧ Below w.heap.size w ((w2.setCell ⟨w.heap.size, 0, none⟩ (.int .i64 st)).setCell ⟨w.heap.size, 1, none⟩ (.int .i64 (lf - 1)))) := fin2 HB2.out HR.out (by omega) (by omega)
  obtain ⟨V, hW⟩ : ∃ V, (w2.setCell ⟨w.heap.size, 0, none⟩ (.int .i64 st)).setCell ⟨w.heap.size, 1, none⟩ (.int .i64 (lf - 1)) = V := ⟨_, rfl⟩
  rw [hW] at XV0 XV2 HRV ⊢
  clear hW l2_0 k2_0 f2_0 l2_1 k2_1 f2_1 l2_2 k2_2 f2_2 X2_0 X2_1 X2_2 HB2 HR HZ2 c1 c2 h
  obtain ⟨l0, k0, f0⟩ := XV0.out
  obtain ⟨l2, k2, f2⟩ := XV2.out
  have HL : Hid (ActRow (V.alloc (.cells #[.int .i64 5, .string ⟨#[]⟩] 103)) V.heap.size (.slice (some ⟨V.heap.size, 0, none⟩) 1 1) [(5, nT)] ∧ Acts (V.alloc (.cells #[.int .i64 5, .string ⟨#[]⟩] 103)) w.heap.size (.slice po 2 cap) [(1, nT), (2, nT)]) := ⟨ActRow.lit' _ _ [(5, nT)] V.heap.size 1 _ rfl (Nat.le_refl _) rfl rfl (by simp) (by simp), (HRV.out.1.below ((Below.refl _ _).alloc (Nat.le_refl _) _)).acts⟩
  go_region_law (refine step_aapp (B := V.heap.size) (N := w.heap.size) rfl (.tmp 28) (.tmp 29) rfl rfl rfl rfl HL.out.1 (by simp) HL.out.2 (by simp) ?_; intro a' c' w5 HR5 b5; have HRR : Hid (ActRow w5 V.heap.size (.slice a' 3 c') [(5, nT), (1, nT), (2, nT)]) := HR5; have hb5 : Hid (Below V.heap.size V w5) := Below.trans (Below.drew ((Below.refl V.heap.size V).alloc (Nat.le_refl _) (.cells #[.int .i64 5, .string ⟨#[]⟩] 103))) b5; obtain ⟨l05, k05, f05⟩ := XV0.out.below hb5.out; obtain ⟨l25, k25, f25⟩ := XV2.out.below hb5.out; clear HR5 b5; go_wp2_with fail)
  all_goals
    go_wp2_with fail
    refine bodyPost_ret (v := .tuple #[.agg #[.int .i64 st, .int .i64 (lf - 1)], .slice a' 3 c']) ?_ rfl ⟨_, _, rfl, ?_, ?_⟩
    · simp [results, Tryz.results123, go_sem, k25]
    · exact (fin2 (below_then HRV.out.2 hb5.out) HRR.out (by omega) (by have := XV2.out.lt; omega)).1
    · exact (fin2 (below_then HRV.out.2 hb5.out) HRR.out (by omega) (by have := XV2.out.lt; omega)).2
theorem ActRow.drew' {w : World} {B : Nat} {v : Value} {l : ActL} (h : ActRow w B v l) : ActRow w.drew B v l := h
set_option maxRecDepth 100000 in
set_option maxHeartbeats 2000000 in
theorem ha_1 (c ap ea : Bool) (st lf : Int) (s : ByteArray) (n : Bool) (w : World) (g : (s.toList == [67, 65]) = true) (h1 : ap = true) : Calls Tryz.prog 114 #[.agg #[.bool c, .bool ap, .bool ea], .agg #[.int .i64 st, .int .i64 lf], .agg #[.string s, .bool n]] w (WQ (2) (lf) [(3, nT)] w) := by
  subst h1
  go_enter Tryz.func114, Tryz.ntmps114
  go_upto_region 5 with fail
  go_region
  go_wp2_with fail
  refine bodyPost_ret (v := .tuple #[.agg #[.int .i64 (2), .int .i64 (lf)], .slice (some ⟨w.heap.size + 1 + 1 + 1 + 1 + 1, 0, none⟩) 1 1]) ?_ rfl ⟨_, _, rfl, ActRow.drew' (ActRow.lit' _ _ [(3, nT)] (w.heap.size + 1 + 1 + 1 + 1 + 1) 1 _ (by simp) (by omega) rfl rfl (by simp) (by simp)), ?_⟩
  · simp [results, Tryz.results114, go_sem]
  · exact Below.drew (bl_alloc (bl_alloc (bl_alloc (bl_alloc (bl_alloc ((Below.refl _ _).alloc (Nat.le_refl _) _) _) _) _) _) _)
set_option maxRecDepth 100000 in
set_option maxHeartbeats 2000000 in
theorem ha_2 (c ap ea : Bool) (st lf : Int) (s : ByteArray) (n : Bool) (w : World) (g : (s.toList == [67, 65]) = true) (h1 : ap = false) (h2 : ea = true) : Calls Tryz.prog 114 #[.agg #[.bool c, .bool ap, .bool ea], .agg #[.int .i64 st, .int .i64 lf], .agg #[.string s, .bool n]] w (WQ (3) (lf) [(3, nT), (2, nT)] w) := by
  subst h1
  subst h2
  go_enter Tryz.func114, Tryz.ntmps114
  go_upto_region 7 with fail
  go_region
  go_wp2_with fail
  refine bodyPost_ret (v := .tuple #[.agg #[.int .i64 (3), .int .i64 (lf)], .slice (some ⟨w.heap.size + 1 + 1 + 1 + 1 + 1, 0, none⟩) 2 2]) ?_ rfl ⟨_, _, rfl, ActRow.drew' (ActRow.lit' _ _ [(3, nT), (2, nT)] (w.heap.size + 1 + 1 + 1 + 1 + 1) 2 _ (by simp) (by omega) rfl rfl (by simp) (by simp)), ?_⟩
  · simp [results, Tryz.results114, go_sem]
  · exact Below.drew (bl_alloc (bl_alloc (bl_alloc (bl_alloc (bl_alloc ((Below.refl _ _).alloc (Nat.le_refl _) _) _) _) _) _) _)
set_option maxRecDepth 100000 in
set_option maxHeartbeats 2000000 in
theorem ha_3 (c ap ea : Bool) (st lf : Int) (s : ByteArray) (n : Bool) (w : World) (g : (s.toList == [67, 65]) = true) (h1 : ap = false) (h2 : ea = false) : Calls Tryz.prog 114 #[.agg #[.bool c, .bool ap, .bool ea], .agg #[.int .i64 st, .int .i64 lf], .agg #[.string s, .bool n]] w (WQ (4) (lf) [(4, s)] w) := by
  subst h1
  subst h2
  go_enter Tryz.func114, Tryz.ntmps114
  go_wp2_with fail
  refine (over_any st lf 4 s _).mono ?_
  rintro _ w1 ⟨po, cap, rfl, r1, b1⟩
  have HB1 : Hid (Below w.heap.size w w1) := below_then (bl_alloc (bl_alloc (bl_alloc (bl_alloc ((Below.refl _ _).alloc (Nat.le_refl _) _) _) _) _) _) b1
  have X1_0 : Hid (Box w1 (w.heap.size) #[.bool c, .bool false, .bool false]) := (((((Box.new' _ #[.bool c, .bool false, .bool false] 161 (w.heap.size) (by simp)).alloc _).alloc _).alloc _).alloc _).below b1
  have X1_1 : Hid (Box w1 (w.heap.size + 1) #[.int .i64 st, .int .i64 lf]) := ((((Box.new' _ #[.int .i64 st, .int .i64 lf] 89 (w.heap.size + 1) (by simp)).alloc _).alloc _).alloc _).below b1
  have X1_2 : Hid (Box w1 (w.heap.size + 1 + 1) #[.string s, .bool n]) := (((Box.new' _ #[.string s, .bool n] 176 (w.heap.size + 1 + 1) (by simp)).alloc _).alloc _).below b1
  have X1_3 : Hid (Box w1 (w.heap.size + 1 + 1 + 1) #[.int .i64 0, .int .i64 0]) := ((Box.new' _ #[.int .i64 0, .int .i64 0] 89 (w.heap.size + 1 + 1 + 1) (by simp)).alloc _).below b1
  have X1_4 : Hid (Box w1 (w.heap.size + 1 + 1 + 1 + 1) #[.int .i64 3, .string ⟨#[]⟩]) := (Box.new' _ #[.int .i64 3, .string ⟨#[]⟩] 103 (w.heap.size + 1 + 1 + 1 + 1) (by simp)).below b1
  obtain ⟨l1_0, k1_0, f1_0⟩ := X1_0.out
  obtain ⟨l1_1, k1_1, f1_1⟩ := X1_1.out
  obtain ⟨l1_2, k1_2, f1_2⟩ := X1_2.out
  obtain ⟨l1_3, k1_3, f1_3⟩ := X1_3.out
  obtain ⟨l1_4, k1_4, f1_4⟩ := X1_4.out
  have HR : Hid (ActRow w1 (w.heap.size + 1 + 1 + 1 + 1 + 1) (.slice po _ cap) _) := r1.mono (by simp)
  clear b1 r1
  go_wp2_with fail
  refine bodyPost_ret (v := .tuple #[.agg #[.int .i64 (4), .int .i64 (lf)], .slice po _ cap]) ?_ rfl ⟨po, cap, rfl, ?_, ?_⟩
  · simp [results, Tryz.results114, go_sem, k1_3]
  · exact (fin2 HB1.out HR.out (by omega) (by omega)).1
  · exact (fin2 HB1.out HR.out (by omega) (by omega)).2
set_option maxRecDepth 100000 in
set_option maxHeartbeats 2000000 in
theorem ha_4x (c ap ea : Bool) (st lf : Int) (s : ByteArray) (n : Bool) (w : World) (g : (s.toList == [67, 65]) = false) (h : numB s n = false) : Calls Tryz.prog 114 #[.agg #[.bool c, .bool ap, .bool ea], .agg #[.int .i64 st, .int .i64 lf], .agg #[.string s, .bool n]] w (WQ (4) (lf) [(4, s)] w) := by
  go_enter Tryz.func114, Tryz.ntmps114
  go_wp2_with fail
  refine (ro_1 st lf s n _ h).mono ?_
  rintro _ w1 ⟨po, cap, rfl, r1, b1⟩
  have HB1 : Hid (Below w.heap.size w w1) := below_then (bl_alloc (bl_alloc (bl_alloc ((Below.refl _ _).alloc (Nat.le_refl _) _) _) _) _) b1
  have X1_0 : Hid (Box w1 (w.heap.size) #[.bool c, .bool ap, .bool ea]) := ((((Box.new' _ #[.bool c, .bool ap, .bool ea] 161 (w.heap.size) (by simp)).alloc _).alloc _).alloc _).below b1
  have X1_1 : Hid (Box w1 (w.heap.size + 1) #[.int .i64 st, .int .i64 lf]) := (((Box.new' _ #[.int .i64 st, .int .i64 lf] 89 (w.heap.size + 1) (by simp)).alloc _).alloc _).below b1
  have X1_2 : Hid (Box w1 (w.heap.size + 1 + 1) #[.string s, .bool n]) := ((Box.new' _ #[.string s, .bool n] 176 (w.heap.size + 1 + 1) (by simp)).alloc _).below b1
  have X1_3 : Hid (Box w1 (w.heap.size + 1 + 1 + 1) #[.int .i64 0, .int .i64 0]) := (Box.new' _ #[.int .i64 0, .int .i64 0] 89 (w.heap.size + 1 + 1 + 1) (by simp)).below b1
  obtain ⟨l1_0, k1_0, f1_0⟩ := X1_0.out
  obtain ⟨l1_1, k1_1, f1_1⟩ := X1_1.out
  obtain ⟨l1_2, k1_2, f1_2⟩ := X1_2.out
  obtain ⟨l1_3, k1_3, f1_3⟩ := X1_3.out
  have HR : Hid (ActRow w1 (w.heap.size + 1 + 1 + 1 + 1) (.slice po _ cap) _) := r1.mono (by simp)
  clear b1 r1
  go_wp2_with fail
  refine bodyPost_ret (v := .tuple #[.agg #[.int .i64 (4), .int .i64 (lf)], .slice po _ cap]) ?_ rfl ⟨po, cap, rfl, ?_, ?_⟩
  · simp [results, Tryz.results114, go_sem, k1_3]
  · exact (fin2 HB1.out HR.out (by omega) (by omega)).1
  · exact (fin2 HB1.out HR.out (by omega) (by omega)).2
set_option maxRecDepth 100000 in
set_option maxHeartbeats 2000000 in
theorem ha_4y (c ap ea : Bool) (st lf : Int) (s : ByteArray) (n : Bool) (w : World) (g : (s.toList == [67, 65]) = false) (h : numB s n = true) (h0 : Hid (lf = 0)) : Calls Tryz.prog 114 #[.agg #[.bool c, .bool ap, .bool ea], .agg #[.int .i64 st, .int .i64 lf], .agg #[.string s, .bool n]] w (WQ (4) (lf) [(4, s)] w) := by
  go_enter Tryz.func114, Tryz.ntmps114
  go_wp2_with fail
  refine (ro_2 st lf s n _ h h0.out).mono ?_
  rintro _ w1 ⟨po, cap, rfl, r1, b1⟩
  have HB1 : Hid (Below w.heap.size w w1) := below_then (bl_alloc (bl_alloc (bl_alloc ((Below.refl _ _).alloc (Nat.le_refl _) _) _) _) _) b1
  have X1_0 : Hid (Box w1 (w.heap.size) #[.bool c, .bool ap, .bool ea]) := ((((Box.new' _ #[.bool c, .bool ap, .bool ea] 161 (w.heap.size) (by simp)).alloc _).alloc _).alloc _).below b1
  have X1_1 : Hid (Box w1 (w.heap.size + 1) #[.int .i64 st, .int .i64 lf]) := (((Box.new' _ #[.int .i64 st, .int .i64 lf] 89 (w.heap.size + 1) (by simp)).alloc _).alloc _).below b1
  have X1_2 : Hid (Box w1 (w.heap.size + 1 + 1) #[.string s, .bool n]) := ((Box.new' _ #[.string s, .bool n] 176 (w.heap.size + 1 + 1) (by simp)).alloc _).below b1
  have X1_3 : Hid (Box w1 (w.heap.size + 1 + 1 + 1) #[.int .i64 0, .int .i64 0]) := (Box.new' _ #[.int .i64 0, .int .i64 0] 89 (w.heap.size + 1 + 1 + 1) (by simp)).below b1
  obtain ⟨l1_0, k1_0, f1_0⟩ := X1_0.out
  obtain ⟨l1_1, k1_1, f1_1⟩ := X1_1.out
  obtain ⟨l1_2, k1_2, f1_2⟩ := X1_2.out
  obtain ⟨l1_3, k1_3, f1_3⟩ := X1_3.out
  have HR : Hid (ActRow w1 (w.heap.size + 1 + 1 + 1 + 1) (.slice po _ cap) _) := r1.mono (by simp)
  clear b1 r1
  go_wp2_with fail
  refine bodyPost_ret (v := .tuple #[.agg #[.int .i64 (4), .int .i64 (lf)], .slice po _ cap]) ?_ rfl ⟨po, cap, rfl, ?_, ?_⟩
  · simp [results, Tryz.results114, go_sem, k1_3]
  · exact (fin2 HB1.out HR.out (by omega) (by omega)).1
  · exact (fin2 HB1.out HR.out (by omega) (by omega)).2
set_option maxRecDepth 100000 in
set_option maxHeartbeats 2000000 in
theorem ha_4z (c ap ea : Bool) (st lf : Int) (s : ByteArray) (n : Bool) (w : World) (g : (s.toList == [67, 65]) = false) (h : numB s n = true) (h0 : 0 < lf) (h1 : lf ≤ 16) : Calls Tryz.prog 114 #[.agg #[.bool c, .bool ap, .bool ea], .agg #[.int .i64 st, .int .i64 lf], .agg #[.string s, .bool n]] w (WQ (st) (lf - 1) [(5, nT), (1, nT), (2, nT)] w) := by
  go_enter Tryz.func114, Tryz.ntmps114
  go_wp2_with fail
  refine (ro_3 st lf s n _ h h0 h1).mono ?_
  rintro _ w1 ⟨po, cap, rfl, r1, b1⟩
  have HB1 : Hid (Below w.heap.size w w1) := below_then (bl_alloc (bl_alloc (bl_alloc ((Below.refl _ _).alloc (Nat.le_refl _) _) _) _) _) b1
  have X1_0 : Hid (Box w1 (w.heap.size) #[.bool c, .bool ap, .bool ea]) := ((((Box.new' _ #[.bool c, .bool ap, .bool ea] 161 (w.heap.size) (by simp)).alloc _).alloc _).alloc _).below b1
  have X1_1 : Hid (Box w1 (w.heap.size + 1) #[.int .i64 st, .int .i64 lf]) := (((Box.new' _ #[.int .i64 st, .int .i64 lf] 89 (w.heap.size + 1) (by simp)).alloc _).alloc _).below b1
  have X1_2 : Hid (Box w1 (w.heap.size + 1 + 1) #[.string s, .bool n]) := ((Box.new' _ #[.string s, .bool n] 176 (w.heap.size + 1 + 1) (by simp)).alloc _).below b1
  have X1_3 : Hid (Box w1 (w.heap.size + 1 + 1 + 1) #[.int .i64 0, .int .i64 0]) := (Box.new' _ #[.int .i64 0, .int .i64 0] 89 (w.heap.size + 1 + 1 + 1) (by simp)).below b1
  obtain ⟨l1_0, k1_0, f1_0⟩ := X1_0.out
  obtain ⟨l1_1, k1_1, f1_1⟩ := X1_1.out
  obtain ⟨l1_2, k1_2, f1_2⟩ := X1_2.out
  obtain ⟨l1_3, k1_3, f1_3⟩ := X1_3.out
  have HR : Hid (ActRow w1 (w.heap.size + 1 + 1 + 1 + 1) (.slice po _ cap) _) := r1.mono (by simp)
  clear b1 r1
  go_wp2_with fail
  refine bodyPost_ret (v := .tuple #[.agg #[.int .i64 (st), .int .i64 (lf - 1)], .slice po _ cap]) ?_ rfl ⟨po, cap, rfl, ?_, ?_⟩
  · simp [results, Tryz.results114, go_sem, k1_3]
  · exact (fin2 HB1.out HR.out (by omega) (by omega)).1
  · exact (fin2 HB1.out HR.out (by omega) (by omega)).2
set_option maxRecDepth 100000 in
set_option maxHeartbeats 2000000 in
theorem hb_1 (c ap ea : Bool) (st lf : Int) (s : ByteArray) (n : Bool) (w : World) (g : (s.toList == [67, 65]) = true) : Calls Tryz.prog 117 #[.agg #[.bool c, .bool ap, .bool ea], .agg #[.int .i64 st, .int .i64 lf], .agg #[.string s, .bool n]] w (WQ (st) (lf) [] w) := by
  go_enter Tryz.func117, Tryz.ntmps117
  go_wp2_with fail
  refine (stay_any st lf _).mono ?_
  rintro _ w1 ⟨po, cap, rfl, r1, b1⟩
  have HB1 : Hid (Below w.heap.size w w1) := below_then (bl_alloc (bl_alloc (bl_alloc ((Below.refl _ _).alloc (Nat.le_refl _) _) _) _) _) b1
  have X1_0 : Hid (Box w1 (w.heap.size) #[.bool c, .bool ap, .bool ea]) := ((((Box.new' _ #[.bool c, .bool ap, .bool ea] 161 (w.heap.size) (by simp)).alloc _).alloc _).alloc _).below b1
  have X1_1 : Hid (Box w1 (w.heap.size + 1) #[.int .i64 st, .int .i64 lf]) := (((Box.new' _ #[.int .i64 st, .int .i64 lf] 89 (w.heap.size + 1) (by simp)).alloc _).alloc _).below b1
  have X1_2 : Hid (Box w1 (w.heap.size + 1 + 1) #[.string s, .bool n]) := ((Box.new' _ #[.string s, .bool n] 176 (w.heap.size + 1 + 1) (by simp)).alloc _).below b1
  have X1_3 : Hid (Box w1 (w.heap.size + 1 + 1 + 1) #[.int .i64 0, .int .i64 0]) := (Box.new' _ #[.int .i64 0, .int .i64 0] 89 (w.heap.size + 1 + 1 + 1) (by simp)).below b1
  obtain ⟨l1_0, k1_0, f1_0⟩ := X1_0.out
  obtain ⟨l1_1, k1_1, f1_1⟩ := X1_1.out
  obtain ⟨l1_2, k1_2, f1_2⟩ := X1_2.out
  obtain ⟨l1_3, k1_3, f1_3⟩ := X1_3.out
  have HR : Hid (ActRow w1 (w.heap.size + 1 + 1 + 1 + 1) (.slice po _ cap) _) := r1.mono (by simp)
  clear b1 r1
  go_wp2_with fail
  refine bodyPost_ret (v := .tuple #[.agg #[.int .i64 (st), .int .i64 (lf)], .slice po _ cap]) ?_ rfl ⟨po, cap, rfl, ?_, ?_⟩
  · simp [results, Tryz.results117, go_sem, k1_3]
  · exact (fin2 HB1.out HR.out (by omega) (by omega)).1
  · exact (fin2 HB1.out HR.out (by omega) (by omega)).2
set_option maxRecDepth 100000 in
set_option maxHeartbeats 2000000 in
theorem hb_2 (c ap ea : Bool) (st lf : Int) (s : ByteArray) (n : Bool) (w : World) (g : (s.toList == [67, 65]) = false) (h : numB s n = true) (hc : c = true) : Calls Tryz.prog 117 #[.agg #[.bool c, .bool ap, .bool ea], .agg #[.int .i64 st, .int .i64 lf], .agg #[.string s, .bool n]] w (WQ (st) (lf) [(6, nT)] w) := by
  have c1 := fun w => isBy_any s n w
  rw [h] at c1
  subst hc
  go_enter Tryz.func117, Tryz.ntmps117
  go_wp2_with fail
  refine (c1 _).mono ?_
  rintro _ w1 ⟨rfl, b1⟩
  have HB1 : Hid (Below w.heap.size w w1) := below_then (bl_alloc (bl_alloc (bl_alloc ((Below.refl _ _).alloc (Nat.le_refl _) _) _) _) _) b1
  have X1_0 : Hid (Box w1 (w.heap.size) #[.bool true, .bool ap, .bool ea]) := ((((Box.new' _ #[.bool true, .bool ap, .bool ea] 161 (w.heap.size) (by simp)).alloc _).alloc _).alloc _).below b1
  have X1_1 : Hid (Box w1 (w.heap.size + 1) #[.int .i64 st, .int .i64 lf]) := (((Box.new' _ #[.int .i64 st, .int .i64 lf] 89 (w.heap.size + 1) (by simp)).alloc _).alloc _).below b1
  have X1_2 : Hid (Box w1 (w.heap.size + 1 + 1) #[.string s, .bool n]) := ((Box.new' _ #[.string s, .bool n] 176 (w.heap.size + 1 + 1) (by simp)).alloc _).below b1
  have X1_3 : Hid (Box w1 (w.heap.size + 1 + 1 + 1) #[.int .i64 0, .int .i64 0]) := (Box.new' _ #[.int .i64 0, .int .i64 0] 89 (w.heap.size + 1 + 1 + 1) (by simp)).below b1
  obtain ⟨l1_0, k1_0, f1_0⟩ := X1_0.out
  obtain ⟨l1_1, k1_1, f1_1⟩ := X1_1.out
  obtain ⟨l1_2, k1_2, f1_2⟩ := X1_2.out
  obtain ⟨l1_3, k1_3, f1_3⟩ := X1_3.out
  clear b1
  go_wp2_with fail
  have HZ2 : Hid (w.heap.size + 1 + 1 + 1 + 1 ≤ w1.heap.size) := l1_3
  refine (strange_any true ap ea st lf s n _).mono ?_
  rintro _ w2 ⟨po, cap, rfl, r2, b2⟩
  have HB2 : Hid (Below w.heap.size w w2) := below_then HB1.out b2
  have X2_0 : Hid (Box w2 (w.heap.size) #[.bool true, .bool ap, .bool ea]) := X1_0.out.below b2
  have X2_1 : Hid (Box w2 (w.heap.size + 1) #[.int .i64 st, .int .i64 lf]) := X1_1.out.below b2
  have X2_2 : Hid (Box w2 (w.heap.size + 1 + 1) #[.string s, .bool n]) := X1_2.out.below b2
  have X2_3 : Hid (Box w2 (w.heap.size + 1 + 1 + 1) #[.int .i64 0, .int .i64 0]) := X1_3.out.below b2
  clear k1_0 l1_0 f1_0 X1_0 k1_1 l1_1 f1_1 X1_1 k1_2 l1_2 f1_2 X1_2 k1_3 l1_3 f1_3 X1_3 HB1
  obtain ⟨l2_0, k2_0, f2_0⟩ := X2_0.out
  obtain ⟨l2_1, k2_1, f2_1⟩ := X2_1.out
  obtain ⟨l2_2, k2_2, f2_2⟩ := X2_2.out
  obtain ⟨l2_3, k2_3, f2_3⟩ := X2_3.out
  have HR : Hid (ActRow w2 (w.heap.size + 1 + 1 + 1 + 1) (.slice po _ cap) _) := r2.mono (by exact HZ2.out)
  clear b2 r2
  go_wp2_with fail
  refine bodyPost_ret (v := .tuple #[.agg #[.int .i64 (st), .int .i64 (lf)], .slice po _ cap]) ?_ rfl ⟨po, cap, rfl, ?_, ?_⟩
  · simp [results, Tryz.results117, go_sem, k2_3]
  · exact (fin2 HB2.out HR.out (by omega) (by omega)).1
  · exact (fin2 HB2.out HR.out (by omega) (by omega)).2
set_option maxRecDepth 100000 in
set_option maxHeartbeats 2000000 in
theorem hb_3x (c ap ea : Bool) (st lf : Int) (s : ByteArray) (n : Bool) (w : World) (g : (s.toList == [67, 65]) = false) (h : numB s n = false) : Calls Tryz.prog 117 #[.agg #[.bool c, .bool ap, .bool ea], .agg #[.int .i64 st, .int .i64 lf], .agg #[.string s, .bool n]] w (WQ (4) (lf) [(4, s)] w) := by
  have c1 := fun w => isBy_any s n w
  rw [h] at c1
  go_enter Tryz.func117, Tryz.ntmps117
  go_wp2_with fail
  refine (c1 _).mono ?_
  rintro _ w1 ⟨rfl, b1⟩
  have HB1 : Hid (Below w.heap.size w w1) := below_then (bl_alloc (bl_alloc (bl_alloc ((Below.refl _ _).alloc (Nat.le_refl _) _) _) _) _) b1
  have X1_0 : Hid (Box w1 (w.heap.size) #[.bool c, .bool ap, .bool ea]) := ((((Box.new' _ #[.bool c, .bool ap, .bool ea] 161 (w.heap.size) (by simp)).alloc _).alloc _).alloc _).below b1
  have X1_1 : Hid (Box w1 (w.heap.size + 1) #[.int .i64 st, .int .i64 lf]) := (((Box.new' _ #[.int .i64 st, .int .i64 lf] 89 (w.heap.size + 1) (by simp)).alloc _).alloc _).below b1
  have X1_2 : Hid (Box w1 (w.heap.size + 1 + 1) #[.string s, .bool n]) := ((Box.new' _ #[.string s, .bool n] 176 (w.heap.size + 1 + 1) (by simp)).alloc _).below b1
  have X1_3 : Hid (Box w1 (w.heap.size + 1 + 1 + 1) #[.int .i64 0, .int .i64 0]) := (Box.new' _ #[.int .i64 0, .int .i64 0] 89 (w.heap.size + 1 + 1 + 1) (by simp)).below b1
  obtain ⟨l1_0, k1_0, f1_0⟩ := X1_0.out
  obtain ⟨l1_1, k1_1, f1_1⟩ := X1_1.out
  obtain ⟨l1_2, k1_2, f1_2⟩ := X1_2.out
  obtain ⟨l1_3, k1_3, f1_3⟩ := X1_3.out
  clear b1
  go_wp2_with fail
  have HZ2 : Hid (w.heap.size + 1 + 1 + 1 + 1 ≤ w1.heap.size) := l1_3
  refine (ro_1 st lf s n _ h).mono ?_
  rintro _ w2 ⟨po, cap, rfl, r2, b2⟩
  have HB2 : Hid (Below w.heap.size w w2) := below_then HB1.out b2
  have X2_0 : Hid (Box w2 (w.heap.size) #[.bool c, .bool ap, .bool ea]) := X1_0.out.below b2
  have X2_1 : Hid (Box w2 (w.heap.size + 1) #[.int .i64 st, .int .i64 lf]) := X1_1.out.below b2
  have X2_2 : Hid (Box w2 (w.heap.size + 1 + 1) #[.string s, .bool n]) := X1_2.out.below b2
  have X2_3 : Hid (Box w2 (w.heap.size + 1 + 1 + 1) #[.int .i64 0, .int .i64 0]) := X1_3.out.below b2
  clear k1_0 l1_0 f1_0 X1_0 k1_1 l1_1 f1_1 X1_1 k1_2 l1_2 f1_2 X1_2 k1_3 l1_3 f1_3 X1_3 HB1
  obtain ⟨l2_0, k2_0, f2_0⟩ := X2_0.out
  obtain ⟨l2_1, k2_1, f2_1⟩ := X2_1.out
  obtain ⟨l2_2, k2_2, f2_2⟩ := X2_2.out
  obtain ⟨l2_3, k2_3, f2_3⟩ := X2_3.out
  have HR : Hid (ActRow w2 (w.heap.size + 1 + 1 + 1 + 1) (.slice po _ cap) _) := r2.mono (by exact HZ2.out)
  clear b2 r2
  go_wp2_with fail
  refine bodyPost_ret (v := .tuple #[.agg #[.int .i64 (4), .int .i64 (lf)], .slice po _ cap]) ?_ rfl ⟨po, cap, rfl, ?_, ?_⟩
  · simp [results, Tryz.results117, go_sem, k2_3]
  · exact (fin2 HB2.out HR.out (by omega) (by omega)).1
  · exact (fin2 HB2.out HR.out (by omega) (by omega)).2
set_option maxRecDepth 100000 in
set_option maxHeartbeats 2000000 in
theorem hb_3y (c ap ea : Bool) (st lf : Int) (s : ByteArray) (n : Bool) (w : World) (g : (s.toList == [67, 65]) = false) (h : numB s n = true) (h0 : Hid (lf = 0)) (hc : c = false) : Calls Tryz.prog 117 #[.agg #[.bool c, .bool ap, .bool ea], .agg #[.int .i64 st, .int .i64 lf], .agg #[.string s, .bool n]] w (WQ (4) (lf) [(4, s)] w) := by
  have c1 := fun w => isBy_any s n w
  rw [h] at c1
  subst hc
  go_enter Tryz.func117, Tryz.ntmps117
  go_wp2_with fail
  refine (c1 _).mono ?_
  rintro _ w1 ⟨rfl, b1⟩
  have HB1 : Hid (Below w.heap.size w w1) := below_then (bl_alloc (bl_alloc (bl_alloc ((Below.refl _ _).alloc (Nat.le_refl _) _) _) _) _) b1
  have X1_0 : Hid (Box w1 (w.heap.size) #[.bool false, .bool ap, .bool ea]) := ((((Box.new' _ #[.bool false, .bool ap, .bool ea] 161 (w.heap.size) (by simp)).alloc _).alloc _).alloc _).below b1
  have X1_1 : Hid (Box w1 (w.heap.size + 1) #[.int .i64 st, .int .i64 lf]) := (((Box.new' _ #[.int .i64 st, .int .i64 lf] 89 (w.heap.size + 1) (by simp)).alloc _).alloc _).below b1
  have X1_2 : Hid (Box w1 (w.heap.size + 1 + 1) #[.string s, .bool n]) := ((Box.new' _ #[.string s, .bool n] 176 (w.heap.size + 1 + 1) (by simp)).alloc _).below b1
  have X1_3 : Hid (Box w1 (w.heap.size + 1 + 1 + 1) #[.int .i64 0, .int .i64 0]) := (Box.new' _ #[.int .i64 0, .int .i64 0] 89 (w.heap.size + 1 + 1 + 1) (by simp)).below b1
  obtain ⟨l1_0, k1_0, f1_0⟩ := X1_0.out
  obtain ⟨l1_1, k1_1, f1_1⟩ := X1_1.out
  obtain ⟨l1_2, k1_2, f1_2⟩ := X1_2.out
  obtain ⟨l1_3, k1_3, f1_3⟩ := X1_3.out
  clear b1
  go_wp2_with fail
  have HZ2 : Hid (w.heap.size + 1 + 1 + 1 + 1 ≤ w1.heap.size) := l1_3
  refine (ro_2 st lf s n _ h h0.out).mono ?_
  rintro _ w2 ⟨po, cap, rfl, r2, b2⟩
  have HB2 : Hid (Below w.heap.size w w2) := below_then HB1.out b2
  have X2_0 : Hid (Box w2 (w.heap.size) #[.bool false, .bool ap, .bool ea]) := X1_0.out.below b2
  have X2_1 : Hid (Box w2 (w.heap.size + 1) #[.int .i64 st, .int .i64 lf]) := X1_1.out.below b2
  have X2_2 : Hid (Box w2 (w.heap.size + 1 + 1) #[.string s, .bool n]) := X1_2.out.below b2
  have X2_3 : Hid (Box w2 (w.heap.size + 1 + 1 + 1) #[.int .i64 0, .int .i64 0]) := X1_3.out.below b2
  clear k1_0 l1_0 f1_0 X1_0 k1_1 l1_1 f1_1 X1_1 k1_2 l1_2 f1_2 X1_2 k1_3 l1_3 f1_3 X1_3 HB1
  obtain ⟨l2_0, k2_0, f2_0⟩ := X2_0.out
  obtain ⟨l2_1, k2_1, f2_1⟩ := X2_1.out
  obtain ⟨l2_2, k2_2, f2_2⟩ := X2_2.out
  obtain ⟨l2_3, k2_3, f2_3⟩ := X2_3.out
  have HR : Hid (ActRow w2 (w.heap.size + 1 + 1 + 1 + 1) (.slice po _ cap) _) := r2.mono (by exact HZ2.out)
  clear b2 r2
  go_wp2_with fail
  refine bodyPost_ret (v := .tuple #[.agg #[.int .i64 (4), .int .i64 (lf)], .slice po _ cap]) ?_ rfl ⟨po, cap, rfl, ?_, ?_⟩
  · simp [results, Tryz.results117, go_sem, k2_3]
  · exact (fin2 HB2.out HR.out (by omega) (by omega)).1
  · exact (fin2 HB2.out HR.out (by omega) (by omega)).2
set_option maxRecDepth 100000 in
set_option maxHeartbeats 2000000 in
theorem hb_3z (c ap ea : Bool) (st lf : Int) (s : ByteArray) (n : Bool) (w : World) (g : (s.toList == [67, 65]) = false) (h : numB s n = true) (h0 : 0 < lf) (h1 : lf ≤ 16) (hc : c = false) : Calls Tryz.prog 117 #[.agg #[.bool c, .bool ap, .bool ea], .agg #[.int .i64 st, .int .i64 lf], .agg #[.string s, .bool n]] w (WQ (st) (lf - 1) [(5, nT), (1, nT), (2, nT)] w) := by
  have c1 := fun w => isBy_any s n w
  rw [h] at c1
  subst hc
  go_enter Tryz.func117, Tryz.ntmps117
  go_wp2_with fail
  refine (c1 _).mono ?_
  rintro _ w1 ⟨rfl, b1⟩
  have HB1 : Hid (Below w.heap.size w w1) := below_then (bl_alloc (bl_alloc (bl_alloc ((Below.refl _ _).alloc (Nat.le_refl _) _) _) _) _) b1
  have X1_0 : Hid (Box w1 (w.heap.size) #[.bool false, .bool ap, .bool ea]) := ((((Box.new' _ #[.bool false, .bool ap, .bool ea] 161 (w.heap.size) (by simp)).alloc _).alloc _).alloc _).below b1
  have X1_1 : Hid (Box w1 (w.heap.size + 1) #[.int .i64 st, .int .i64 lf]) := (((Box.new' _ #[.int .i64 st, .int .i64 lf] 89 (w.heap.size + 1) (by simp)).alloc _).alloc _).below b1
  have X1_2 : Hid (Box w1 (w.heap.size + 1 + 1) #[.string s, .bool n]) := ((Box.new' _ #[.string s, .bool n] 176 (w.heap.size + 1 + 1) (by simp)).alloc _).below b1
  have X1_3 : Hid (Box w1 (w.heap.size + 1 + 1 + 1) #[.int .i64 0, .int .i64 0]) := (Box.new' _ #[.int .i64 0, .int .i64 0] 89 (w.heap.size + 1 + 1 + 1) (by simp)).below b1
  obtain ⟨l1_0, k1_0, f1_0⟩ := X1_0.out
  obtain ⟨l1_1, k1_1, f1_1⟩ := X1_1.out
  obtain ⟨l1_2, k1_2, f1_2⟩ := X1_2.out
  obtain ⟨l1_3, k1_3, f1_3⟩ := X1_3.out
  clear b1
  go_wp2_with fail
  have HZ2 : Hid (w.heap.size + 1 + 1 + 1 + 1 ≤ w1.heap.size) := l1_3
  refine (ro_3 st lf s n _ h h0 h1).mono ?_
  rintro _ w2 ⟨po, cap, rfl, r2, b2⟩
  have HB2 : Hid (Below w.heap.size w w2) := below_then HB1.out b2
  have X2_0 : Hid (Box w2 (w.heap.size) #[.bool false, .bool ap, .bool ea]) := X1_0.out.below b2
  have X2_1 : Hid (Box w2 (w.heap.size + 1) #[.int .i64 st, .int .i64 lf]) := X1_1.out.below b2
  have X2_2 : Hid (Box w2 (w.heap.size + 1 + 1) #[.string s, .bool n]) := X1_2.out.below b2
  have X2_3 : Hid (Box w2 (w.heap.size + 1 + 1 + 1) #[.int .i64 0, .int .i64 0]) := X1_3.out.below b2
  clear k1_0 l1_0 f1_0 X1_0 k1_1 l1_1 f1_1 X1_1 k1_2 l1_2 f1_2 X1_2 k1_3 l1_3 f1_3 X1_3 HB1
  obtain ⟨l2_0, k2_0, f2_0⟩ := X2_0.out
  obtain ⟨l2_1, k2_1, f2_1⟩ := X2_1.out
  obtain ⟨l2_2, k2_2, f2_2⟩ := X2_2.out
  obtain ⟨l2_3, k2_3, f2_3⟩ := X2_3.out
  have HR : Hid (ActRow w2 (w.heap.size + 1 + 1 + 1 + 1) (.slice po _ cap) _) := r2.mono (by exact HZ2.out)
  clear b2 r2
  go_wp2_with fail
  refine bodyPost_ret (v := .tuple #[.agg #[.int .i64 (st), .int .i64 (lf - 1)], .slice po _ cap]) ?_ rfl ⟨po, cap, rfl, ?_, ?_⟩
  · simp [results, Tryz.results117, go_sem, k2_3]
  · exact (fin2 HB2.out HR.out (by omega) (by omega)).1
  · exact (fin2 HB2.out HR.out (by omega) (by omega)).2
end Go.Proofs.YtoijhecphgdfnaaGreatDoor
