/-
  The reference's Reader: zone.
-/
import Derived.Test.YtphobcobpclioaaGreatDoorRefClock2
namespace Go.Proofs.YtphobcobpclioaaGreatDoor
open Go.RowKit

set_option maxHeartbeats 1000000 in
theorem rnumber_bad {R : Nat} {s : ByteArray} {a q : Nat} (w : World) (h : RRd w R s a (some q)) :
    Calls Tryz.prog 70 #[.pointer (some ⟨R, 0, none⟩), .int .i64 2, .int .i64 0, .int .i64 99] w fun e w' => e = .returned (.int .i64 0) ∧ w' = w := by
  have c1 := h.at_
  have c2 : w.cell? ⟨R, 2, none⟩ = some (.int .i64 (q : Int)) := h.bad
  have hq : ¬ (q : Int) < 0 := by omega
  clear h
  go_enter Tryz.func70, Tryz.ntmps70
  go_wp2_with fail
  refine wp_loop_rounds 1 ?_
  rw [rounds_succ]
  go_wp2_with fail
  go_ret
  exact ⟨rfl, rfl⟩

set_option maxHeartbeats 2000000 in
theorem rzone_p_ok {R : Nat} {s : ByteArray} {a : Nat} {lv y mo d h mi sc p dg zn : Int} {z : Bool} {hh mm : Int} {a1 a2 : Nat} (w : World) (hr : RRd w R s a none) (hc : ahd s a none = 43) (hx : numS s 2 0 99 (a + 1) none = (hh, a1, none)) (hy : numS s 2 0 99 a1 none = (mm, a2, none)) (g1 : ¬ 59 < mm) (g2 : ¬ 840 < 60 * hh + mm) :
    Calls Tryz.prog 57 #[.pointer (some ⟨R, 0, none⟩), .agg #[.int .i64 lv, .int .i64 y, .int .i64 mo, .int .i64 d, .int .i64 h, .int .i64 mi, .int .i64 sc, .int .i64 p, .int .i64 dg, .bool z, .int .i64 zn]] w fun e w' => ∃ (z' : Bool) (zn' : Int) (a' : Nat), e = .returned (.agg #[.int .i64 lv, .int .i64 y, .int .i64 mo, .int .i64 d, .int .i64 h, .int .i64 mi, .int .i64 sc, .int .i64 p, .int .i64 dg, .bool (z'), .int .i64 (zn')]) ∧ RRd w' R s a' (none) ∧ (a' = a2 ∧ z' = true ∧ zn' = 60 * hh + mm) ∧ Off (· = R) w w' := by
  have hR : R < w.heap.size := cell_lt hr.text
  have hl : a < s.size := (sign_in (Or.inl hc)).2
  have hs : s.size ≤ maxLen := hr.fit
  unfold maxLen at hs
  have c1 := hr.at_
  have f1 := hr.fr1
  have HR : Hid (RRd ((w.alloc (.cells #[.int .i64 lv, .int .i64 y, .int .i64 mo, .int .i64 d, .int .i64 h, .int .i64 mi, .int .i64 sc, .int .i64 p, .int .i64 dg, .bool z, .int .i64 zn] 66)).alloc (.cells #[.int .i64 0, .int .i64 0, .int .i64 0, .int .i64 0, .int .i64 0, .int .i64 0, .int .i64 0, .int .i64 0, .int .i64 0, .bool false, .int .i64 0] 66)) R s a none) := (hr.alloc _).alloc _
  have c1' : ((w.alloc (.cells #[.int .i64 lv, .int .i64 y, .int .i64 mo, .int .i64 d, .int .i64 h, .int .i64 mi, .int .i64 sc, .int .i64 p, .int .i64 dg, .bool z, .int .i64 zn] 66)).alloc (.cells #[.int .i64 0, .int .i64 0, .int .i64 0, .int .i64 0, .int .i64 0, .int .i64 0, .int .i64 0, .int .i64 0, .int .i64 0, .bool false, .int .i64 0] 66)).cell? ⟨R, 1, none⟩ = some (.int .i64 a) := HR.out.at_
  have f1' : ((w.alloc (.cells #[.int .i64 lv, .int .i64 y, .int .i64 mo, .int .i64 d, .int .i64 h, .int .i64 mi, .int .i64 sc, .int .i64 p, .int .i64 dg, .bool z, .int .i64 zn] 66)).alloc (.cells #[.int .i64 0, .int .i64 0, .int .i64 0, .int .i64 0, .int .i64 0, .int .i64 0, .int .i64 0, .int .i64 0, .int .i64 0, .bool false, .int .i64 0] 66)).frozen? ⟨R, 1, none⟩ = false := HR.out.fr1
  have HP : Hid ((ahd s a none == 43) = true) := by unfold Hid; rw [hc]; rfl
  have HM : Hid ((ahd s a none == 45) = false) := by unfold Hid; rw [hc]; rfl
  have HX : Hid (numS s 2 0 99 (a + 1) none = (hh, a1, none)) := hx
  have HY : Hid (numS s 2 0 99 a1 none = (mm, a2, none)) := hy
  have bb1 := num_none (s := s) (width := 2) (a := a + 1) (lo := 0) (hi := 99) (bad := none) (by rw [hx])
  have bb2 := num_none (s := s) (width := 2) (a := a1) (lo := 0) (hi := 99) (bad := none) (by rw [hy])
  rw [hx] at bb1
  rw [hy] at bb2
  simp only at bb1 bb2
  clear hr hc hx hy
  go_enter Tryz.func57, Tryz.ntmps57
  go_wp2_with fail
  refine (ris_any 43 _ HR.out (by omega) (by omega)).mono ?_
  rintro e v1 ⟨he, m1, rfl⟩
  rw [HP.out] at he
  subst he
  go_wp2_with fail
  refine (ris_any 45 _ (HR.out.drewN m1) (by omega) (by omega)).mono ?_
  rintro e v2 ⟨he, m2, rfl⟩
  rw [HM.out] at he
  subst he
  go_wp2_with fail
  refine (rnumber_any 2 0 99 _ ((HR.out.drewN (m1 + m2)).moved hl) (by omega) HX.out).mono ?_
  rintro e w1 ⟨n1, p1, rfl, r1, t1, o1⟩
  have HO1 : Hid (Off (· = R) ((w.alloc (.cells #[.int .i64 lv, .int .i64 y, .int .i64 mo, .int .i64 d, .int .i64 h, .int .i64 mi, .int .i64 sc, .int .i64 p, .int .i64 dg, .bool z, .int .i64 zn] 66)).alloc (.cells #[.int .i64 0, .int .i64 0, .int .i64 0, .int .i64 0, .int .i64 0, .int .i64 0, .int .i64 0, .int .i64 0, .int .i64 0, .bool false, .int .i64 0] 66)) w1) := (((Off.refl (· = R) _).drewN (m1 + m2)).setCell (p := ⟨R, 1, none⟩) rfl _).trans o1
  have HR1 : Hid (RRd w1 R s p1 (none)) := r1
  have hG1 : ∀ o, w1.cell? ⟨w.heap.size + 1, o, none⟩ = ((w.alloc (.cells #[.int .i64 lv, .int .i64 y, .int .i64 mo, .int .i64 d, .int .i64 h, .int .i64 mi, .int .i64 sc, .int .i64 p, .int .i64 dg, .bool z, .int .i64 zn] 66)).alloc (.cells #[.int .i64 0, .int .i64 0, .int .i64 0, .int .i64 0, .int .i64 0, .int .i64 0, .int .i64 0, .int .i64 0, .int .i64 0, .bool false, .int .i64 0] 66)).cell? ⟨w.heap.size + 1, o, none⟩ := fun o => HO1.out.cell (p := ⟨w.heap.size + 1, o, none⟩) (by simp) (by show ¬ w.heap.size + 1 = R; omega)
  have hF1 : ∀ o, w1.frozen? ⟨w.heap.size + 1, o, none⟩ = ((w.alloc (.cells #[.int .i64 lv, .int .i64 y, .int .i64 mo, .int .i64 d, .int .i64 h, .int .i64 mi, .int .i64 sc, .int .i64 p, .int .i64 dg, .bool z, .int .i64 zn] 66)).alloc (.cells #[.int .i64 0, .int .i64 0, .int .i64 0, .int .i64 0, .int .i64 0, .int .i64 0, .int .i64 0, .int .i64 0, .int .i64 0, .bool false, .int .i64 0] 66)).frozen? ⟨w.heap.size + 1, o, none⟩ := fun o => HO1.out.frozen (p := ⟨w.heap.size + 1, o, none⟩) (by simp) (by show ¬ w.heap.size + 1 = R; omega)
  have hB1 : ∀ o, w1.cell? ⟨w.heap.size, o, none⟩ = ((w.alloc (.cells #[.int .i64 lv, .int .i64 y, .int .i64 mo, .int .i64 d, .int .i64 h, .int .i64 mi, .int .i64 sc, .int .i64 p, .int .i64 dg, .bool z, .int .i64 zn] 66)).alloc (.cells #[.int .i64 0, .int .i64 0, .int .i64 0, .int .i64 0, .int .i64 0, .int .i64 0, .int .i64 0, .int .i64 0, .int .i64 0, .bool false, .int .i64 0] 66)).cell? ⟨w.heap.size, o, none⟩ := fun o => HO1.out.cell (p := ⟨w.heap.size, o, none⟩) (by simp; omega) (by show ¬ w.heap.size = R; omega)
  have hA1 : ∀ o, w1.frozen? ⟨w.heap.size, o, none⟩ = ((w.alloc (.cells #[.int .i64 lv, .int .i64 y, .int .i64 mo, .int .i64 d, .int .i64 h, .int .i64 mi, .int .i64 sc, .int .i64 p, .int .i64 dg, .bool z, .int .i64 zn] 66)).alloc (.cells #[.int .i64 0, .int .i64 0, .int .i64 0, .int .i64 0, .int .i64 0, .int .i64 0, .int .i64 0, .int .i64 0, .int .i64 0, .bool false, .int .i64 0] 66)).frozen? ⟨w.heap.size, o, none⟩ := fun o => HO1.out.frozen (p := ⟨w.heap.size, o, none⟩) (by simp; omega) (by show ¬ w.heap.size = R; omega)
  obtain ⟨rfl, rfl⟩ := t1 rfl
  clear r1 o1
  go_wp2_with fail
  refine (rnumber_any 2 0 99 _ HR1.out (by omega) HY.out).mono ?_
  rintro e w2 ⟨n2, p2, rfl, r2, t2, o2⟩
  have HO2 : Hid (Off (· = R) ((w.alloc (.cells #[.int .i64 lv, .int .i64 y, .int .i64 mo, .int .i64 d, .int .i64 h, .int .i64 mi, .int .i64 sc, .int .i64 p, .int .i64 dg, .bool z, .int .i64 zn] 66)).alloc (.cells #[.int .i64 0, .int .i64 0, .int .i64 0, .int .i64 0, .int .i64 0, .int .i64 0, .int .i64 0, .int .i64 0, .int .i64 0, .bool false, .int .i64 0] 66)) w2) := HO1.out.trans o2
  have HR2 : Hid (RRd w2 R s p2 (none)) := r2
  clear hG1 hF1 hB1 hA1
  have hG2 : ∀ o, w2.cell? ⟨w.heap.size + 1, o, none⟩ = ((w.alloc (.cells #[.int .i64 lv, .int .i64 y, .int .i64 mo, .int .i64 d, .int .i64 h, .int .i64 mi, .int .i64 sc, .int .i64 p, .int .i64 dg, .bool z, .int .i64 zn] 66)).alloc (.cells #[.int .i64 0, .int .i64 0, .int .i64 0, .int .i64 0, .int .i64 0, .int .i64 0, .int .i64 0, .int .i64 0, .int .i64 0, .bool false, .int .i64 0] 66)).cell? ⟨w.heap.size + 1, o, none⟩ := fun o => HO2.out.cell (p := ⟨w.heap.size + 1, o, none⟩) (by simp) (by show ¬ w.heap.size + 1 = R; omega)
  have hF2 : ∀ o, w2.frozen? ⟨w.heap.size + 1, o, none⟩ = ((w.alloc (.cells #[.int .i64 lv, .int .i64 y, .int .i64 mo, .int .i64 d, .int .i64 h, .int .i64 mi, .int .i64 sc, .int .i64 p, .int .i64 dg, .bool z, .int .i64 zn] 66)).alloc (.cells #[.int .i64 0, .int .i64 0, .int .i64 0, .int .i64 0, .int .i64 0, .int .i64 0, .int .i64 0, .int .i64 0, .int .i64 0, .bool false, .int .i64 0] 66)).frozen? ⟨w.heap.size + 1, o, none⟩ := fun o => HO2.out.frozen (p := ⟨w.heap.size + 1, o, none⟩) (by simp) (by show ¬ w.heap.size + 1 = R; omega)
  have hB2 : ∀ o, w2.cell? ⟨w.heap.size, o, none⟩ = ((w.alloc (.cells #[.int .i64 lv, .int .i64 y, .int .i64 mo, .int .i64 d, .int .i64 h, .int .i64 mi, .int .i64 sc, .int .i64 p, .int .i64 dg, .bool z, .int .i64 zn] 66)).alloc (.cells #[.int .i64 0, .int .i64 0, .int .i64 0, .int .i64 0, .int .i64 0, .int .i64 0, .int .i64 0, .int .i64 0, .int .i64 0, .bool false, .int .i64 0] 66)).cell? ⟨w.heap.size, o, none⟩ := fun o => HO2.out.cell (p := ⟨w.heap.size, o, none⟩) (by simp; omega) (by show ¬ w.heap.size = R; omega)
  have hA2 : ∀ o, w2.frozen? ⟨w.heap.size, o, none⟩ = ((w.alloc (.cells #[.int .i64 lv, .int .i64 y, .int .i64 mo, .int .i64 d, .int .i64 h, .int .i64 mi, .int .i64 sc, .int .i64 p, .int .i64 dg, .bool z, .int .i64 zn] 66)).alloc (.cells #[.int .i64 0, .int .i64 0, .int .i64 0, .int .i64 0, .int .i64 0, .int .i64 0, .int .i64 0, .int .i64 0, .int .i64 0, .bool false, .int .i64 0] 66)).frozen? ⟨w.heap.size, o, none⟩ := fun o => HO2.out.frozen (p := ⟨w.heap.size, o, none⟩) (by simp; omega) (by show ¬ w.heap.size = R; omega)
  obtain ⟨rfl, rfl⟩ := t2 rfl
  clear r2 o2
  have k2 := HR2.out.bad_none
  go_wp2_with fail
  refine bodyPost_ret (v := .agg #[.int .i64 lv, .int .i64 y, .int .i64 mo, .int .i64 d, .int .i64 h, .int .i64 mi, .int .i64 sc, .int .i64 p, .int .i64 dg, .bool true, .int .i64 (60 * n1 + n2)]) (by simp [results, Tryz.results57, go_sem, hG2, World.cell?_setCell_other]) rfl ⟨true, 60 * n1 + n2, p2, rfl, ?_, ⟨rfl, rfl, rfl⟩, ?_⟩
  · exact HR2.out.off (off_set11 (P := fun k => k = w.heap.size ∨ k = w.heap.size + 1) (((Off.refl _ _).setCell (p := ⟨w.heap.size, 9, none⟩) (Or.inl rfl) _).setCell (p := ⟨w.heap.size, 10, none⟩) (Or.inl rfl) _) (Or.inr rfl) _ _ _ _ _ _ _ _ _ _ _) (by show ¬ (R = w.heap.size ∨ R = w.heap.size + 1); omega)
  · exact off_new11 ((((((Off.refl (· = R) w).alloc _).alloc _).trans HO2.out).setNew (p := ⟨w.heap.size, 9, none⟩) (Nat.le_refl _) _).setNew (p := ⟨w.heap.size, 10, none⟩) (Nat.le_refl _) _) (Nat.le_succ _) _ _ _ _ _ _ _ _ _ _ _

set_option maxHeartbeats 2000000 in
theorem rzone_p_b1 {R : Nat} {s : ByteArray} {a : Nat} {lv y mo d h mi sc p dg zn : Int} {z : Bool} {hh _mm : Int} {a1 _a2 : Nat} (w : World) (hr : RRd w R s a none) (hc : ahd s a none = 43) {q : Nat} (hx : numS s 2 0 99 (a + 1) none = (hh, a1, some q)) :
    Calls Tryz.prog 57 #[.pointer (some ⟨R, 0, none⟩), .agg #[.int .i64 lv, .int .i64 y, .int .i64 mo, .int .i64 d, .int .i64 h, .int .i64 mi, .int .i64 sc, .int .i64 p, .int .i64 dg, .bool z, .int .i64 zn]] w fun e w' => ∃ (z' : Bool) (zn' : Int) (a' : Nat), e = .returned (.agg #[.int .i64 lv, .int .i64 y, .int .i64 mo, .int .i64 d, .int .i64 h, .int .i64 mi, .int .i64 sc, .int .i64 p, .int .i64 dg, .bool (z'), .int .i64 (zn')]) ∧ RRd w' R s a' (some q) ∧  Off (· = R) w w' := by
  have hR : R < w.heap.size := cell_lt hr.text
  have hl : a < s.size := (sign_in (Or.inl hc)).2
  have hs : s.size ≤ maxLen := hr.fit
  unfold maxLen at hs
  have c1 := hr.at_
  have f1 := hr.fr1
  have HR : Hid (RRd ((w.alloc (.cells #[.int .i64 lv, .int .i64 y, .int .i64 mo, .int .i64 d, .int .i64 h, .int .i64 mi, .int .i64 sc, .int .i64 p, .int .i64 dg, .bool z, .int .i64 zn] 66)).alloc (.cells #[.int .i64 0, .int .i64 0, .int .i64 0, .int .i64 0, .int .i64 0, .int .i64 0, .int .i64 0, .int .i64 0, .int .i64 0, .bool false, .int .i64 0] 66)) R s a none) := (hr.alloc _).alloc _
  have c1' : ((w.alloc (.cells #[.int .i64 lv, .int .i64 y, .int .i64 mo, .int .i64 d, .int .i64 h, .int .i64 mi, .int .i64 sc, .int .i64 p, .int .i64 dg, .bool z, .int .i64 zn] 66)).alloc (.cells #[.int .i64 0, .int .i64 0, .int .i64 0, .int .i64 0, .int .i64 0, .int .i64 0, .int .i64 0, .int .i64 0, .int .i64 0, .bool false, .int .i64 0] 66)).cell? ⟨R, 1, none⟩ = some (.int .i64 a) := HR.out.at_
  have f1' : ((w.alloc (.cells #[.int .i64 lv, .int .i64 y, .int .i64 mo, .int .i64 d, .int .i64 h, .int .i64 mi, .int .i64 sc, .int .i64 p, .int .i64 dg, .bool z, .int .i64 zn] 66)).alloc (.cells #[.int .i64 0, .int .i64 0, .int .i64 0, .int .i64 0, .int .i64 0, .int .i64 0, .int .i64 0, .int .i64 0, .int .i64 0, .bool false, .int .i64 0] 66)).frozen? ⟨R, 1, none⟩ = false := HR.out.fr1
  have HP : Hid ((ahd s a none == 43) = true) := by unfold Hid; rw [hc]; rfl
  have HM : Hid ((ahd s a none == 45) = false) := by unfold Hid; rw [hc]; rfl
  have HX : Hid (numS s 2 0 99 (a + 1) none = (hh, a1, some q)) := hx
  clear hr hc hx
  go_enter Tryz.func57, Tryz.ntmps57
  go_wp2_with fail
  refine (ris_any 43 _ HR.out (by omega) (by omega)).mono ?_
  rintro e v1 ⟨he, m1, rfl⟩
  rw [HP.out] at he
  subst he
  go_wp2_with fail
  refine (ris_any 45 _ (HR.out.drewN m1) (by omega) (by omega)).mono ?_
  rintro e v2 ⟨he, m2, rfl⟩
  rw [HM.out] at he
  subst he
  go_wp2_with fail
  refine (rnumber_any 2 0 99 _ ((HR.out.drewN (m1 + m2)).moved hl) (by omega) HX.out).mono ?_
  rintro e w1 ⟨n1, p1, rfl, r1, t1, o1⟩
  have HO1 : Hid (Off (· = R) ((w.alloc (.cells #[.int .i64 lv, .int .i64 y, .int .i64 mo, .int .i64 d, .int .i64 h, .int .i64 mi, .int .i64 sc, .int .i64 p, .int .i64 dg, .bool z, .int .i64 zn] 66)).alloc (.cells #[.int .i64 0, .int .i64 0, .int .i64 0, .int .i64 0, .int .i64 0, .int .i64 0, .int .i64 0, .int .i64 0, .int .i64 0, .bool false, .int .i64 0] 66)) w1) := (((Off.refl (· = R) _).drewN (m1 + m2)).setCell (p := ⟨R, 1, none⟩) rfl _).trans o1
  have HR1 : Hid (RRd w1 R s p1 (some q)) := r1
  have hG1 : ∀ o, w1.cell? ⟨w.heap.size + 1, o, none⟩ = ((w.alloc (.cells #[.int .i64 lv, .int .i64 y, .int .i64 mo, .int .i64 d, .int .i64 h, .int .i64 mi, .int .i64 sc, .int .i64 p, .int .i64 dg, .bool z, .int .i64 zn] 66)).alloc (.cells #[.int .i64 0, .int .i64 0, .int .i64 0, .int .i64 0, .int .i64 0, .int .i64 0, .int .i64 0, .int .i64 0, .int .i64 0, .bool false, .int .i64 0] 66)).cell? ⟨w.heap.size + 1, o, none⟩ := fun o => HO1.out.cell (p := ⟨w.heap.size + 1, o, none⟩) (by simp) (by show ¬ w.heap.size + 1 = R; omega)
  have hF1 : ∀ o, w1.frozen? ⟨w.heap.size + 1, o, none⟩ = ((w.alloc (.cells #[.int .i64 lv, .int .i64 y, .int .i64 mo, .int .i64 d, .int .i64 h, .int .i64 mi, .int .i64 sc, .int .i64 p, .int .i64 dg, .bool z, .int .i64 zn] 66)).alloc (.cells #[.int .i64 0, .int .i64 0, .int .i64 0, .int .i64 0, .int .i64 0, .int .i64 0, .int .i64 0, .int .i64 0, .int .i64 0, .bool false, .int .i64 0] 66)).frozen? ⟨w.heap.size + 1, o, none⟩ := fun o => HO1.out.frozen (p := ⟨w.heap.size + 1, o, none⟩) (by simp) (by show ¬ w.heap.size + 1 = R; omega)
  have hB1 : ∀ o, w1.cell? ⟨w.heap.size, o, none⟩ = ((w.alloc (.cells #[.int .i64 lv, .int .i64 y, .int .i64 mo, .int .i64 d, .int .i64 h, .int .i64 mi, .int .i64 sc, .int .i64 p, .int .i64 dg, .bool z, .int .i64 zn] 66)).alloc (.cells #[.int .i64 0, .int .i64 0, .int .i64 0, .int .i64 0, .int .i64 0, .int .i64 0, .int .i64 0, .int .i64 0, .int .i64 0, .bool false, .int .i64 0] 66)).cell? ⟨w.heap.size, o, none⟩ := fun o => HO1.out.cell (p := ⟨w.heap.size, o, none⟩) (by simp; omega) (by show ¬ w.heap.size = R; omega)
  have hA1 : ∀ o, w1.frozen? ⟨w.heap.size, o, none⟩ = ((w.alloc (.cells #[.int .i64 lv, .int .i64 y, .int .i64 mo, .int .i64 d, .int .i64 h, .int .i64 mi, .int .i64 sc, .int .i64 p, .int .i64 dg, .bool z, .int .i64 zn] 66)).alloc (.cells #[.int .i64 0, .int .i64 0, .int .i64 0, .int .i64 0, .int .i64 0, .int .i64 0, .int .i64 0, .int .i64 0, .int .i64 0, .bool false, .int .i64 0] 66)).frozen? ⟨w.heap.size, o, none⟩ := fun o => HO1.out.frozen (p := ⟨w.heap.size, o, none⟩) (by simp; omega) (by show ¬ w.heap.size = R; omega)
  clear r1 t1 o1
  go_wp2_with fail
  refine (rnumber_bad _ HR1.out).mono ?_
  rintro e w2 ⟨rfl, rfl⟩
  have k2 : w2.cell? ⟨R, 2, none⟩ = some (.int .i64 (q : Int)) := HR1.out.bad
  have hq : decide ((q : Int) < 0) = false := by simp
  go_wp2_with fail
  refine bodyPost_ret (v := .agg #[.int .i64 lv, .int .i64 y, .int .i64 mo, .int .i64 d, .int .i64 h, .int .i64 mi, .int .i64 sc, .int .i64 p, .int .i64 dg, .bool true, .int .i64 (wrap64 (wrap64 (60 * n1)))]) (by simp [results, Tryz.results57, go_sem, hG1, World.cell?_setCell_other]) rfl ⟨true, wrap64 (wrap64 (60 * n1)), p1, rfl, ?_, ?_⟩
  · exact HR1.out.off (off_set11 (P := fun k => k = w.heap.size ∨ k = w.heap.size + 1) (((Off.refl _ _).setCell (p := ⟨w.heap.size, 9, none⟩) (Or.inl rfl) _).setCell (p := ⟨w.heap.size, 10, none⟩) (Or.inl rfl) _) (Or.inr rfl) _ _ _ _ _ _ _ _ _ _ _) (by show ¬ (R = w.heap.size ∨ R = w.heap.size + 1); omega)
  · exact off_new11 ((((((Off.refl (· = R) w).alloc _).alloc _).trans HO1.out).setNew (p := ⟨w.heap.size, 9, none⟩) (Nat.le_refl _) _).setNew (p := ⟨w.heap.size, 10, none⟩) (Nat.le_refl _) _) (Nat.le_succ _) _ _ _ _ _ _ _ _ _ _ _

set_option maxHeartbeats 2000000 in
theorem rzone_p_b2 {R : Nat} {s : ByteArray} {a : Nat} {lv y mo d h mi sc p dg zn : Int} {z : Bool} {hh mm : Int} {a1 a2 : Nat} (w : World) (hr : RRd w R s a none) (hc : ahd s a none = 43) {q : Nat} (hx : numS s 2 0 99 (a + 1) none = (hh, a1, none)) (hy : numS s 2 0 99 a1 none = (mm, a2, some q)) :
    Calls Tryz.prog 57 #[.pointer (some ⟨R, 0, none⟩), .agg #[.int .i64 lv, .int .i64 y, .int .i64 mo, .int .i64 d, .int .i64 h, .int .i64 mi, .int .i64 sc, .int .i64 p, .int .i64 dg, .bool z, .int .i64 zn]] w fun e w' => ∃ (z' : Bool) (zn' : Int) (a' : Nat), e = .returned (.agg #[.int .i64 lv, .int .i64 y, .int .i64 mo, .int .i64 d, .int .i64 h, .int .i64 mi, .int .i64 sc, .int .i64 p, .int .i64 dg, .bool (z'), .int .i64 (zn')]) ∧ RRd w' R s a' (some q) ∧  Off (· = R) w w' := by
  have hR : R < w.heap.size := cell_lt hr.text
  have hl : a < s.size := (sign_in (Or.inl hc)).2
  have hs : s.size ≤ maxLen := hr.fit
  unfold maxLen at hs
  have c1 := hr.at_
  have f1 := hr.fr1
  have HR : Hid (RRd ((w.alloc (.cells #[.int .i64 lv, .int .i64 y, .int .i64 mo, .int .i64 d, .int .i64 h, .int .i64 mi, .int .i64 sc, .int .i64 p, .int .i64 dg, .bool z, .int .i64 zn] 66)).alloc (.cells #[.int .i64 0, .int .i64 0, .int .i64 0, .int .i64 0, .int .i64 0, .int .i64 0, .int .i64 0, .int .i64 0, .int .i64 0, .bool false, .int .i64 0] 66)) R s a none) := (hr.alloc _).alloc _
  have c1' : ((w.alloc (.cells #[.int .i64 lv, .int .i64 y, .int .i64 mo, .int .i64 d, .int .i64 h, .int .i64 mi, .int .i64 sc, .int .i64 p, .int .i64 dg, .bool z, .int .i64 zn] 66)).alloc (.cells #[.int .i64 0, .int .i64 0, .int .i64 0, .int .i64 0, .int .i64 0, .int .i64 0, .int .i64 0, .int .i64 0, .int .i64 0, .bool false, .int .i64 0] 66)).cell? ⟨R, 1, none⟩ = some (.int .i64 a) := HR.out.at_
  have f1' : ((w.alloc (.cells #[.int .i64 lv, .int .i64 y, .int .i64 mo, .int .i64 d, .int .i64 h, .int .i64 mi, .int .i64 sc, .int .i64 p, .int .i64 dg, .bool z, .int .i64 zn] 66)).alloc (.cells #[.int .i64 0, .int .i64 0, .int .i64 0, .int .i64 0, .int .i64 0, .int .i64 0, .int .i64 0, .int .i64 0, .int .i64 0, .bool false, .int .i64 0] 66)).frozen? ⟨R, 1, none⟩ = false := HR.out.fr1
  have HP : Hid ((ahd s a none == 43) = true) := by unfold Hid; rw [hc]; rfl
  have HM : Hid ((ahd s a none == 45) = false) := by unfold Hid; rw [hc]; rfl
  have HX : Hid (numS s 2 0 99 (a + 1) none = (hh, a1, none)) := hx
  have HY : Hid (numS s 2 0 99 a1 none = (mm, a2, some q)) := hy
  clear hr hc hx hy
  go_enter Tryz.func57, Tryz.ntmps57
  go_wp2_with fail
  refine (ris_any 43 _ HR.out (by omega) (by omega)).mono ?_
  rintro e v1 ⟨he, m1, rfl⟩
  rw [HP.out] at he
  subst he
  go_wp2_with fail
  refine (ris_any 45 _ (HR.out.drewN m1) (by omega) (by omega)).mono ?_
  rintro e v2 ⟨he, m2, rfl⟩
  rw [HM.out] at he
  subst he
  go_wp2_with fail
  refine (rnumber_any 2 0 99 _ ((HR.out.drewN (m1 + m2)).moved hl) (by omega) HX.out).mono ?_
  rintro e w1 ⟨n1, p1, rfl, r1, t1, o1⟩
  have HO1 : Hid (Off (· = R) ((w.alloc (.cells #[.int .i64 lv, .int .i64 y, .int .i64 mo, .int .i64 d, .int .i64 h, .int .i64 mi, .int .i64 sc, .int .i64 p, .int .i64 dg, .bool z, .int .i64 zn] 66)).alloc (.cells #[.int .i64 0, .int .i64 0, .int .i64 0, .int .i64 0, .int .i64 0, .int .i64 0, .int .i64 0, .int .i64 0, .int .i64 0, .bool false, .int .i64 0] 66)) w1) := (((Off.refl (· = R) _).drewN (m1 + m2)).setCell (p := ⟨R, 1, none⟩) rfl _).trans o1
  have HR1 : Hid (RRd w1 R s p1 (none)) := r1
  have hG1 : ∀ o, w1.cell? ⟨w.heap.size + 1, o, none⟩ = ((w.alloc (.cells #[.int .i64 lv, .int .i64 y, .int .i64 mo, .int .i64 d, .int .i64 h, .int .i64 mi, .int .i64 sc, .int .i64 p, .int .i64 dg, .bool z, .int .i64 zn] 66)).alloc (.cells #[.int .i64 0, .int .i64 0, .int .i64 0, .int .i64 0, .int .i64 0, .int .i64 0, .int .i64 0, .int .i64 0, .int .i64 0, .bool false, .int .i64 0] 66)).cell? ⟨w.heap.size + 1, o, none⟩ := fun o => HO1.out.cell (p := ⟨w.heap.size + 1, o, none⟩) (by simp) (by show ¬ w.heap.size + 1 = R; omega)
  have hF1 : ∀ o, w1.frozen? ⟨w.heap.size + 1, o, none⟩ = ((w.alloc (.cells #[.int .i64 lv, .int .i64 y, .int .i64 mo, .int .i64 d, .int .i64 h, .int .i64 mi, .int .i64 sc, .int .i64 p, .int .i64 dg, .bool z, .int .i64 zn] 66)).alloc (.cells #[.int .i64 0, .int .i64 0, .int .i64 0, .int .i64 0, .int .i64 0, .int .i64 0, .int .i64 0, .int .i64 0, .int .i64 0, .bool false, .int .i64 0] 66)).frozen? ⟨w.heap.size + 1, o, none⟩ := fun o => HO1.out.frozen (p := ⟨w.heap.size + 1, o, none⟩) (by simp) (by show ¬ w.heap.size + 1 = R; omega)
  have hB1 : ∀ o, w1.cell? ⟨w.heap.size, o, none⟩ = ((w.alloc (.cells #[.int .i64 lv, .int .i64 y, .int .i64 mo, .int .i64 d, .int .i64 h, .int .i64 mi, .int .i64 sc, .int .i64 p, .int .i64 dg, .bool z, .int .i64 zn] 66)).alloc (.cells #[.int .i64 0, .int .i64 0, .int .i64 0, .int .i64 0, .int .i64 0, .int .i64 0, .int .i64 0, .int .i64 0, .int .i64 0, .bool false, .int .i64 0] 66)).cell? ⟨w.heap.size, o, none⟩ := fun o => HO1.out.cell (p := ⟨w.heap.size, o, none⟩) (by simp; omega) (by show ¬ w.heap.size = R; omega)
  have hA1 : ∀ o, w1.frozen? ⟨w.heap.size, o, none⟩ = ((w.alloc (.cells #[.int .i64 lv, .int .i64 y, .int .i64 mo, .int .i64 d, .int .i64 h, .int .i64 mi, .int .i64 sc, .int .i64 p, .int .i64 dg, .bool z, .int .i64 zn] 66)).alloc (.cells #[.int .i64 0, .int .i64 0, .int .i64 0, .int .i64 0, .int .i64 0, .int .i64 0, .int .i64 0, .int .i64 0, .int .i64 0, .bool false, .int .i64 0] 66)).frozen? ⟨w.heap.size, o, none⟩ := fun o => HO1.out.frozen (p := ⟨w.heap.size, o, none⟩) (by simp; omega) (by show ¬ w.heap.size = R; omega)
  obtain ⟨rfl, rfl⟩ := t1 rfl
  clear r1 o1
  go_wp2_with fail
  refine (rnumber_any 2 0 99 _ HR1.out (by omega) HY.out).mono ?_
  rintro e w2 ⟨n2, p2, rfl, r2, t2, o2⟩
  have HO2 : Hid (Off (· = R) ((w.alloc (.cells #[.int .i64 lv, .int .i64 y, .int .i64 mo, .int .i64 d, .int .i64 h, .int .i64 mi, .int .i64 sc, .int .i64 p, .int .i64 dg, .bool z, .int .i64 zn] 66)).alloc (.cells #[.int .i64 0, .int .i64 0, .int .i64 0, .int .i64 0, .int .i64 0, .int .i64 0, .int .i64 0, .int .i64 0, .int .i64 0, .bool false, .int .i64 0] 66)) w2) := HO1.out.trans o2
  have HR2 : Hid (RRd w2 R s p2 (some q)) := r2
  clear hG1 hF1 hB1 hA1
  have hG2 : ∀ o, w2.cell? ⟨w.heap.size + 1, o, none⟩ = ((w.alloc (.cells #[.int .i64 lv, .int .i64 y, .int .i64 mo, .int .i64 d, .int .i64 h, .int .i64 mi, .int .i64 sc, .int .i64 p, .int .i64 dg, .bool z, .int .i64 zn] 66)).alloc (.cells #[.int .i64 0, .int .i64 0, .int .i64 0, .int .i64 0, .int .i64 0, .int .i64 0, .int .i64 0, .int .i64 0, .int .i64 0, .bool false, .int .i64 0] 66)).cell? ⟨w.heap.size + 1, o, none⟩ := fun o => HO2.out.cell (p := ⟨w.heap.size + 1, o, none⟩) (by simp) (by show ¬ w.heap.size + 1 = R; omega)
  have hF2 : ∀ o, w2.frozen? ⟨w.heap.size + 1, o, none⟩ = ((w.alloc (.cells #[.int .i64 lv, .int .i64 y, .int .i64 mo, .int .i64 d, .int .i64 h, .int .i64 mi, .int .i64 sc, .int .i64 p, .int .i64 dg, .bool z, .int .i64 zn] 66)).alloc (.cells #[.int .i64 0, .int .i64 0, .int .i64 0, .int .i64 0, .int .i64 0, .int .i64 0, .int .i64 0, .int .i64 0, .int .i64 0, .bool false, .int .i64 0] 66)).frozen? ⟨w.heap.size + 1, o, none⟩ := fun o => HO2.out.frozen (p := ⟨w.heap.size + 1, o, none⟩) (by simp) (by show ¬ w.heap.size + 1 = R; omega)
  have hB2 : ∀ o, w2.cell? ⟨w.heap.size, o, none⟩ = ((w.alloc (.cells #[.int .i64 lv, .int .i64 y, .int .i64 mo, .int .i64 d, .int .i64 h, .int .i64 mi, .int .i64 sc, .int .i64 p, .int .i64 dg, .bool z, .int .i64 zn] 66)).alloc (.cells #[.int .i64 0, .int .i64 0, .int .i64 0, .int .i64 0, .int .i64 0, .int .i64 0, .int .i64 0, .int .i64 0, .int .i64 0, .bool false, .int .i64 0] 66)).cell? ⟨w.heap.size, o, none⟩ := fun o => HO2.out.cell (p := ⟨w.heap.size, o, none⟩) (by simp; omega) (by show ¬ w.heap.size = R; omega)
  have hA2 : ∀ o, w2.frozen? ⟨w.heap.size, o, none⟩ = ((w.alloc (.cells #[.int .i64 lv, .int .i64 y, .int .i64 mo, .int .i64 d, .int .i64 h, .int .i64 mi, .int .i64 sc, .int .i64 p, .int .i64 dg, .bool z, .int .i64 zn] 66)).alloc (.cells #[.int .i64 0, .int .i64 0, .int .i64 0, .int .i64 0, .int .i64 0, .int .i64 0, .int .i64 0, .int .i64 0, .int .i64 0, .bool false, .int .i64 0] 66)).frozen? ⟨w.heap.size, o, none⟩ := fun o => HO2.out.frozen (p := ⟨w.heap.size, o, none⟩) (by simp; omega) (by show ¬ w.heap.size = R; omega)
  clear r2 t2 o2
  have k2 : w2.cell? ⟨R, 2, none⟩ = some (.int .i64 (q : Int)) := HR2.out.bad
  have hq : decide ((q : Int) < 0) = false := by simp
  go_wp2_with fail
  refine bodyPost_ret (v := .agg #[.int .i64 lv, .int .i64 y, .int .i64 mo, .int .i64 d, .int .i64 h, .int .i64 mi, .int .i64 sc, .int .i64 p, .int .i64 dg, .bool true, .int .i64 (wrap64 (wrap64 (60 * n1) + n2))]) (by simp [results, Tryz.results57, go_sem, hG2, World.cell?_setCell_other]) rfl ⟨true, wrap64 (wrap64 (60 * n1) + n2), p2, rfl, ?_, ?_⟩
  · exact HR2.out.off (off_set11 (P := fun k => k = w.heap.size ∨ k = w.heap.size + 1) (((Off.refl _ _).setCell (p := ⟨w.heap.size, 9, none⟩) (Or.inl rfl) _).setCell (p := ⟨w.heap.size, 10, none⟩) (Or.inl rfl) _) (Or.inr rfl) _ _ _ _ _ _ _ _ _ _ _) (by show ¬ (R = w.heap.size ∨ R = w.heap.size + 1); omega)
  · exact off_new11 ((((((Off.refl (· = R) w).alloc _).alloc _).trans HO2.out).setNew (p := ⟨w.heap.size, 9, none⟩) (Nat.le_refl _) _).setNew (p := ⟨w.heap.size, 10, none⟩) (Nat.le_refl _) _) (Nat.le_succ _) _ _ _ _ _ _ _ _ _ _ _

set_option maxHeartbeats 2000000 in
theorem rzone_p_m {R : Nat} {s : ByteArray} {a : Nat} {lv y mo d h mi sc p dg zn : Int} {z : Bool} {hh mm : Int} {a1 a2 : Nat} (w : World) (hr : RRd w R s a none) (hc : ahd s a none = 43) (hx : numS s 2 0 99 (a + 1) none = (hh, a1, none)) (hy : numS s 2 0 99 a1 none = (mm, a2, none)) (g1 : 59 < mm) :
    Calls Tryz.prog 57 #[.pointer (some ⟨R, 0, none⟩), .agg #[.int .i64 lv, .int .i64 y, .int .i64 mo, .int .i64 d, .int .i64 h, .int .i64 mi, .int .i64 sc, .int .i64 p, .int .i64 dg, .bool z, .int .i64 zn]] w fun e w' => ∃ (z' : Bool) (zn' : Int) (a' : Nat), e = .returned (.agg #[.int .i64 lv, .int .i64 y, .int .i64 mo, .int .i64 d, .int .i64 h, .int .i64 mi, .int .i64 sc, .int .i64 p, .int .i64 dg, .bool (z'), .int .i64 (zn')]) ∧ RRd w' R s a' (some a) ∧  Off (· = R) w w' := by
  have hR : R < w.heap.size := cell_lt hr.text
  have hl : a < s.size := (sign_in (Or.inl hc)).2
  have hs : s.size ≤ maxLen := hr.fit
  unfold maxLen at hs
  have c1 := hr.at_
  have f1 := hr.fr1
  have HR : Hid (RRd ((w.alloc (.cells #[.int .i64 lv, .int .i64 y, .int .i64 mo, .int .i64 d, .int .i64 h, .int .i64 mi, .int .i64 sc, .int .i64 p, .int .i64 dg, .bool z, .int .i64 zn] 66)).alloc (.cells #[.int .i64 0, .int .i64 0, .int .i64 0, .int .i64 0, .int .i64 0, .int .i64 0, .int .i64 0, .int .i64 0, .int .i64 0, .bool false, .int .i64 0] 66)) R s a none) := (hr.alloc _).alloc _
  have c1' : ((w.alloc (.cells #[.int .i64 lv, .int .i64 y, .int .i64 mo, .int .i64 d, .int .i64 h, .int .i64 mi, .int .i64 sc, .int .i64 p, .int .i64 dg, .bool z, .int .i64 zn] 66)).alloc (.cells #[.int .i64 0, .int .i64 0, .int .i64 0, .int .i64 0, .int .i64 0, .int .i64 0, .int .i64 0, .int .i64 0, .int .i64 0, .bool false, .int .i64 0] 66)).cell? ⟨R, 1, none⟩ = some (.int .i64 a) := HR.out.at_
  have f1' : ((w.alloc (.cells #[.int .i64 lv, .int .i64 y, .int .i64 mo, .int .i64 d, .int .i64 h, .int .i64 mi, .int .i64 sc, .int .i64 p, .int .i64 dg, .bool z, .int .i64 zn] 66)).alloc (.cells #[.int .i64 0, .int .i64 0, .int .i64 0, .int .i64 0, .int .i64 0, .int .i64 0, .int .i64 0, .int .i64 0, .int .i64 0, .bool false, .int .i64 0] 66)).frozen? ⟨R, 1, none⟩ = false := HR.out.fr1
  have HP : Hid ((ahd s a none == 43) = true) := by unfold Hid; rw [hc]; rfl
  have HM : Hid ((ahd s a none == 45) = false) := by unfold Hid; rw [hc]; rfl
  have HX : Hid (numS s 2 0 99 (a + 1) none = (hh, a1, none)) := hx
  have HY : Hid (numS s 2 0 99 a1 none = (mm, a2, none)) := hy
  have bb1 := num_none (s := s) (width := 2) (a := a + 1) (lo := 0) (hi := 99) (bad := none) (by rw [hx])
  have bb2 := num_none (s := s) (width := 2) (a := a1) (lo := 0) (hi := 99) (bad := none) (by rw [hy])
  rw [hx] at bb1
  rw [hy] at bb2
  simp only at bb1 bb2
  clear hr hc hx hy
  go_enter Tryz.func57, Tryz.ntmps57
  go_wp2_with fail
  refine (ris_any 43 _ HR.out (by omega) (by omega)).mono ?_
  rintro e v1 ⟨he, m1, rfl⟩
  rw [HP.out] at he
  subst he
  go_wp2_with fail
  refine (ris_any 45 _ (HR.out.drewN m1) (by omega) (by omega)).mono ?_
  rintro e v2 ⟨he, m2, rfl⟩
  rw [HM.out] at he
  subst he
  go_wp2_with fail
  refine (rnumber_any 2 0 99 _ ((HR.out.drewN (m1 + m2)).moved hl) (by omega) HX.out).mono ?_
  rintro e w1 ⟨n1, p1, rfl, r1, t1, o1⟩
  have HO1 : Hid (Off (· = R) ((w.alloc (.cells #[.int .i64 lv, .int .i64 y, .int .i64 mo, .int .i64 d, .int .i64 h, .int .i64 mi, .int .i64 sc, .int .i64 p, .int .i64 dg, .bool z, .int .i64 zn] 66)).alloc (.cells #[.int .i64 0, .int .i64 0, .int .i64 0, .int .i64 0, .int .i64 0, .int .i64 0, .int .i64 0, .int .i64 0, .int .i64 0, .bool false, .int .i64 0] 66)) w1) := (((Off.refl (· = R) _).drewN (m1 + m2)).setCell (p := ⟨R, 1, none⟩) rfl _).trans o1
  have HR1 : Hid (RRd w1 R s p1 (none)) := r1
  have hG1 : ∀ o, w1.cell? ⟨w.heap.size + 1, o, none⟩ = ((w.alloc (.cells #[.int .i64 lv, .int .i64 y, .int .i64 mo, .int .i64 d, .int .i64 h, .int .i64 mi, .int .i64 sc, .int .i64 p, .int .i64 dg, .bool z, .int .i64 zn] 66)).alloc (.cells #[.int .i64 0, .int .i64 0, .int .i64 0, .int .i64 0, .int .i64 0, .int .i64 0, .int .i64 0, .int .i64 0, .int .i64 0, .bool false, .int .i64 0] 66)).cell? ⟨w.heap.size + 1, o, none⟩ := fun o => HO1.out.cell (p := ⟨w.heap.size + 1, o, none⟩) (by simp) (by show ¬ w.heap.size + 1 = R; omega)
  have hF1 : ∀ o, w1.frozen? ⟨w.heap.size + 1, o, none⟩ = ((w.alloc (.cells #[.int .i64 lv, .int .i64 y, .int .i64 mo, .int .i64 d, .int .i64 h, .int .i64 mi, .int .i64 sc, .int .i64 p, .int .i64 dg, .bool z, .int .i64 zn] 66)).alloc (.cells #[.int .i64 0, .int .i64 0, .int .i64 0, .int .i64 0, .int .i64 0, .int .i64 0, .int .i64 0, .int .i64 0, .int .i64 0, .bool false, .int .i64 0] 66)).frozen? ⟨w.heap.size + 1, o, none⟩ := fun o => HO1.out.frozen (p := ⟨w.heap.size + 1, o, none⟩) (by simp) (by show ¬ w.heap.size + 1 = R; omega)
  have hB1 : ∀ o, w1.cell? ⟨w.heap.size, o, none⟩ = ((w.alloc (.cells #[.int .i64 lv, .int .i64 y, .int .i64 mo, .int .i64 d, .int .i64 h, .int .i64 mi, .int .i64 sc, .int .i64 p, .int .i64 dg, .bool z, .int .i64 zn] 66)).alloc (.cells #[.int .i64 0, .int .i64 0, .int .i64 0, .int .i64 0, .int .i64 0, .int .i64 0, .int .i64 0, .int .i64 0, .int .i64 0, .bool false, .int .i64 0] 66)).cell? ⟨w.heap.size, o, none⟩ := fun o => HO1.out.cell (p := ⟨w.heap.size, o, none⟩) (by simp; omega) (by show ¬ w.heap.size = R; omega)
  have hA1 : ∀ o, w1.frozen? ⟨w.heap.size, o, none⟩ = ((w.alloc (.cells #[.int .i64 lv, .int .i64 y, .int .i64 mo, .int .i64 d, .int .i64 h, .int .i64 mi, .int .i64 sc, .int .i64 p, .int .i64 dg, .bool z, .int .i64 zn] 66)).alloc (.cells #[.int .i64 0, .int .i64 0, .int .i64 0, .int .i64 0, .int .i64 0, .int .i64 0, .int .i64 0, .int .i64 0, .int .i64 0, .bool false, .int .i64 0] 66)).frozen? ⟨w.heap.size, o, none⟩ := fun o => HO1.out.frozen (p := ⟨w.heap.size, o, none⟩) (by simp; omega) (by show ¬ w.heap.size = R; omega)
  obtain ⟨rfl, rfl⟩ := t1 rfl
  clear r1 o1
  go_wp2_with fail
  refine (rnumber_any 2 0 99 _ HR1.out (by omega) HY.out).mono ?_
  rintro e w2 ⟨n2, p2, rfl, r2, t2, o2⟩
  have HO2 : Hid (Off (· = R) ((w.alloc (.cells #[.int .i64 lv, .int .i64 y, .int .i64 mo, .int .i64 d, .int .i64 h, .int .i64 mi, .int .i64 sc, .int .i64 p, .int .i64 dg, .bool z, .int .i64 zn] 66)).alloc (.cells #[.int .i64 0, .int .i64 0, .int .i64 0, .int .i64 0, .int .i64 0, .int .i64 0, .int .i64 0, .int .i64 0, .int .i64 0, .bool false, .int .i64 0] 66)) w2) := HO1.out.trans o2
  have HR2 : Hid (RRd w2 R s p2 (none)) := r2
  clear hG1 hF1 hB1 hA1
  have hG2 : ∀ o, w2.cell? ⟨w.heap.size + 1, o, none⟩ = ((w.alloc (.cells #[.int .i64 lv, .int .i64 y, .int .i64 mo, .int .i64 d, .int .i64 h, .int .i64 mi, .int .i64 sc, .int .i64 p, .int .i64 dg, .bool z, .int .i64 zn] 66)).alloc (.cells #[.int .i64 0, .int .i64 0, .int .i64 0, .int .i64 0, .int .i64 0, .int .i64 0, .int .i64 0, .int .i64 0, .int .i64 0, .bool false, .int .i64 0] 66)).cell? ⟨w.heap.size + 1, o, none⟩ := fun o => HO2.out.cell (p := ⟨w.heap.size + 1, o, none⟩) (by simp) (by show ¬ w.heap.size + 1 = R; omega)
  have hF2 : ∀ o, w2.frozen? ⟨w.heap.size + 1, o, none⟩ = ((w.alloc (.cells #[.int .i64 lv, .int .i64 y, .int .i64 mo, .int .i64 d, .int .i64 h, .int .i64 mi, .int .i64 sc, .int .i64 p, .int .i64 dg, .bool z, .int .i64 zn] 66)).alloc (.cells #[.int .i64 0, .int .i64 0, .int .i64 0, .int .i64 0, .int .i64 0, .int .i64 0, .int .i64 0, .int .i64 0, .int .i64 0, .bool false, .int .i64 0] 66)).frozen? ⟨w.heap.size + 1, o, none⟩ := fun o => HO2.out.frozen (p := ⟨w.heap.size + 1, o, none⟩) (by simp) (by show ¬ w.heap.size + 1 = R; omega)
  have hB2 : ∀ o, w2.cell? ⟨w.heap.size, o, none⟩ = ((w.alloc (.cells #[.int .i64 lv, .int .i64 y, .int .i64 mo, .int .i64 d, .int .i64 h, .int .i64 mi, .int .i64 sc, .int .i64 p, .int .i64 dg, .bool z, .int .i64 zn] 66)).alloc (.cells #[.int .i64 0, .int .i64 0, .int .i64 0, .int .i64 0, .int .i64 0, .int .i64 0, .int .i64 0, .int .i64 0, .int .i64 0, .bool false, .int .i64 0] 66)).cell? ⟨w.heap.size, o, none⟩ := fun o => HO2.out.cell (p := ⟨w.heap.size, o, none⟩) (by simp; omega) (by show ¬ w.heap.size = R; omega)
  have hA2 : ∀ o, w2.frozen? ⟨w.heap.size, o, none⟩ = ((w.alloc (.cells #[.int .i64 lv, .int .i64 y, .int .i64 mo, .int .i64 d, .int .i64 h, .int .i64 mi, .int .i64 sc, .int .i64 p, .int .i64 dg, .bool z, .int .i64 zn] 66)).alloc (.cells #[.int .i64 0, .int .i64 0, .int .i64 0, .int .i64 0, .int .i64 0, .int .i64 0, .int .i64 0, .int .i64 0, .int .i64 0, .bool false, .int .i64 0] 66)).frozen? ⟨w.heap.size, o, none⟩ := fun o => HO2.out.frozen (p := ⟨w.heap.size, o, none⟩) (by simp; omega) (by show ¬ w.heap.size = R; omega)
  obtain ⟨rfl, rfl⟩ := t2 rfl
  clear r2 o2
  have k2 := HR2.out.bad_none
  go_wp2_with fail
  refine (rfault_any a _ HR2.out).mono ?_
  rintro e w3 ⟨rfl, r3, o3⟩
  have HO3 : Hid (Off (· = R) ((w.alloc (.cells #[.int .i64 lv, .int .i64 y, .int .i64 mo, .int .i64 d, .int .i64 h, .int .i64 mi, .int .i64 sc, .int .i64 p, .int .i64 dg, .bool z, .int .i64 zn] 66)).alloc (.cells #[.int .i64 0, .int .i64 0, .int .i64 0, .int .i64 0, .int .i64 0, .int .i64 0, .int .i64 0, .int .i64 0, .int .i64 0, .bool false, .int .i64 0] 66)) w3) := HO2.out.trans o3
  have HR3 : Hid (RRd w3 R s p2 (some a)) := r3
  clear r3 o3
  clear hG2 hF2 hB2 hA2
  have hG3 : ∀ o, w3.cell? ⟨w.heap.size + 1, o, none⟩ = ((w.alloc (.cells #[.int .i64 lv, .int .i64 y, .int .i64 mo, .int .i64 d, .int .i64 h, .int .i64 mi, .int .i64 sc, .int .i64 p, .int .i64 dg, .bool z, .int .i64 zn] 66)).alloc (.cells #[.int .i64 0, .int .i64 0, .int .i64 0, .int .i64 0, .int .i64 0, .int .i64 0, .int .i64 0, .int .i64 0, .int .i64 0, .bool false, .int .i64 0] 66)).cell? ⟨w.heap.size + 1, o, none⟩ := fun o => HO3.out.cell (p := ⟨w.heap.size + 1, o, none⟩) (by simp) (by show ¬ w.heap.size + 1 = R; omega)
  have hF3 : ∀ o, w3.frozen? ⟨w.heap.size + 1, o, none⟩ = ((w.alloc (.cells #[.int .i64 lv, .int .i64 y, .int .i64 mo, .int .i64 d, .int .i64 h, .int .i64 mi, .int .i64 sc, .int .i64 p, .int .i64 dg, .bool z, .int .i64 zn] 66)).alloc (.cells #[.int .i64 0, .int .i64 0, .int .i64 0, .int .i64 0, .int .i64 0, .int .i64 0, .int .i64 0, .int .i64 0, .int .i64 0, .bool false, .int .i64 0] 66)).frozen? ⟨w.heap.size + 1, o, none⟩ := fun o => HO3.out.frozen (p := ⟨w.heap.size + 1, o, none⟩) (by simp) (by show ¬ w.heap.size + 1 = R; omega)
  have hB3 : ∀ o, w3.cell? ⟨w.heap.size, o, none⟩ = ((w.alloc (.cells #[.int .i64 lv, .int .i64 y, .int .i64 mo, .int .i64 d, .int .i64 h, .int .i64 mi, .int .i64 sc, .int .i64 p, .int .i64 dg, .bool z, .int .i64 zn] 66)).alloc (.cells #[.int .i64 0, .int .i64 0, .int .i64 0, .int .i64 0, .int .i64 0, .int .i64 0, .int .i64 0, .int .i64 0, .int .i64 0, .bool false, .int .i64 0] 66)).cell? ⟨w.heap.size, o, none⟩ := fun o => HO3.out.cell (p := ⟨w.heap.size, o, none⟩) (by simp; omega) (by show ¬ w.heap.size = R; omega)
  have hA3 : ∀ o, w3.frozen? ⟨w.heap.size, o, none⟩ = ((w.alloc (.cells #[.int .i64 lv, .int .i64 y, .int .i64 mo, .int .i64 d, .int .i64 h, .int .i64 mi, .int .i64 sc, .int .i64 p, .int .i64 dg, .bool z, .int .i64 zn] 66)).alloc (.cells #[.int .i64 0, .int .i64 0, .int .i64 0, .int .i64 0, .int .i64 0, .int .i64 0, .int .i64 0, .int .i64 0, .int .i64 0, .bool false, .int .i64 0] 66)).frozen? ⟨w.heap.size, o, none⟩ := fun o => HO3.out.frozen (p := ⟨w.heap.size, o, none⟩) (by simp; omega) (by show ¬ w.heap.size = R; omega)
  go_wp2_with fail
  refine bodyPost_ret (v := .agg #[.int .i64 lv, .int .i64 y, .int .i64 mo, .int .i64 d, .int .i64 h, .int .i64 mi, .int .i64 sc, .int .i64 p, .int .i64 dg, .bool true, .int .i64 (60 * n1 + n2)]) (by simp [results, Tryz.results57, go_sem, hG3, World.cell?_setCell_other]) rfl ⟨true, 60 * n1 + n2, p2, rfl, ?_, ?_⟩
  · exact HR3.out.off (off_set11 (P := fun k => k = w.heap.size ∨ k = w.heap.size + 1) (((Off.refl _ _).setCell (p := ⟨w.heap.size, 9, none⟩) (Or.inl rfl) _).setCell (p := ⟨w.heap.size, 10, none⟩) (Or.inl rfl) _) (Or.inr rfl) _ _ _ _ _ _ _ _ _ _ _) (by show ¬ (R = w.heap.size ∨ R = w.heap.size + 1); omega)
  · exact off_new11 ((((((Off.refl (· = R) w).alloc _).alloc _).trans HO3.out).setNew (p := ⟨w.heap.size, 9, none⟩) (Nat.le_refl _) _).setNew (p := ⟨w.heap.size, 10, none⟩) (Nat.le_refl _) _) (Nat.le_succ _) _ _ _ _ _ _ _ _ _ _ _

set_option maxHeartbeats 2000000 in
theorem rzone_p_big {R : Nat} {s : ByteArray} {a : Nat} {lv y mo d h mi sc p dg zn : Int} {z : Bool} {hh mm : Int} {a1 a2 : Nat} (w : World) (hr : RRd w R s a none) (hc : ahd s a none = 43) (hx : numS s 2 0 99 (a + 1) none = (hh, a1, none)) (hy : numS s 2 0 99 a1 none = (mm, a2, none)) (g1 : ¬ 59 < mm) (g2 : 840 < 60 * hh + mm) :
    Calls Tryz.prog 57 #[.pointer (some ⟨R, 0, none⟩), .agg #[.int .i64 lv, .int .i64 y, .int .i64 mo, .int .i64 d, .int .i64 h, .int .i64 mi, .int .i64 sc, .int .i64 p, .int .i64 dg, .bool z, .int .i64 zn]] w fun e w' => ∃ (z' : Bool) (zn' : Int) (a' : Nat), e = .returned (.agg #[.int .i64 lv, .int .i64 y, .int .i64 mo, .int .i64 d, .int .i64 h, .int .i64 mi, .int .i64 sc, .int .i64 p, .int .i64 dg, .bool (z'), .int .i64 (zn')]) ∧ RRd w' R s a' (some a) ∧  Off (· = R) w w' := by
  have hR : R < w.heap.size := cell_lt hr.text
  have hl : a < s.size := (sign_in (Or.inl hc)).2
  have hs : s.size ≤ maxLen := hr.fit
  unfold maxLen at hs
  have c1 := hr.at_
  have f1 := hr.fr1
  have HR : Hid (RRd ((w.alloc (.cells #[.int .i64 lv, .int .i64 y, .int .i64 mo, .int .i64 d, .int .i64 h, .int .i64 mi, .int .i64 sc, .int .i64 p, .int .i64 dg, .bool z, .int .i64 zn] 66)).alloc (.cells #[.int .i64 0, .int .i64 0, .int .i64 0, .int .i64 0, .int .i64 0, .int .i64 0, .int .i64 0, .int .i64 0, .int .i64 0, .bool false, .int .i64 0] 66)) R s a none) := (hr.alloc _).alloc _
  have c1' : ((w.alloc (.cells #[.int .i64 lv, .int .i64 y, .int .i64 mo, .int .i64 d, .int .i64 h, .int .i64 mi, .int .i64 sc, .int .i64 p, .int .i64 dg, .bool z, .int .i64 zn] 66)).alloc (.cells #[.int .i64 0, .int .i64 0, .int .i64 0, .int .i64 0, .int .i64 0, .int .i64 0, .int .i64 0, .int .i64 0, .int .i64 0, .bool false, .int .i64 0] 66)).cell? ⟨R, 1, none⟩ = some (.int .i64 a) := HR.out.at_
  have f1' : ((w.alloc (.cells #[.int .i64 lv, .int .i64 y, .int .i64 mo, .int .i64 d, .int .i64 h, .int .i64 mi, .int .i64 sc, .int .i64 p, .int .i64 dg, .bool z, .int .i64 zn] 66)).alloc (.cells #[.int .i64 0, .int .i64 0, .int .i64 0, .int .i64 0, .int .i64 0, .int .i64 0, .int .i64 0, .int .i64 0, .int .i64 0, .bool false, .int .i64 0] 66)).frozen? ⟨R, 1, none⟩ = false := HR.out.fr1
  have HP : Hid ((ahd s a none == 43) = true) := by unfold Hid; rw [hc]; rfl
  have HM : Hid ((ahd s a none == 45) = false) := by unfold Hid; rw [hc]; rfl
  have HX : Hid (numS s 2 0 99 (a + 1) none = (hh, a1, none)) := hx
  have HY : Hid (numS s 2 0 99 a1 none = (mm, a2, none)) := hy
  have bb1 := num_none (s := s) (width := 2) (a := a + 1) (lo := 0) (hi := 99) (bad := none) (by rw [hx])
  have bb2 := num_none (s := s) (width := 2) (a := a1) (lo := 0) (hi := 99) (bad := none) (by rw [hy])
  rw [hx] at bb1
  rw [hy] at bb2
  simp only at bb1 bb2
  clear hr hc hx hy
  go_enter Tryz.func57, Tryz.ntmps57
  go_wp2_with fail
  refine (ris_any 43 _ HR.out (by omega) (by omega)).mono ?_
  rintro e v1 ⟨he, m1, rfl⟩
  rw [HP.out] at he
  subst he
  go_wp2_with fail
  refine (ris_any 45 _ (HR.out.drewN m1) (by omega) (by omega)).mono ?_
  rintro e v2 ⟨he, m2, rfl⟩
  rw [HM.out] at he
  subst he
  go_wp2_with fail
  refine (rnumber_any 2 0 99 _ ((HR.out.drewN (m1 + m2)).moved hl) (by omega) HX.out).mono ?_
  rintro e w1 ⟨n1, p1, rfl, r1, t1, o1⟩
  have HO1 : Hid (Off (· = R) ((w.alloc (.cells #[.int .i64 lv, .int .i64 y, .int .i64 mo, .int .i64 d, .int .i64 h, .int .i64 mi, .int .i64 sc, .int .i64 p, .int .i64 dg, .bool z, .int .i64 zn] 66)).alloc (.cells #[.int .i64 0, .int .i64 0, .int .i64 0, .int .i64 0, .int .i64 0, .int .i64 0, .int .i64 0, .int .i64 0, .int .i64 0, .bool false, .int .i64 0] 66)) w1) := (((Off.refl (· = R) _).drewN (m1 + m2)).setCell (p := ⟨R, 1, none⟩) rfl _).trans o1
  have HR1 : Hid (RRd w1 R s p1 (none)) := r1
  have hG1 : ∀ o, w1.cell? ⟨w.heap.size + 1, o, none⟩ = ((w.alloc (.cells #[.int .i64 lv, .int .i64 y, .int .i64 mo, .int .i64 d, .int .i64 h, .int .i64 mi, .int .i64 sc, .int .i64 p, .int .i64 dg, .bool z, .int .i64 zn] 66)).alloc (.cells #[.int .i64 0, .int .i64 0, .int .i64 0, .int .i64 0, .int .i64 0, .int .i64 0, .int .i64 0, .int .i64 0, .int .i64 0, .bool false, .int .i64 0] 66)).cell? ⟨w.heap.size + 1, o, none⟩ := fun o => HO1.out.cell (p := ⟨w.heap.size + 1, o, none⟩) (by simp) (by show ¬ w.heap.size + 1 = R; omega)
  have hF1 : ∀ o, w1.frozen? ⟨w.heap.size + 1, o, none⟩ = ((w.alloc (.cells #[.int .i64 lv, .int .i64 y, .int .i64 mo, .int .i64 d, .int .i64 h, .int .i64 mi, .int .i64 sc, .int .i64 p, .int .i64 dg, .bool z, .int .i64 zn] 66)).alloc (.cells #[.int .i64 0, .int .i64 0, .int .i64 0, .int .i64 0, .int .i64 0, .int .i64 0, .int .i64 0, .int .i64 0, .int .i64 0, .bool false, .int .i64 0] 66)).frozen? ⟨w.heap.size + 1, o, none⟩ := fun o => HO1.out.frozen (p := ⟨w.heap.size + 1, o, none⟩) (by simp) (by show ¬ w.heap.size + 1 = R; omega)
  have hB1 : ∀ o, w1.cell? ⟨w.heap.size, o, none⟩ = ((w.alloc (.cells #[.int .i64 lv, .int .i64 y, .int .i64 mo, .int .i64 d, .int .i64 h, .int .i64 mi, .int .i64 sc, .int .i64 p, .int .i64 dg, .bool z, .int .i64 zn] 66)).alloc (.cells #[.int .i64 0, .int .i64 0, .int .i64 0, .int .i64 0, .int .i64 0, .int .i64 0, .int .i64 0, .int .i64 0, .int .i64 0, .bool false, .int .i64 0] 66)).cell? ⟨w.heap.size, o, none⟩ := fun o => HO1.out.cell (p := ⟨w.heap.size, o, none⟩) (by simp; omega) (by show ¬ w.heap.size = R; omega)
  have hA1 : ∀ o, w1.frozen? ⟨w.heap.size, o, none⟩ = ((w.alloc (.cells #[.int .i64 lv, .int .i64 y, .int .i64 mo, .int .i64 d, .int .i64 h, .int .i64 mi, .int .i64 sc, .int .i64 p, .int .i64 dg, .bool z, .int .i64 zn] 66)).alloc (.cells #[.int .i64 0, .int .i64 0, .int .i64 0, .int .i64 0, .int .i64 0, .int .i64 0, .int .i64 0, .int .i64 0, .int .i64 0, .bool false, .int .i64 0] 66)).frozen? ⟨w.heap.size, o, none⟩ := fun o => HO1.out.frozen (p := ⟨w.heap.size, o, none⟩) (by simp; omega) (by show ¬ w.heap.size = R; omega)
  obtain ⟨rfl, rfl⟩ := t1 rfl
  clear r1 o1
  go_wp2_with fail
  refine (rnumber_any 2 0 99 _ HR1.out (by omega) HY.out).mono ?_
  rintro e w2 ⟨n2, p2, rfl, r2, t2, o2⟩
  have HO2 : Hid (Off (· = R) ((w.alloc (.cells #[.int .i64 lv, .int .i64 y, .int .i64 mo, .int .i64 d, .int .i64 h, .int .i64 mi, .int .i64 sc, .int .i64 p, .int .i64 dg, .bool z, .int .i64 zn] 66)).alloc (.cells #[.int .i64 0, .int .i64 0, .int .i64 0, .int .i64 0, .int .i64 0, .int .i64 0, .int .i64 0, .int .i64 0, .int .i64 0, .bool false, .int .i64 0] 66)) w2) := HO1.out.trans o2
  have HR2 : Hid (RRd w2 R s p2 (none)) := r2
  clear hG1 hF1 hB1 hA1
  have hG2 : ∀ o, w2.cell? ⟨w.heap.size + 1, o, none⟩ = ((w.alloc (.cells #[.int .i64 lv, .int .i64 y, .int .i64 mo, .int .i64 d, .int .i64 h, .int .i64 mi, .int .i64 sc, .int .i64 p, .int .i64 dg, .bool z, .int .i64 zn] 66)).alloc (.cells #[.int .i64 0, .int .i64 0, .int .i64 0, .int .i64 0, .int .i64 0, .int .i64 0, .int .i64 0, .int .i64 0, .int .i64 0, .bool false, .int .i64 0] 66)).cell? ⟨w.heap.size + 1, o, none⟩ := fun o => HO2.out.cell (p := ⟨w.heap.size + 1, o, none⟩) (by simp) (by show ¬ w.heap.size + 1 = R; omega)
  have hF2 : ∀ o, w2.frozen? ⟨w.heap.size + 1, o, none⟩ = ((w.alloc (.cells #[.int .i64 lv, .int .i64 y, .int .i64 mo, .int .i64 d, .int .i64 h, .int .i64 mi, .int .i64 sc, .int .i64 p, .int .i64 dg, .bool z, .int .i64 zn] 66)).alloc (.cells #[.int .i64 0, .int .i64 0, .int .i64 0, .int .i64 0, .int .i64 0, .int .i64 0, .int .i64 0, .int .i64 0, .int .i64 0, .bool false, .int .i64 0] 66)).frozen? ⟨w.heap.size + 1, o, none⟩ := fun o => HO2.out.frozen (p := ⟨w.heap.size + 1, o, none⟩) (by simp) (by show ¬ w.heap.size + 1 = R; omega)
  have hB2 : ∀ o, w2.cell? ⟨w.heap.size, o, none⟩ = ((w.alloc (.cells #[.int .i64 lv, .int .i64 y, .int .i64 mo, .int .i64 d, .int .i64 h, .int .i64 mi, .int .i64 sc, .int .i64 p, .int .i64 dg, .bool z, .int .i64 zn] 66)).alloc (.cells #[.int .i64 0, .int .i64 0, .int .i64 0, .int .i64 0, .int .i64 0, .int .i64 0, .int .i64 0, .int .i64 0, .int .i64 0, .bool false, .int .i64 0] 66)).cell? ⟨w.heap.size, o, none⟩ := fun o => HO2.out.cell (p := ⟨w.heap.size, o, none⟩) (by simp; omega) (by show ¬ w.heap.size = R; omega)
  have hA2 : ∀ o, w2.frozen? ⟨w.heap.size, o, none⟩ = ((w.alloc (.cells #[.int .i64 lv, .int .i64 y, .int .i64 mo, .int .i64 d, .int .i64 h, .int .i64 mi, .int .i64 sc, .int .i64 p, .int .i64 dg, .bool z, .int .i64 zn] 66)).alloc (.cells #[.int .i64 0, .int .i64 0, .int .i64 0, .int .i64 0, .int .i64 0, .int .i64 0, .int .i64 0, .int .i64 0, .int .i64 0, .bool false, .int .i64 0] 66)).frozen? ⟨w.heap.size, o, none⟩ := fun o => HO2.out.frozen (p := ⟨w.heap.size, o, none⟩) (by simp; omega) (by show ¬ w.heap.size = R; omega)
  obtain ⟨rfl, rfl⟩ := t2 rfl
  clear r2 o2
  have k2 := HR2.out.bad_none
  go_wp2_with fail
  refine (rfault_any a _ HR2.out).mono ?_
  rintro e w3 ⟨rfl, r3, o3⟩
  have HO3 : Hid (Off (· = R) ((w.alloc (.cells #[.int .i64 lv, .int .i64 y, .int .i64 mo, .int .i64 d, .int .i64 h, .int .i64 mi, .int .i64 sc, .int .i64 p, .int .i64 dg, .bool z, .int .i64 zn] 66)).alloc (.cells #[.int .i64 0, .int .i64 0, .int .i64 0, .int .i64 0, .int .i64 0, .int .i64 0, .int .i64 0, .int .i64 0, .int .i64 0, .bool false, .int .i64 0] 66)) w3) := HO2.out.trans o3
  have HR3 : Hid (RRd w3 R s p2 (some a)) := r3
  clear r3 o3
  clear hG2 hF2 hB2 hA2
  have hG3 : ∀ o, w3.cell? ⟨w.heap.size + 1, o, none⟩ = ((w.alloc (.cells #[.int .i64 lv, .int .i64 y, .int .i64 mo, .int .i64 d, .int .i64 h, .int .i64 mi, .int .i64 sc, .int .i64 p, .int .i64 dg, .bool z, .int .i64 zn] 66)).alloc (.cells #[.int .i64 0, .int .i64 0, .int .i64 0, .int .i64 0, .int .i64 0, .int .i64 0, .int .i64 0, .int .i64 0, .int .i64 0, .bool false, .int .i64 0] 66)).cell? ⟨w.heap.size + 1, o, none⟩ := fun o => HO3.out.cell (p := ⟨w.heap.size + 1, o, none⟩) (by simp) (by show ¬ w.heap.size + 1 = R; omega)
  have hF3 : ∀ o, w3.frozen? ⟨w.heap.size + 1, o, none⟩ = ((w.alloc (.cells #[.int .i64 lv, .int .i64 y, .int .i64 mo, .int .i64 d, .int .i64 h, .int .i64 mi, .int .i64 sc, .int .i64 p, .int .i64 dg, .bool z, .int .i64 zn] 66)).alloc (.cells #[.int .i64 0, .int .i64 0, .int .i64 0, .int .i64 0, .int .i64 0, .int .i64 0, .int .i64 0, .int .i64 0, .int .i64 0, .bool false, .int .i64 0] 66)).frozen? ⟨w.heap.size + 1, o, none⟩ := fun o => HO3.out.frozen (p := ⟨w.heap.size + 1, o, none⟩) (by simp) (by show ¬ w.heap.size + 1 = R; omega)
  have hB3 : ∀ o, w3.cell? ⟨w.heap.size, o, none⟩ = ((w.alloc (.cells #[.int .i64 lv, .int .i64 y, .int .i64 mo, .int .i64 d, .int .i64 h, .int .i64 mi, .int .i64 sc, .int .i64 p, .int .i64 dg, .bool z, .int .i64 zn] 66)).alloc (.cells #[.int .i64 0, .int .i64 0, .int .i64 0, .int .i64 0, .int .i64 0, .int .i64 0, .int .i64 0, .int .i64 0, .int .i64 0, .bool false, .int .i64 0] 66)).cell? ⟨w.heap.size, o, none⟩ := fun o => HO3.out.cell (p := ⟨w.heap.size, o, none⟩) (by simp; omega) (by show ¬ w.heap.size = R; omega)
  have hA3 : ∀ o, w3.frozen? ⟨w.heap.size, o, none⟩ = ((w.alloc (.cells #[.int .i64 lv, .int .i64 y, .int .i64 mo, .int .i64 d, .int .i64 h, .int .i64 mi, .int .i64 sc, .int .i64 p, .int .i64 dg, .bool z, .int .i64 zn] 66)).alloc (.cells #[.int .i64 0, .int .i64 0, .int .i64 0, .int .i64 0, .int .i64 0, .int .i64 0, .int .i64 0, .int .i64 0, .int .i64 0, .bool false, .int .i64 0] 66)).frozen? ⟨w.heap.size, o, none⟩ := fun o => HO3.out.frozen (p := ⟨w.heap.size, o, none⟩) (by simp; omega) (by show ¬ w.heap.size = R; omega)
  go_wp2_with fail
  refine bodyPost_ret (v := .agg #[.int .i64 lv, .int .i64 y, .int .i64 mo, .int .i64 d, .int .i64 h, .int .i64 mi, .int .i64 sc, .int .i64 p, .int .i64 dg, .bool true, .int .i64 (60 * n1 + n2)]) (by simp [results, Tryz.results57, go_sem, hG3, World.cell?_setCell_other]) rfl ⟨true, 60 * n1 + n2, p2, rfl, ?_, ?_⟩
  · exact HR3.out.off (off_set11 (P := fun k => k = w.heap.size ∨ k = w.heap.size + 1) (((Off.refl _ _).setCell (p := ⟨w.heap.size, 9, none⟩) (Or.inl rfl) _).setCell (p := ⟨w.heap.size, 10, none⟩) (Or.inl rfl) _) (Or.inr rfl) _ _ _ _ _ _ _ _ _ _ _) (by show ¬ (R = w.heap.size ∨ R = w.heap.size + 1); omega)
  · exact off_new11 ((((((Off.refl (· = R) w).alloc _).alloc _).trans HO3.out).setNew (p := ⟨w.heap.size, 9, none⟩) (Nat.le_refl _) _).setNew (p := ⟨w.heap.size, 10, none⟩) (Nat.le_refl _) _) (Nat.le_succ _) _ _ _ _ _ _ _ _ _ _ _
end Go.Proofs.YtphobcobpclioaaGreatDoor
