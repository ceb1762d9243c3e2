/-
  The reference's Reader: date, end; Date.
-/
import Derived.Test.YtphobcobpclioaaGreatDoorRefRd
namespace Go.Proofs.YtphobcobpclioaaGreatDoor
open Go.RowKit

set_option maxHeartbeats 1000000 in
theorem rdate_1 {R : Nat} {s : ByteArray} {a : Nat} {y : Int} {a1 : Nat} {b1 : Option Nat} (w : World) (h : RRd w R s a none) (hx : numS s 4 1 9999 a none = (y, a1, b1)) (hd : isD (ahd s a1 b1) = false) :
    Calls Tryz.prog 54 #[.pointer (some ⟨R, 0, none⟩)] w fun e w' => ∃ (l y' m' d' : Int) (a' : Nat), e = .returned (.agg #[.int .i64 l, .int .i64 (y'), .int .i64 (m'), .int .i64 (d'), .int .i64 0, .int .i64 0, .int .i64 0, .int .i64 0, .int .i64 0, .bool false, .int .i64 0]) ∧ RRd w' R s a' b1 ∧ (b1 = none → a' = a1 ∧ l = 1 ∧ y' = y ∧ m' = 0 ∧ d' = 0) ∧ Off (· = R) w w' := by
  have hR : R < w.heap.size := cell_lt h.text
  have HR : Hid (RRd (w.alloc (.cells #[.int .i64 0, .int .i64 0, .int .i64 0, .int .i64 0, .int .i64 0, .int .i64 0, .int .i64 0, .int .i64 0, .int .i64 0, .bool false, .int .i64 0] 66)) R s a none) := h.alloc _
  have HX : Hid (numS s 4 1 9999 a none = (y, a1, b1)) := hx
  have HD : Hid (isD (ahd s a1 b1) = false) := hd
  clear h hx hd
  go_enter Tryz.func54, Tryz.ntmps54
  go_wp2_with fail
  refine (rnumber_any 4 1 9999 _ HR.out (by omega) HX.out).mono ?_
  rintro e w1 ⟨n1, p1, rfl, r1, q1, o1⟩
  have HR1 : Hid (RRd w1 R s p1 b1) := r1
  have HQ1 : Hid (b1 = none → n1 = y ∧ p1 = a1) := q1
  have hR1 : R < w1.heap.size := cell_lt r1.text
  have HO1 : Hid (Off (· = R) w w1) := ((Off.refl _ w).alloc _).trans o1
  have hz1 : w.heap.size < w1.heap.size := by have := o1.size; simp at this; omega
  have hc : ∀ o, w1.cell? ⟨w.heap.size, o, none⟩ = (w.alloc (.cells #[.int .i64 0, .int .i64 0, .int .i64 0, .int .i64 0, .int .i64 0, .int .i64 0, .int .i64 0, .int .i64 0, .int .i64 0, .bool false, .int .i64 0] 66)).cell? ⟨w.heap.size, o, none⟩ := fun o => o1.cell (p := ⟨w.heap.size, o, none⟩) (by simp) (by show ¬ w.heap.size = R; omega)
  have hf : ∀ o, w1.frozen? ⟨w.heap.size, o, none⟩ = (w.alloc (.cells #[.int .i64 0, .int .i64 0, .int .i64 0, .int .i64 0, .int .i64 0, .int .i64 0, .int .i64 0, .int .i64 0, .int .i64 0, .bool false, .int .i64 0] 66)).frozen? ⟨w.heap.size, o, none⟩ := fun o => o1.frozen (p := ⟨w.heap.size, o, none⟩) (by simp) (by show ¬ w.heap.size = R; omega)
  have HD1 : Hid (isD (ahd s p1 b1) = false) := by
    unfold Hid
    cases b1 with
    | none => rw [(HQ1.out rfl).2]; exact HD.out
    | some q => exact HD.out
  clear r1 o1 q1
  go_wp2_with fail
  refine (more_any _ (HR1.out.alloc _)).mono ?_
  rintro e w2 ⟨he, n, rfl⟩
  rw [HD1.out] at he
  subst he
  go_wp2_with fail
  refine bodyPost_ret (v := .agg #[.int .i64 1, .int .i64 n1, .int .i64 0, .int .i64 0, .int .i64 0, .int .i64 0, .int .i64 0, .int .i64 0, .int .i64 0, .bool false, .int .i64 0]) (by simp [results, Tryz.results54, go_sem, hc, hz1]) rfl ⟨1, n1, 0, 0, p1, rfl, ?_, fun e => ⟨(HQ1.out e).2, rfl, (HQ1.out e).1, rfl, rfl⟩, ?_⟩
  · exact ((HR1.out.alloc (.cells #[.int .i64 1, .int .i64 n1, .int .i64 0, .int .i64 0, .int .i64 0, .int .i64 0, .int .i64 0, .int .i64 0, .int .i64 0, .bool false, .int .i64 0] 66)).drewN n).off (off_set11 (P := (· = w.heap.size)) (Off.refl _ _) rfl _ _ _ _ _ _ _ _ _ _ _) (by show ¬ R = w.heap.size; omega)
  · exact off_new11 ((HO1.out.alloc _).drewN n) (Nat.le_refl _) _ _ _ _ _ _ _ _ _ _ _

set_option maxHeartbeats 2000000 in
theorem rdate_2 {R : Nat} {s : ByteArray} {a : Nat} {y mo : Int} {a1 a2 : Nat} {b1 b2 : Option Nat} (w : World) (h : RRd w R s a none) (hx : numS s 4 1 9999 a none = (y, a1, b1)) (hd : isD (ahd s a1 b1) = true)
    (hy : numS s 2 1 12 a1 b1 = (mo, a2, b2)) (hd2 : isD (ahd s a2 b2) = false) :
    Calls Tryz.prog 54 #[.pointer (some ⟨R, 0, none⟩)] w fun e w' => ∃ (l y' m' d' : Int) (a' : Nat), e = .returned (.agg #[.int .i64 l, .int .i64 (y'), .int .i64 (m'), .int .i64 (d'), .int .i64 0, .int .i64 0, .int .i64 0, .int .i64 0, .int .i64 0, .bool false, .int .i64 0]) ∧ RRd w' R s a' b2 ∧ (b2 = none → a' = a2 ∧ l = 2 ∧ y' = y ∧ m' = mo ∧ d' = 0) ∧ Off (· = R) w w' := by
  have hb1 : b1 = none := (isD_in hd).1
  subst hb1
  have hR : R < w.heap.size := cell_lt h.text
  have HR : Hid (RRd (w.alloc (.cells #[.int .i64 0, .int .i64 0, .int .i64 0, .int .i64 0, .int .i64 0, .int .i64 0, .int .i64 0, .int .i64 0, .int .i64 0, .bool false, .int .i64 0] 66)) R s a none) := h.alloc _
  have HX : Hid (numS s 4 1 9999 a none = (y, a1, none)) := hx
  have HD : Hid (isD (ahd s a1 none) = true) := hd
  have HY : Hid (numS s 2 1 12 a1 none = (mo, a2, b2)) := hy
  have HD2 : Hid (isD (ahd s a2 b2) = false) := hd2
  clear h hx hd hy hd2
  go_enter Tryz.func54, Tryz.ntmps54
  go_wp2_with fail
  refine (rnumber_any 4 1 9999 _ HR.out (by omega) HX.out).mono ?_
  rintro e w1 ⟨n1, p1, rfl, r1, q1, o1⟩
  have HR1 : Hid (RRd w1 R s p1 none) := r1
  obtain ⟨rfl, rfl⟩ := q1 rfl
  have hR1 : R < w1.heap.size := cell_lt r1.text
  have HO1 : Hid (Off (· = R) w w1) := ((Off.refl _ w).alloc _).trans o1
  have hz1 : w.heap.size < w1.heap.size := by have := o1.size; simp at this; omega
  have hc : ∀ o, w1.cell? ⟨w.heap.size, o, none⟩ = (w.alloc (.cells #[.int .i64 0, .int .i64 0, .int .i64 0, .int .i64 0, .int .i64 0, .int .i64 0, .int .i64 0, .int .i64 0, .int .i64 0, .bool false, .int .i64 0] 66)).cell? ⟨w.heap.size, o, none⟩ := fun o => o1.cell (p := ⟨w.heap.size, o, none⟩) (by simp) (by show ¬ w.heap.size = R; omega)
  have hf : ∀ o, w1.frozen? ⟨w.heap.size, o, none⟩ = (w.alloc (.cells #[.int .i64 0, .int .i64 0, .int .i64 0, .int .i64 0, .int .i64 0, .int .i64 0, .int .i64 0, .int .i64 0, .int .i64 0, .bool false, .int .i64 0] 66)).frozen? ⟨w.heap.size, o, none⟩ := fun o => o1.frozen (p := ⟨w.heap.size, o, none⟩) (by simp) (by show ¬ w.heap.size = R; omega)
  have HD1 : Hid (isD (ahd s p1 none) = true) := by
    exact HD.out
  clear r1 o1
  go_wp2_with fail
  refine (more_any _ (HR1.out.alloc _)).mono ?_
  rintro e w2 ⟨he, n, rfl⟩
  rw [HD1.out] at he
  subst he
  go_wp2_with fail
  refine (rnumber_any 2 1 12 _ ((HR1.out.alloc _).drewN n) (by omega) HY.out).mono ?_
  rintro e w3 ⟨n2, p2, rfl, r3, q3, o3⟩
  have HR3 : Hid (RRd w3 R s p2 b2) := r3
  have HQ3 : Hid (b2 = none → n2 = mo ∧ p2 = a2) := q3
  have HO3 : Hid (Off (· = R) w w3) := ((HO1.out.alloc _).drewN n).trans o3
  have hz3 : w1.heap.size < w3.heap.size := by have := o3.size; simp at this; omega
  have hz3' : w.heap.size < w3.heap.size := by omega
  have hc3 : ∀ o, w3.cell? ⟨w.heap.size, o, none⟩ = (w.alloc (.cells #[.int .i64 0, .int .i64 0, .int .i64 0, .int .i64 0, .int .i64 0, .int .i64 0, .int .i64 0, .int .i64 0, .int .i64 0, .bool false, .int .i64 0] 66)).cell? ⟨w.heap.size, o, none⟩ := fun o => by
    rw [o3.cell (p := ⟨w.heap.size, o, none⟩) (by simp; omega) (by show ¬ w.heap.size = R; omega)]
    rw [← hc o]; exact World.cell?_alloc_lt w1 _ ⟨w.heap.size, o, none⟩ hz1
  have hf3 : ∀ o, w3.frozen? ⟨w.heap.size, o, none⟩ = (w.alloc (.cells #[.int .i64 0, .int .i64 0, .int .i64 0, .int .i64 0, .int .i64 0, .int .i64 0, .int .i64 0, .int .i64 0, .int .i64 0, .bool false, .int .i64 0] 66)).frozen? ⟨w.heap.size, o, none⟩ := fun o => by
    rw [o3.frozen (p := ⟨w.heap.size, o, none⟩) (by simp; omega) (by show ¬ w.heap.size = R; omega)]
    rw [← hf o]; exact World.frozen?_alloc_old w1 _ ⟨w.heap.size, o, none⟩ (Nat.ne_of_lt hz1)
  have hs3 : ∀ o, w3.cell? ⟨w1.heap.size, o, none⟩ = (w1.alloc (.cells #[.int .i64 1, .int .i64 n1, .int .i64 0, .int .i64 0, .int .i64 0, .int .i64 0, .int .i64 0, .int .i64 0, .int .i64 0, .bool false, .int .i64 0] 66)).cell? ⟨w1.heap.size, o, none⟩ := fun o =>
    o3.cell (p := ⟨w1.heap.size, o, none⟩) (by simp) (by show ¬ w1.heap.size = R; omega)
  have ht3 : ∀ o, w3.frozen? ⟨w1.heap.size, o, none⟩ = (w1.alloc (.cells #[.int .i64 1, .int .i64 n1, .int .i64 0, .int .i64 0, .int .i64 0, .int .i64 0, .int .i64 0, .int .i64 0, .int .i64 0, .bool false, .int .i64 0] 66)).frozen? ⟨w1.heap.size, o, none⟩ := fun o =>
    o3.frozen (p := ⟨w1.heap.size, o, none⟩) (by simp) (by show ¬ w1.heap.size = R; omega)
  have hne : w.heap.size ≠ w1.heap.size := by omega
  have HR3s : Hid (RRd ((w3.setCell ⟨w1.heap.size, 2, none⟩ (.int .i64 n2)).setCell ⟨w1.heap.size, 0, none⟩ (.int .i64 2)) R s p2 b2) := HR3.out.off (((Off.refl (· = w1.heap.size) w3).setCell (p := ⟨w1.heap.size, 2, none⟩) rfl _).setCell (p := ⟨w1.heap.size, 0, none⟩) rfl _) (by show ¬ R = w1.heap.size; omega)
  have HD3 : Hid (isD (ahd s p2 b2) = false) := by
    unfold Hid
    cases b2 with
    | none => rw [(HQ3.out rfl).2]; exact HD2.out
    | some q => exact HD2.out
  clear r3 o3 q3 hc hf
  go_wp2_with fail
  refine (more_any _ HR3s.out).mono ?_
  rintro e w4 ⟨he, m, rfl⟩
  rw [HD3.out] at he
  subst he
  go_wp2_with fail
  refine bodyPost_ret (v := .agg #[.int .i64 2, .int .i64 n1, .int .i64 n2, .int .i64 0, .int .i64 0, .int .i64 0, .int .i64 0, .int .i64 0, .int .i64 0, .bool false, .int .i64 0]) (by simp [results, Tryz.results54, go_sem, hc3, World.cell?_setCell_other]) rfl ⟨2, n1, n2, 0, p2, rfl, ?_, fun e => ⟨(HQ3.out e).2, rfl, rfl, (HQ3.out e).1, rfl⟩, ?_⟩
  · exact (HR3s.out.drewN m).off (off_set11 (P := (· = w.heap.size)) (Off.refl _ _) rfl _ _ _ _ _ _ _ _ _ _ _) (by show ¬ R = w.heap.size; omega)
  · exact off_new11 (((HO3.out.setNew (p := ⟨w1.heap.size, 2, none⟩) (by show w.heap.size ≤ w1.heap.size; omega) _).setNew (p := ⟨w1.heap.size, 0, none⟩) (by show w.heap.size ≤ w1.heap.size; omega) _).drewN m) (Nat.le_refl _) _ _ _ _ _ _ _ _ _ _ _

theorem two_set' {w1 w3 : World} {y mo : Int} {m : Nat} (h : ∀ o, w3.cell? ⟨w1.heap.size, o, none⟩ = (w1.alloc (.cells #[.int .i64 1, .int .i64 y, .int .i64 0, .int .i64 0, .int .i64 0, .int .i64 0, .int .i64 0, .int .i64 0, .int .i64 0, .bool false, .int .i64 0] 66)).cell? ⟨w1.heap.size, o, none⟩) (o : Nat) :
    (((w3.setCell ⟨w1.heap.size, 2, none⟩ (.int .i64 mo)).setCell ⟨w1.heap.size, 0, none⟩ (.int .i64 2)).drewN m).cell? ⟨w1.heap.size, o, none⟩ = (w1.alloc (.cells #[.int .i64 2, .int .i64 y, .int .i64 mo, .int .i64 0, .int .i64 0, .int .i64 0, .int .i64 0, .int .i64 0, .int .i64 0, .bool false, .int .i64 0] 66)).cell? ⟨w1.heap.size, o, none⟩ := by
  rcases o with _ | _ | _ | o
  · have e : (w3.setCell ⟨w1.heap.size, 2, none⟩ (.int .i64 mo)).cell? ⟨w1.heap.size, 0, none⟩ = some (.int .i64 1) := by simp [World.cell?_setCell_other, h]
    simp [World.cell?_setCell_same _ _ _ e]
  · simp [World.cell?_setCell_other, h]
  · simp [World.cell?_setCell_other, World.cell?_setCell_same _ _ _ (show w3.cell? ⟨w1.heap.size, 2, none⟩ = some (.int .i64 0) by rw [h]; simp)]
  · simp [World.cell?_setCell_other, h]

set_option maxHeartbeats 2000000 in
theorem rdate_3 {R : Nat} {s : ByteArray} {a : Nat} {y mo dd : Int} {a1 a2 a3 : Nat} {b3 : Option Nat} (w : World) (h : RRd w R s a none) (hx : numS s 4 1 9999 a none = (y, a1, none)) (hd : isD (ahd s a1 none) = true)
    (hy : numS s 2 1 12 a1 none = (mo, a2, none)) (hd2 : isD (ahd s a2 none) = true) (y1 : 1 ≤ y) (y2 : y ≤ 9999) (hw : numS s 2 1 (dim y mo) a2 none = (dd, a3, b3)) :
    Calls Tryz.prog 54 #[.pointer (some ⟨R, 0, none⟩)] w fun e w' => ∃ (l y' m' d' : Int) (a' : Nat), e = .returned (.agg #[.int .i64 l, .int .i64 (y'), .int .i64 (m'), .int .i64 (d'), .int .i64 0, .int .i64 0, .int .i64 0, .int .i64 0, .int .i64 0, .bool false, .int .i64 0]) ∧ RRd w' R s a' b3 ∧ (b3 = none → a' = a3 ∧ l = 3 ∧ y' = y ∧ m' = mo ∧ d' = dd) ∧ Off (· = R) w w' := by
  have HW : Hid (numS s 2 1 (dim y mo) a2 none = (dd, a3, b3)) := hw
  have db := dim_bd y mo
  clear hw
  have hR : R < w.heap.size := cell_lt h.text
  have HR : Hid (RRd (w.alloc (.cells #[.int .i64 0, .int .i64 0, .int .i64 0, .int .i64 0, .int .i64 0, .int .i64 0, .int .i64 0, .int .i64 0, .int .i64 0, .bool false, .int .i64 0] 66)) R s a none) := h.alloc _
  have HX : Hid (numS s 4 1 9999 a none = (y, a1, none)) := hx
  have HD : Hid (isD (ahd s a1 none) = true) := hd
  have HY : Hid (numS s 2 1 12 a1 none = (mo, a2, none)) := hy
  have HD2 : Hid (isD (ahd s a2 none) = true) := hd2
  clear h hx hd hy hd2
  go_enter Tryz.func54, Tryz.ntmps54
  go_wp2_with fail
  refine (rnumber_any 4 1 9999 _ HR.out (by omega) HX.out).mono ?_
  rintro e w1 ⟨n1, p1, rfl, r1, q1, o1⟩
  have HR1 : Hid (RRd w1 R s p1 none) := r1
  obtain ⟨rfl, rfl⟩ := q1 rfl
  have hR1 : R < w1.heap.size := cell_lt r1.text
  have HO1 : Hid (Off (· = R) w w1) := ((Off.refl _ w).alloc _).trans o1
  have hz1 : w.heap.size < w1.heap.size := by have := o1.size; simp at this; omega
  have hc : ∀ o, w1.cell? ⟨w.heap.size, o, none⟩ = (w.alloc (.cells #[.int .i64 0, .int .i64 0, .int .i64 0, .int .i64 0, .int .i64 0, .int .i64 0, .int .i64 0, .int .i64 0, .int .i64 0, .bool false, .int .i64 0] 66)).cell? ⟨w.heap.size, o, none⟩ := fun o => o1.cell (p := ⟨w.heap.size, o, none⟩) (by simp) (by show ¬ w.heap.size = R; omega)
  have hf : ∀ o, w1.frozen? ⟨w.heap.size, o, none⟩ = (w.alloc (.cells #[.int .i64 0, .int .i64 0, .int .i64 0, .int .i64 0, .int .i64 0, .int .i64 0, .int .i64 0, .int .i64 0, .int .i64 0, .bool false, .int .i64 0] 66)).frozen? ⟨w.heap.size, o, none⟩ := fun o => o1.frozen (p := ⟨w.heap.size, o, none⟩) (by simp) (by show ¬ w.heap.size = R; omega)
  have HD1 : Hid (isD (ahd s p1 none) = true) := by
    exact HD.out
  clear r1 o1
  go_wp2_with fail
  refine (more_any _ (HR1.out.alloc _)).mono ?_
  rintro e w2 ⟨he, n, rfl⟩
  rw [HD1.out] at he
  subst he
  go_wp2_with fail
  refine (rnumber_any 2 1 12 _ ((HR1.out.alloc _).drewN n) (by omega) HY.out).mono ?_
  rintro e w3 ⟨n2, p2, rfl, r3, q3, o3⟩
  have HR3 : Hid (RRd w3 R s p2 none) := r3
  obtain ⟨rfl, rfl⟩ := q3 rfl
  have HO3 : Hid (Off (· = R) w w3) := ((HO1.out.alloc _).drewN n).trans o3
  have hz3 : w1.heap.size < w3.heap.size := by have := o3.size; simp at this; omega
  have hz3' : w.heap.size < w3.heap.size := by omega
  have hc3 : ∀ o, w3.cell? ⟨w.heap.size, o, none⟩ = (w.alloc (.cells #[.int .i64 0, .int .i64 0, .int .i64 0, .int .i64 0, .int .i64 0, .int .i64 0, .int .i64 0, .int .i64 0, .int .i64 0, .bool false, .int .i64 0] 66)).cell? ⟨w.heap.size, o, none⟩ := fun o => by
    rw [o3.cell (p := ⟨w.heap.size, o, none⟩) (by simp; omega) (by show ¬ w.heap.size = R; omega)]
    rw [← hc o]; exact World.cell?_alloc_lt w1 _ ⟨w.heap.size, o, none⟩ hz1
  have hf3 : ∀ o, w3.frozen? ⟨w.heap.size, o, none⟩ = (w.alloc (.cells #[.int .i64 0, .int .i64 0, .int .i64 0, .int .i64 0, .int .i64 0, .int .i64 0, .int .i64 0, .int .i64 0, .int .i64 0, .bool false, .int .i64 0] 66)).frozen? ⟨w.heap.size, o, none⟩ := fun o => by
    rw [o3.frozen (p := ⟨w.heap.size, o, none⟩) (by simp; omega) (by show ¬ w.heap.size = R; omega)]
    rw [← hf o]; exact World.frozen?_alloc_old w1 _ ⟨w.heap.size, o, none⟩ (Nat.ne_of_lt hz1)
  have hs3 : ∀ o, w3.cell? ⟨w1.heap.size, o, none⟩ = (w1.alloc (.cells #[.int .i64 1, .int .i64 n1, .int .i64 0, .int .i64 0, .int .i64 0, .int .i64 0, .int .i64 0, .int .i64 0, .int .i64 0, .bool false, .int .i64 0] 66)).cell? ⟨w1.heap.size, o, none⟩ := fun o =>
    o3.cell (p := ⟨w1.heap.size, o, none⟩) (by simp) (by show ¬ w1.heap.size = R; omega)
  have ht3 : ∀ o, w3.frozen? ⟨w1.heap.size, o, none⟩ = (w1.alloc (.cells #[.int .i64 1, .int .i64 n1, .int .i64 0, .int .i64 0, .int .i64 0, .int .i64 0, .int .i64 0, .int .i64 0, .int .i64 0, .bool false, .int .i64 0] 66)).frozen? ⟨w1.heap.size, o, none⟩ := fun o =>
    o3.frozen (p := ⟨w1.heap.size, o, none⟩) (by simp) (by show ¬ w1.heap.size = R; omega)
  have hne : w.heap.size ≠ w1.heap.size := by omega
  have HR3s : Hid (RRd ((w3.setCell ⟨w1.heap.size, 2, none⟩ (.int .i64 n2)).setCell ⟨w1.heap.size, 0, none⟩ (.int .i64 2)) R s p2 none) := HR3.out.off (((Off.refl (· = w1.heap.size) w3).setCell (p := ⟨w1.heap.size, 2, none⟩) rfl _).setCell (p := ⟨w1.heap.size, 0, none⟩) rfl _) (by show ¬ R = w1.heap.size; omega)
  have HD3 : Hid (isD (ahd s p2 none) = true) := by
    exact HD2.out
  clear r3 o3 hc hf
  go_wp2_with fail
  refine (more_any _ HR3s.out).mono ?_
  rintro e w4 ⟨he, m, rfl⟩
  rw [HD3.out] at he
  subst he
  go_wp2_with fail
  refine (Days_any _ _ _ (by omega) (by omega)).mono ?_
  rintro e w5 ⟨rfl, rfl⟩
  have HO4 : Hid (Off (· = R) w (((w3.setCell ⟨w1.heap.size, 2, none⟩ (.int .i64 n2)).setCell ⟨w1.heap.size, 0, none⟩ (.int .i64 2)).drewN m)) := ((HO3.out.setNew (p := ⟨w1.heap.size, 2, none⟩) (by show w.heap.size ≤ w1.heap.size; omega) _).setNew (p := ⟨w1.heap.size, 0, none⟩) (by show w.heap.size ≤ w1.heap.size; omega) _).drewN m
  go_wp2_with fail
  refine (rnumber_any 2 1 _ _ (HR3s.out.drewN m) (by omega) HW.out).mono ?_
  rintro e w6 ⟨n3, p3, rfl, r6, q6, o6⟩
  have HR6 : Hid (RRd w6 R s p3 b3) := r6
  have HQ6 : Hid (b3 = none → n3 = dd ∧ p3 = a3) := q6
  have HO6 : Hid (Off (· = R) w w6) := HO4.out.trans o6
  have hz6 : w1.heap.size < w6.heap.size := by have := o6.size; simp at this; omega
  have hc6 : ∀ o, w6.cell? ⟨w.heap.size, o, none⟩ = (w.alloc (.cells #[.int .i64 0, .int .i64 0, .int .i64 0, .int .i64 0, .int .i64 0, .int .i64 0, .int .i64 0, .int .i64 0, .int .i64 0, .bool false, .int .i64 0] 66)).cell? ⟨w.heap.size, o, none⟩ := fun o => by
    rw [o6.cell (p := ⟨w.heap.size, o, none⟩) (by simp; omega) (by show ¬ w.heap.size = R; omega)]
    rw [← hc3 o]; simp [World.cell?_setCell_other]
  have hf6 : ∀ o, w6.frozen? ⟨w.heap.size, o, none⟩ = (w.alloc (.cells #[.int .i64 0, .int .i64 0, .int .i64 0, .int .i64 0, .int .i64 0, .int .i64 0, .int .i64 0, .int .i64 0, .int .i64 0, .bool false, .int .i64 0] 66)).frozen? ⟨w.heap.size, o, none⟩ := fun o => by
    rw [o6.frozen (p := ⟨w.heap.size, o, none⟩) (by simp; omega) (by show ¬ w.heap.size = R; omega)]
    rw [← hf3 o]; simp
  have hs6 : ∀ o, w6.cell? ⟨w1.heap.size, o, none⟩ = (w1.alloc (.cells #[.int .i64 2, .int .i64 n1, .int .i64 n2, .int .i64 0, .int .i64 0, .int .i64 0, .int .i64 0, .int .i64 0, .int .i64 0, .bool false, .int .i64 0] 66)).cell? ⟨w1.heap.size, o, none⟩ := fun o => by
    rw [o6.cell (p := ⟨w1.heap.size, o, none⟩) (by simp; omega) (by show ¬ w1.heap.size = R; omega)]
    exact two_set' hs3 o
  have ht6 : ∀ o, w6.frozen? ⟨w1.heap.size, o, none⟩ = (w1.alloc (.cells #[.int .i64 1, .int .i64 n1, .int .i64 0, .int .i64 0, .int .i64 0, .int .i64 0, .int .i64 0, .int .i64 0, .int .i64 0, .bool false, .int .i64 0] 66)).frozen? ⟨w1.heap.size, o, none⟩ := fun o => by
    rw [o6.frozen (p := ⟨w1.heap.size, o, none⟩) (by simp; omega) (by show ¬ w1.heap.size = R; omega)]
    rw [← ht3 o]; simp
  have HR6s : Hid (RRd ((w6.setCell ⟨w1.heap.size, 3, none⟩ (.int .i64 n3)).setCell ⟨w1.heap.size, 0, none⟩ (.int .i64 3)) R s p3 b3) := HR6.out.off (((Off.refl (· = w1.heap.size) w6).setCell (p := ⟨w1.heap.size, 3, none⟩) rfl _).setCell (p := ⟨w1.heap.size, 0, none⟩) rfl _) (by show ¬ R = w1.heap.size; omega)
  clear r6 o6 q6 hc3 hf3 hs3 ht3
  go_wp2_with fail
  refine bodyPost_ret (v := .agg #[.int .i64 3, .int .i64 n1, .int .i64 n2, .int .i64 n3, .int .i64 0, .int .i64 0, .int .i64 0, .int .i64 0, .int .i64 0, .bool false, .int .i64 0]) (by simp [results, Tryz.results54, go_sem, hc6, World.cell?_setCell_other]) rfl ⟨3, n1, n2, n3, p3, rfl, ?_, fun e => ⟨(HQ6.out e).2, rfl, rfl, rfl, (HQ6.out e).1⟩, ?_⟩
  · exact HR6s.out.off (off_set11 (P := (· = w.heap.size)) (Off.refl _ _) rfl _ _ _ _ _ _ _ _ _ _ _) (by show ¬ R = w.heap.size; omega)
  · exact off_new11 ((HO6.out.setNew (p := ⟨w1.heap.size, 3, none⟩) (by show w.heap.size ≤ w1.heap.size; omega) _).setNew (p := ⟨w1.heap.size, 0, none⟩) (by show w.heap.size ≤ w1.heap.size; omega) _) (Nat.le_refl _) _ _ _ _ _ _ _ _ _ _ _
end Go.Proofs.YtphobcobpclioaaGreatDoor
