/-
  The program's reader: date.
-/
import Derived.Test.YtphobcobpclioaaGreatDoorRd2
namespace Go.Proofs.YtphobcobpclioaaGreatDoor
open Go.RowKit

theorem Off.setNew {P : Nat → Prop} {a b : World} (h : Off P a b) {p : Addr} (hp : a.heap.size ≤ p.block) (u : Value) : Off P a (b.setCell p u) :=
  ⟨h.os, h.tape, h.output, by simpa using h.size, fun k hk hn => (Below.heap_setCell b p u k (by omega)).trans (h.block k hk hn)⟩
theorem Rdr.alloc {w : World} {R : Nat} {s : ByteArray} {a : Nat} {bad : Option Nat} {v : Value} (h : Rdr w R s a bad v) (o : Obj) : Rdr (w.alloc o) R s a bad v :=
  h.off (P := fun _ => False) ((Off.refl _ _).alloc o) (fun _ _ g => g.elim)
theorem Rdr.offk {w w' : World} {R : Nat} {s : ByteArray} {a : Nat} {bad : Option Nat} {v : Value} (h : Rdr w R s a bad v) {k : Nat} {x : Int} (ho : Off (· = k) w w') (hk : k ≠ R) (h0 : w.cell? ⟨k, 0, none⟩ = some (.int .i64 x)) : Rdr w' R s a bad v := by
  have hl : R < w.heap.size := cell_lt h.text
  refine ⟨by rw [ho.cell (p := ⟨R, 0, none⟩) hl (Ne.symm hk)]; exact h.text, by rw [ho.cell (p := ⟨R, 1, none⟩) hl (Ne.symm hk)]; exact h.at_, by rw [ho.cell (p := ⟨R, 2, none⟩) hl (Ne.symm hk)]; exact h.err, ?_, by rw [ho.frozen (p := ⟨R, 1, none⟩) hl (Ne.symm hk)]; exact h.fr1, by rw [ho.frozen (p := ⟨R, 2, none⟩) hl (Ne.symm hk)]; exact h.fr2, h.in_, h.fit⟩
  have he := h.held
  cases bad with
  | none => exact he
  | some p =>
    obtain ⟨b, hb, hv, hf⟩ := he
    refine ⟨b, hb, hv, faultAt_off hf ho ?_⟩
    intro e
    have e' : b = k := e
    rw [← e', hf.1] at h0; cases h0
theorem off_set11 {P : Nat → Prop} {w w1 : World} {k : Nat} (h : Off P w w1) (hk : P k) (v0 v1 v2 v3 v4 v5 v6 v7 v8 v9 v10 : Value) : Off P w (((((((((((w1.setCell ⟨k, 0, none⟩ v0).setCell ⟨k, 1, none⟩ v1).setCell ⟨k, 2, none⟩ v2).setCell ⟨k, 3, none⟩ v3).setCell ⟨k, 4, none⟩ v4).setCell ⟨k, 5, none⟩ v5).setCell ⟨k, 6, none⟩ v6).setCell ⟨k, 7, none⟩ v7).setCell ⟨k, 8, none⟩ v8).setCell ⟨k, 9, none⟩ v9).setCell ⟨k, 10, none⟩ v10) :=
  (((((((((((h.setCell (p := ⟨k, 0, none⟩) hk _).setCell (p := ⟨k, 1, none⟩) hk _).setCell (p := ⟨k, 2, none⟩) hk _).setCell (p := ⟨k, 3, none⟩) hk _).setCell (p := ⟨k, 4, none⟩) hk _).setCell (p := ⟨k, 5, none⟩) hk _).setCell (p := ⟨k, 6, none⟩) hk _).setCell (p := ⟨k, 7, none⟩) hk _).setCell (p := ⟨k, 8, none⟩) hk _).setCell (p := ⟨k, 9, none⟩) hk _).setCell (p := ⟨k, 10, none⟩) hk _)
theorem off_new11 {P : Nat → Prop} {w w1 : World} {k : Nat} (h : Off P w w1) (hk : w.heap.size ≤ k) (v0 v1 v2 v3 v4 v5 v6 v7 v8 v9 v10 : Value) : Off P w (((((((((((w1.setCell ⟨k, 0, none⟩ v0).setCell ⟨k, 1, none⟩ v1).setCell ⟨k, 2, none⟩ v2).setCell ⟨k, 3, none⟩ v3).setCell ⟨k, 4, none⟩ v4).setCell ⟨k, 5, none⟩ v5).setCell ⟨k, 6, none⟩ v6).setCell ⟨k, 7, none⟩ v7).setCell ⟨k, 8, none⟩ v8).setCell ⟨k, 9, none⟩ v9).setCell ⟨k, 10, none⟩ v10) :=
  (((((((((((h.setNew (p := ⟨k, 0, none⟩) hk _).setNew (p := ⟨k, 1, none⟩) hk _).setNew (p := ⟨k, 2, none⟩) hk _).setNew (p := ⟨k, 3, none⟩) hk _).setNew (p := ⟨k, 4, none⟩) hk _).setNew (p := ⟨k, 5, none⟩) hk _).setNew (p := ⟨k, 6, none⟩) hk _).setNew (p := ⟨k, 7, none⟩) hk _).setNew (p := ⟨k, 8, none⟩) hk _).setNew (p := ⟨k, 9, none⟩) hk _).setNew (p := ⟨k, 10, none⟩) hk _)

/-- A date: its level, year, month, day, the place behind it and the first fault. -/
def dateS (s : ByteArray) (a : Nat) (bad : Option Nat) : Int × Int × Int × Int × Nat × Option Nat :=
  let x := numS s 4 1 9999 a bad
  if isD (ahd s x.2.1 x.2.2) then
    let y := numS s 2 1 12 x.2.1 x.2.2
    if isD (ahd s y.2.1 y.2.2) then
      let z := numS s 2 1 (dinB x.1 y.1) y.2.1 y.2.2
      (3, x.1, y.1, z.1, z.2.1, z.2.2)
    else (2, x.1, y.1, 0, y.2.1, y.2.2)
  else (1, x.1, 0, 0, x.2.1, x.2.2)
theorem or_some (b : Option Nat) (p : Nat) : orB b p ≠ none := by cases b <;> simp [orB]
theorem num_none {s : ByteArray} {width a : Nat} {lo hi : Int} {bad : Option Nat} (h : (numS s width lo hi a bad).2.2 = none) : lo ≤ (numS s width lo hi a bad).1 ∧ (numS s width lo hi a bad).1 ≤ hi := by
  unfold numS at h ⊢
  simp only at h ⊢
  split at h
  · exact inB_iff.1 ‹_›
  · exact absurd h (or_some _ _)

theorem two_set {w1 w3 : World} {y mo : Int} {m : Nat} (h : ∀ o, w3.cell? ⟨w1.heap.size, o, none⟩ = (w1.alloc (.cells #[.int .i64 1, .int .i64 y, .int .i64 0, .int .i64 0, .int .i64 0, .int .i64 0, .int .i64 0, .int .i64 0, .int .i64 0, .bool false, .int .i64 0] 66)).cell? ⟨w1.heap.size, o, none⟩) (o : Nat) :
    (((w3.setCell ⟨w1.heap.size, 0, none⟩ (.int .i64 2)).setCell ⟨w1.heap.size, 2, none⟩ (.int .i64 mo)).drewN m).cell? ⟨w1.heap.size, o, none⟩ = (w1.alloc (.cells #[.int .i64 2, .int .i64 y, .int .i64 mo, .int .i64 0, .int .i64 0, .int .i64 0, .int .i64 0, .int .i64 0, .int .i64 0, .bool false, .int .i64 0] 66)).cell? ⟨w1.heap.size, o, none⟩ := by
  have hh : ∀ q, w3.cell? ⟨w1.heap.size, q, none⟩ = (w1.alloc (.cells #[.int .i64 1, .int .i64 y, .int .i64 0, .int .i64 0, .int .i64 0, .int .i64 0, .int .i64 0, .int .i64 0, .int .i64 0, .bool false, .int .i64 0] 66)).cell? ⟨w1.heap.size, q, none⟩ := h
  rcases o with _ | _ | _ | o
  · simp [World.cell?_setCell_other, World.cell?_setCell_same _ _ _ (show w3.cell? ⟨w1.heap.size, 0, none⟩ = some (.int .i64 1) by rw [hh]; simp)]
  · simp [World.cell?_setCell_other, hh]
  · have e : (w3.setCell ⟨w1.heap.size, 0, none⟩ (.int .i64 2)).cell? ⟨w1.heap.size, 2, none⟩ = some (.int .i64 0) := by simp [World.cell?_setCell_other, hh]
    simp [World.cell?_setCell_same _ _ _ e]
  · simp [World.cell?_setCell_other, hh]
set_option maxHeartbeats 1000000 in
theorem date_1 {R : Nat} {s : ByteArray} {a : Nat} {bad : Option Nat} {v : Value} {y : Int} {a1 : Nat} {b1 : Option Nat} (w : World) (h : Rdr w R s a bad v) (hx : numS s 4 1 9999 a bad = (y, a1, b1)) (hd : isD (ahd s a1 b1) = false) :
    Calls Tryz.prog 64 #[.pointer (some ⟨R, 0, none⟩)] w fun e w' => e = .returned (.agg #[.int .i64 1, .int .i64 y, .int .i64 0, .int .i64 0, .int .i64 0, .int .i64 0, .int .i64 0, .int .i64 0, .int .i64 0, .bool false, .int .i64 0]) ∧ (∃ v', Rdr w' R s a1 b1 v') ∧ Off (· = R) w w' := by
  have hR : R < w.heap.size := cell_lt h.text
  have HR : Hid (Rdr (w.alloc (.cells #[.int .i64 0, .int .i64 0, .int .i64 0, .int .i64 0, .int .i64 0, .int .i64 0, .int .i64 0, .int .i64 0, .int .i64 0, .bool false, .int .i64 0] 66)) R s a bad v) := h.alloc _
  have HX : Hid (numS s 4 1 9999 a bad = (y, a1, b1)) := hx
  have HD : Hid (isD (ahd s a1 b1) = false) := hd
  clear h hx hd
  go_enter Tryz.func64, Tryz.ntmps64
  go_wp2_with fail
  refine (number_any 4 1 9999 _ HR.out (by omega)).mono ?_
  rintro e w1 ⟨he, r1, o1⟩
  rw [HX.out] at he r1
  subst he
  obtain ⟨v1, r1⟩ := r1
  have HR1 : Hid (Rdr w1 R s a1 b1 v1) := r1
  have hR1 : R < w1.heap.size := cell_lt r1.text
  have HO1 : Hid (Off (· = R) w w1) := ((Off.refl _ w).alloc _).trans o1
  have hz1 : w.heap.size < w1.heap.size := by have := o1.size; simp at this; omega
  have hc : ∀ o, w1.cell? ⟨w.heap.size, o, none⟩ = (w.alloc (.cells #[.int .i64 0, .int .i64 0, .int .i64 0, .int .i64 0, .int .i64 0, .int .i64 0, .int .i64 0, .int .i64 0, .int .i64 0, .bool false, .int .i64 0] 66)).cell? ⟨w.heap.size, o, none⟩ := fun o => o1.cell (p := ⟨w.heap.size, o, none⟩) (by simp) (by show ¬ w.heap.size = R; omega)
  have hf : ∀ o, w1.frozen? ⟨w.heap.size, o, none⟩ = (w.alloc (.cells #[.int .i64 0, .int .i64 0, .int .i64 0, .int .i64 0, .int .i64 0, .int .i64 0, .int .i64 0, .int .i64 0, .int .i64 0, .bool false, .int .i64 0] 66)).frozen? ⟨w.heap.size, o, none⟩ := fun o => o1.frozen (p := ⟨w.heap.size, o, none⟩) (by simp) (by show ¬ w.heap.size = R; omega)
  clear r1 o1
  go_wp2_with fail
  refine (digitAhead_any _ (HR1.out.alloc _)).mono ?_
  rintro e w2 ⟨he, n, rfl⟩
  rw [HD.out] at he
  subst he
  go_wp2_with fail
  refine bodyPost_ret (v := .agg #[.int .i64 1, .int .i64 y, .int .i64 0, .int .i64 0, .int .i64 0, .int .i64 0, .int .i64 0, .int .i64 0, .int .i64 0, .bool false, .int .i64 0]) (by simp [results, Tryz.results64, go_sem, hc, hz1]) rfl ⟨rfl, ⟨v1, ?_⟩, ?_⟩
  · exact ((HR1.out.alloc (.cells #[.int .i64 1, .int .i64 y, .int .i64 0, .int .i64 0, .int .i64 0, .int .i64 0, .int .i64 0, .int .i64 0, .int .i64 0, .bool false, .int .i64 0] 66)).drewN n).offk (k := w.heap.size) (x := 0) (off_set11 (P := (· = w.heap.size)) (Off.refl _ _) rfl _ _ _ _ _ _ _ _ _ _ _) (by omega) (by simp [World.cell?_alloc_past, hc, hz1])
  · exact off_new11 ((HO1.out.alloc _).drewN n) (Nat.le_refl _) _ _ _ _ _ _ _ _ _ _ _

set_option maxHeartbeats 2000000 in
theorem date_2 {R : Nat} {s : ByteArray} {a : Nat} {bad : Option Nat} {v : Value} {y mo : Int} {a1 a2 : Nat} {b1 b2 : Option Nat} (w : World) (h : Rdr w R s a bad v) (hx : numS s 4 1 9999 a bad = (y, a1, b1)) (hd : isD (ahd s a1 b1) = true)
    (hy : numS s 2 1 12 a1 b1 = (mo, a2, b2)) (hd2 : isD (ahd s a2 b2) = false) :
    Calls Tryz.prog 64 #[.pointer (some ⟨R, 0, none⟩)] w fun e w' => e = .returned (.agg #[.int .i64 2, .int .i64 y, .int .i64 mo, .int .i64 0, .int .i64 0, .int .i64 0, .int .i64 0, .int .i64 0, .int .i64 0, .bool false, .int .i64 0]) ∧ (∃ v', Rdr w' R s a2 b2 v') ∧ Off (· = R) w w' := by
  have hR : R < w.heap.size := cell_lt h.text
  have HR : Hid (Rdr (w.alloc (.cells #[.int .i64 0, .int .i64 0, .int .i64 0, .int .i64 0, .int .i64 0, .int .i64 0, .int .i64 0, .int .i64 0, .int .i64 0, .bool false, .int .i64 0] 66)) R s a bad v) := h.alloc _
  have HX : Hid (numS s 4 1 9999 a bad = (y, a1, b1)) := hx
  have HD : Hid (isD (ahd s a1 b1) = true) := hd
  have HY : Hid (numS s 2 1 12 a1 b1 = (mo, a2, b2)) := hy
  have HD2 : Hid (isD (ahd s a2 b2) = false) := hd2
  clear h hx hd hy hd2
  go_enter Tryz.func64, Tryz.ntmps64
  go_wp2_with fail
  refine (number_any 4 1 9999 _ HR.out (by omega)).mono ?_
  rintro e w1 ⟨he, r1, o1⟩
  rw [HX.out] at he r1
  subst he
  obtain ⟨v1, r1⟩ := r1
  have HR1 : Hid (Rdr w1 R s a1 b1 v1) := r1
  have hR1 : R < w1.heap.size := cell_lt r1.text
  have HO1 : Hid (Off (· = R) w w1) := ((Off.refl _ w).alloc _).trans o1
  have hz1 : w.heap.size < w1.heap.size := by have := o1.size; simp at this; omega
  have hc : ∀ o, w1.cell? ⟨w.heap.size, o, none⟩ = (w.alloc (.cells #[.int .i64 0, .int .i64 0, .int .i64 0, .int .i64 0, .int .i64 0, .int .i64 0, .int .i64 0, .int .i64 0, .int .i64 0, .bool false, .int .i64 0] 66)).cell? ⟨w.heap.size, o, none⟩ := fun o => o1.cell (p := ⟨w.heap.size, o, none⟩) (by simp) (by show ¬ w.heap.size = R; omega)
  have hf : ∀ o, w1.frozen? ⟨w.heap.size, o, none⟩ = (w.alloc (.cells #[.int .i64 0, .int .i64 0, .int .i64 0, .int .i64 0, .int .i64 0, .int .i64 0, .int .i64 0, .int .i64 0, .int .i64 0, .bool false, .int .i64 0] 66)).frozen? ⟨w.heap.size, o, none⟩ := fun o => o1.frozen (p := ⟨w.heap.size, o, none⟩) (by simp) (by show ¬ w.heap.size = R; omega)
  clear r1 o1
  go_wp2_with fail
  refine (digitAhead_any _ (HR1.out.alloc _)).mono ?_
  rintro e w2 ⟨he, n, rfl⟩
  rw [HD.out] at he
  subst he
  go_wp2_with fail
  refine (number_any 2 1 12 _ ((HR1.out.alloc _).drewN n) (by omega)).mono ?_
  rintro e w3 ⟨he, r3, o3⟩
  rw [HY.out] at he r3
  subst he
  obtain ⟨v3, r3⟩ := r3
  have HR3 : Hid (Rdr w3 R s a2 b2 v3) := r3
  have HO3 : Hid (Off (· = R) w w3) := ((HO1.out.alloc _).drewN n).trans o3
  have hz3 : w1.heap.size < w3.heap.size := by have := o3.size; simp at this; omega
  have hz3' : w.heap.size < w3.heap.size := by omega
  have hc3 : ∀ o, w3.cell? ⟨w.heap.size, o, none⟩ = (w.alloc (.cells #[.int .i64 0, .int .i64 0, .int .i64 0, .int .i64 0, .int .i64 0, .int .i64 0, .int .i64 0, .int .i64 0, .int .i64 0, .bool false, .int .i64 0] 66)).cell? ⟨w.heap.size, o, none⟩ := fun o => by
    rw [o3.cell (p := ⟨w.heap.size, o, none⟩) (by simp; omega) (by show ¬ w.heap.size = R; omega)]
    rw [← hc o]; exact World.cell?_alloc_lt w1 _ ⟨w.heap.size, o, none⟩ hz1
  have hf3 : ∀ o, w3.frozen? ⟨w.heap.size, o, none⟩ = (w.alloc (.cells #[.int .i64 0, .int .i64 0, .int .i64 0, .int .i64 0, .int .i64 0, .int .i64 0, .int .i64 0, .int .i64 0, .int .i64 0, .bool false, .int .i64 0] 66)).frozen? ⟨w.heap.size, o, none⟩ := fun o => by
    rw [o3.frozen (p := ⟨w.heap.size, o, none⟩) (by simp; omega) (by show ¬ w.heap.size = R; omega)]
    rw [← hf o]; exact World.frozen?_alloc_old w1 _ ⟨w.heap.size, o, none⟩ (Nat.ne_of_lt hz1)
  have hs3 : ∀ o, w3.cell? ⟨w1.heap.size, o, none⟩ = (w1.alloc (.cells #[.int .i64 1, .int .i64 y, .int .i64 0, .int .i64 0, .int .i64 0, .int .i64 0, .int .i64 0, .int .i64 0, .int .i64 0, .bool false, .int .i64 0] 66)).cell? ⟨w1.heap.size, o, none⟩ := fun o =>
    o3.cell (p := ⟨w1.heap.size, o, none⟩) (by simp) (by show ¬ w1.heap.size = R; omega)
  have ht3 : ∀ o, w3.frozen? ⟨w1.heap.size, o, none⟩ = (w1.alloc (.cells #[.int .i64 1, .int .i64 y, .int .i64 0, .int .i64 0, .int .i64 0, .int .i64 0, .int .i64 0, .int .i64 0, .int .i64 0, .bool false, .int .i64 0] 66)).frozen? ⟨w1.heap.size, o, none⟩ := fun o =>
    o3.frozen (p := ⟨w1.heap.size, o, none⟩) (by simp) (by show ¬ w1.heap.size = R; omega)
  have hne : w.heap.size ≠ w1.heap.size := by omega
  have HO3s : Hid (Off (· = w1.heap.size) w3 ((w3.setCell ⟨w1.heap.size, 0, none⟩ (.int .i64 2)).setCell ⟨w1.heap.size, 2, none⟩ (.int .i64 mo))) := ((Off.refl (· = w1.heap.size) w3).setCell (p := ⟨w1.heap.size, 0, none⟩) rfl _).setCell (p := ⟨w1.heap.size, 2, none⟩) rfl _
  have HR3s : Hid (Rdr ((w3.setCell ⟨w1.heap.size, 0, none⟩ (.int .i64 2)).setCell ⟨w1.heap.size, 2, none⟩ (.int .i64 mo)) R s a2 b2 v3) := HR3.out.offk (k := w1.heap.size) (x := 1) HO3s.out (by omega) (by simp [hs3])
  clear r3 o3 hc hf
  go_wp2_with fail
  refine (digitAhead_any _ HR3s.out).mono ?_
  rintro e w4 ⟨he, m, rfl⟩
  rw [HD2.out] at he
  subst he
  go_wp2_with fail
  refine bodyPost_ret (v := .agg #[.int .i64 2, .int .i64 y, .int .i64 mo, .int .i64 0, .int .i64 0, .int .i64 0, .int .i64 0, .int .i64 0, .int .i64 0, .bool false, .int .i64 0]) (by simp [results, Tryz.results64, go_sem, hc3, World.cell?_setCell_other]) rfl ⟨rfl, ⟨v3, ?_⟩, ?_⟩
  · exact (HR3s.out.drewN m).offk (k := w.heap.size) (x := 0) (off_set11 (P := (· = w.heap.size)) (Off.refl _ _) rfl _ _ _ _ _ _ _ _ _ _ _) (by omega) (by simp [hc3, World.cell?_setCell_other])
  · exact off_new11 (((HO3.out.setNew (p := ⟨w1.heap.size, 0, none⟩) (by show w.heap.size ≤ w1.heap.size; omega) _).setNew (p := ⟨w1.heap.size, 2, none⟩) (by show w.heap.size ≤ w1.heap.size; omega) _).drewN m) (Nat.le_refl _) _ _ _ _ _ _ _ _ _ _ _

theorem months_off {P : Nat → Prop} {w w' : World} (h : Months w) (ho : Off P w w') (hn : ¬ P 5) : Months w' := by
  obtain ⟨a, b, c, d, e, f, g, i, j, k, l, n⟩ := h
  have hl : 5 < w.heap.size := cell_lt a
  have hc : ∀ q, w'.cell? ⟨5, q, none⟩ = w.cell? ⟨5, q, none⟩ := fun q => ho.cell (p := ⟨5, q, none⟩) hl hn
  unfold Months; simp only [hc]; exact ⟨a, b, c, d, e, f, g, i, j, k, l, n⟩

set_option maxHeartbeats 2000000 in
theorem date_3 {R : Nat} {s : ByteArray} {a : Nat} {bad : Option Nat} {v : Value} {y mo dd : Int} {a1 a2 a3 : Nat} {b1 b2 b3 : Option Nat} (w : World) (h : Rdr w R s a bad v) (hM : Months w) (hRM : R ≠ 5) (hx : numS s 4 1 9999 a bad = (y, a1, b1)) (hd : isD (ahd s a1 b1) = true)
    (hy : numS s 2 1 12 a1 b1 = (mo, a2, b2)) (hd2 : isD (ahd s a2 b2) = true) (y1 : 1 ≤ y) (y2 : y ≤ 9999) (hw : numS s 2 1 (dinB y mo) a2 b2 = (dd, a3, b3)) :
    Calls Tryz.prog 64 #[.pointer (some ⟨R, 0, none⟩)] w fun e w' => e = .returned (.agg #[.int .i64 3, .int .i64 y, .int .i64 mo, .int .i64 dd, .int .i64 0, .int .i64 0, .int .i64 0, .int .i64 0, .int .i64 0, .bool false, .int .i64 0]) ∧ (∃ v', Rdr w' R s a3 b3 v') ∧ Off (· = R) w w' := by
  have HW : Hid (numS s 2 1 (dinB y mo) a2 b2 = (dd, a3, b3)) := hw
  have HM : Hid (Months w ∧ R ≠ 5) := ⟨hM, hRM⟩
  have db := din_bd y mo
  clear hw hM hRM
  have hR : R < w.heap.size := cell_lt h.text
  have HR : Hid (Rdr (w.alloc (.cells #[.int .i64 0, .int .i64 0, .int .i64 0, .int .i64 0, .int .i64 0, .int .i64 0, .int .i64 0, .int .i64 0, .int .i64 0, .bool false, .int .i64 0] 66)) R s a bad v) := h.alloc _
  have HX : Hid (numS s 4 1 9999 a bad = (y, a1, b1)) := hx
  have HD : Hid (isD (ahd s a1 b1) = true) := hd
  have HY : Hid (numS s 2 1 12 a1 b1 = (mo, a2, b2)) := hy
  have HD2 : Hid (isD (ahd s a2 b2) = true) := hd2
  clear h hx hd hy hd2
  go_enter Tryz.func64, Tryz.ntmps64
  go_wp2_with fail
  refine (number_any 4 1 9999 _ HR.out (by omega)).mono ?_
  rintro e w1 ⟨he, r1, o1⟩
  rw [HX.out] at he r1
  subst he
  obtain ⟨v1, r1⟩ := r1
  have HR1 : Hid (Rdr w1 R s a1 b1 v1) := r1
  have hR1 : R < w1.heap.size := cell_lt r1.text
  have HO1 : Hid (Off (· = R) w w1) := ((Off.refl _ w).alloc _).trans o1
  have hz1 : w.heap.size < w1.heap.size := by have := o1.size; simp at this; omega
  have hc : ∀ o, w1.cell? ⟨w.heap.size, o, none⟩ = (w.alloc (.cells #[.int .i64 0, .int .i64 0, .int .i64 0, .int .i64 0, .int .i64 0, .int .i64 0, .int .i64 0, .int .i64 0, .int .i64 0, .bool false, .int .i64 0] 66)).cell? ⟨w.heap.size, o, none⟩ := fun o => o1.cell (p := ⟨w.heap.size, o, none⟩) (by simp) (by show ¬ w.heap.size = R; omega)
  have hf : ∀ o, w1.frozen? ⟨w.heap.size, o, none⟩ = (w.alloc (.cells #[.int .i64 0, .int .i64 0, .int .i64 0, .int .i64 0, .int .i64 0, .int .i64 0, .int .i64 0, .int .i64 0, .int .i64 0, .bool false, .int .i64 0] 66)).frozen? ⟨w.heap.size, o, none⟩ := fun o => o1.frozen (p := ⟨w.heap.size, o, none⟩) (by simp) (by show ¬ w.heap.size = R; omega)
  clear r1 o1
  go_wp2_with fail
  refine (digitAhead_any _ (HR1.out.alloc _)).mono ?_
  rintro e w2 ⟨he, n, rfl⟩
  rw [HD.out] at he
  subst he
  go_wp2_with fail
  refine (number_any 2 1 12 _ ((HR1.out.alloc _).drewN n) (by omega)).mono ?_
  rintro e w3 ⟨he, r3, o3⟩
  rw [HY.out] at he r3
  subst he
  obtain ⟨v3, r3⟩ := r3
  have HR3 : Hid (Rdr w3 R s a2 b2 v3) := r3
  have HO3 : Hid (Off (· = R) w w3) := ((HO1.out.alloc _).drewN n).trans o3
  have hz3 : w1.heap.size < w3.heap.size := by have := o3.size; simp at this; omega
  have hz3' : w.heap.size < w3.heap.size := by omega
  have hc3 : ∀ o, w3.cell? ⟨w.heap.size, o, none⟩ = (w.alloc (.cells #[.int .i64 0, .int .i64 0, .int .i64 0, .int .i64 0, .int .i64 0, .int .i64 0, .int .i64 0, .int .i64 0, .int .i64 0, .bool false, .int .i64 0] 66)).cell? ⟨w.heap.size, o, none⟩ := fun o => by
    rw [o3.cell (p := ⟨w.heap.size, o, none⟩) (by simp; omega) (by show ¬ w.heap.size = R; omega)]
    rw [← hc o]; exact World.cell?_alloc_lt w1 _ ⟨w.heap.size, o, none⟩ hz1
  have hf3 : ∀ o, w3.frozen? ⟨w.heap.size, o, none⟩ = (w.alloc (.cells #[.int .i64 0, .int .i64 0, .int .i64 0, .int .i64 0, .int .i64 0, .int .i64 0, .int .i64 0, .int .i64 0, .int .i64 0, .bool false, .int .i64 0] 66)).frozen? ⟨w.heap.size, o, none⟩ := fun o => by
    rw [o3.frozen (p := ⟨w.heap.size, o, none⟩) (by simp; omega) (by show ¬ w.heap.size = R; omega)]
    rw [← hf o]; exact World.frozen?_alloc_old w1 _ ⟨w.heap.size, o, none⟩ (Nat.ne_of_lt hz1)
  have hs3 : ∀ o, w3.cell? ⟨w1.heap.size, o, none⟩ = (w1.alloc (.cells #[.int .i64 1, .int .i64 y, .int .i64 0, .int .i64 0, .int .i64 0, .int .i64 0, .int .i64 0, .int .i64 0, .int .i64 0, .bool false, .int .i64 0] 66)).cell? ⟨w1.heap.size, o, none⟩ := fun o =>
    o3.cell (p := ⟨w1.heap.size, o, none⟩) (by simp) (by show ¬ w1.heap.size = R; omega)
  have ht3 : ∀ o, w3.frozen? ⟨w1.heap.size, o, none⟩ = (w1.alloc (.cells #[.int .i64 1, .int .i64 y, .int .i64 0, .int .i64 0, .int .i64 0, .int .i64 0, .int .i64 0, .int .i64 0, .int .i64 0, .bool false, .int .i64 0] 66)).frozen? ⟨w1.heap.size, o, none⟩ := fun o =>
    o3.frozen (p := ⟨w1.heap.size, o, none⟩) (by simp) (by show ¬ w1.heap.size = R; omega)
  have hne : w.heap.size ≠ w1.heap.size := by omega
  have HO3s : Hid (Off (· = w1.heap.size) w3 ((w3.setCell ⟨w1.heap.size, 0, none⟩ (.int .i64 2)).setCell ⟨w1.heap.size, 2, none⟩ (.int .i64 mo))) := ((Off.refl (· = w1.heap.size) w3).setCell (p := ⟨w1.heap.size, 0, none⟩) rfl _).setCell (p := ⟨w1.heap.size, 2, none⟩) rfl _
  have HR3s : Hid (Rdr ((w3.setCell ⟨w1.heap.size, 0, none⟩ (.int .i64 2)).setCell ⟨w1.heap.size, 2, none⟩ (.int .i64 mo)) R s a2 b2 v3) := HR3.out.offk (k := w1.heap.size) (x := 1) HO3s.out (by omega) (by simp [hs3])
  clear r3 o3 hc hf
  go_wp2_with fail
  refine (digitAhead_any _ HR3s.out).mono ?_
  rintro e w4 ⟨he, m, rfl⟩
  rw [HD2.out] at he
  subst he
  go_wp2_with fail
  have HO4 : Hid (Off (· = R) w (((w3.setCell ⟨w1.heap.size, 0, none⟩ (.int .i64 2)).setCell ⟨w1.heap.size, 2, none⟩ (.int .i64 mo)).drewN m)) := ((HO3.out.setNew (p := ⟨w1.heap.size, 0, none⟩) (by show w.heap.size ≤ w1.heap.size; omega) _).setNew (p := ⟨w1.heap.size, 2, none⟩) (by show w.heap.size ≤ w1.heap.size; omega) _).drewN m
  refine (daysIn_any _ _ _ (months_off HM.out.1 HO4.out (Ne.symm HM.out.2)) y1 y2).mono ?_
  rintro e w5 ⟨rfl, rfl⟩
  go_wp2_with fail
  refine (number_any 2 1 _ _ (HR3s.out.drewN m) (by omega)).mono ?_
  rintro e w6 ⟨he, r6, o6⟩
  rw [HW.out] at he r6
  subst he
  obtain ⟨v6, r6⟩ := r6
  have HR6 : Hid (Rdr w6 R s a3 b3 v6) := r6
  have HO6 : Hid (Off (· = R) w w6) := HO4.out.trans o6
  have hz6 : w1.heap.size < w6.heap.size := by have := o6.size; simp at this; omega
  have hc6 : ∀ o, w6.cell? ⟨w.heap.size, o, none⟩ = (w.alloc (.cells #[.int .i64 0, .int .i64 0, .int .i64 0, .int .i64 0, .int .i64 0, .int .i64 0, .int .i64 0, .int .i64 0, .int .i64 0, .bool false, .int .i64 0] 66)).cell? ⟨w.heap.size, o, none⟩ := fun o => by
    rw [o6.cell (p := ⟨w.heap.size, o, none⟩) (by simp; omega) (by show ¬ w.heap.size = R; omega)]
    rw [← hc3 o]; simp [World.cell?_setCell_other]
  have hf6 : ∀ o, w6.frozen? ⟨w.heap.size, o, none⟩ = (w.alloc (.cells #[.int .i64 0, .int .i64 0, .int .i64 0, .int .i64 0, .int .i64 0, .int .i64 0, .int .i64 0, .int .i64 0, .int .i64 0, .bool false, .int .i64 0] 66)).frozen? ⟨w.heap.size, o, none⟩ := fun o => by
    rw [o6.frozen (p := ⟨w.heap.size, o, none⟩) (by simp; omega) (by show ¬ w.heap.size = R; omega)]
    rw [← hf3 o]; simp
  have hs6 : ∀ o, w6.cell? ⟨w1.heap.size, o, none⟩ = (w1.alloc (.cells #[.int .i64 2, .int .i64 y, .int .i64 mo, .int .i64 0, .int .i64 0, .int .i64 0, .int .i64 0, .int .i64 0, .int .i64 0, .bool false, .int .i64 0] 66)).cell? ⟨w1.heap.size, o, none⟩ := fun o => by
    rw [o6.cell (p := ⟨w1.heap.size, o, none⟩) (by simp; omega) (by show ¬ w1.heap.size = R; omega)]
    exact two_set hs3 o
  have ht6 : ∀ o, w6.frozen? ⟨w1.heap.size, o, none⟩ = (w1.alloc (.cells #[.int .i64 1, .int .i64 y, .int .i64 0, .int .i64 0, .int .i64 0, .int .i64 0, .int .i64 0, .int .i64 0, .int .i64 0, .bool false, .int .i64 0] 66)).frozen? ⟨w1.heap.size, o, none⟩ := fun o => by
    rw [o6.frozen (p := ⟨w1.heap.size, o, none⟩) (by simp; omega) (by show ¬ w1.heap.size = R; omega)]
    rw [← ht3 o]; simp
  have HO6s : Hid (Off (· = w1.heap.size) w6 ((w6.setCell ⟨w1.heap.size, 0, none⟩ (.int .i64 3)).setCell ⟨w1.heap.size, 3, none⟩ (.int .i64 dd))) := ((Off.refl (· = w1.heap.size) w6).setCell (p := ⟨w1.heap.size, 0, none⟩) rfl _).setCell (p := ⟨w1.heap.size, 3, none⟩) rfl _
  have HR6s : Hid (Rdr ((w6.setCell ⟨w1.heap.size, 0, none⟩ (.int .i64 3)).setCell ⟨w1.heap.size, 3, none⟩ (.int .i64 dd)) R s a3 b3 v6) := HR6.out.offk (k := w1.heap.size) (x := 2) HO6s.out (by omega) (by simp [hs6])
  clear r6 o6 hc3 hf3 hs3 ht3
  go_wp2_with fail
  refine bodyPost_ret (v := .agg #[.int .i64 3, .int .i64 y, .int .i64 mo, .int .i64 dd, .int .i64 0, .int .i64 0, .int .i64 0, .int .i64 0, .int .i64 0, .bool false, .int .i64 0]) (by simp [results, Tryz.results64, go_sem, hc6, World.cell?_setCell_other]) rfl ⟨rfl, ⟨v6, ?_⟩, ?_⟩
  · exact HR6s.out.offk (k := w.heap.size) (x := 0) (off_set11 (P := (· = w.heap.size)) (Off.refl _ _) rfl _ _ _ _ _ _ _ _ _ _ _) (by omega) (by simp [hc6, World.cell?_setCell_other])
  · exact off_new11 ((HO6.out.setNew (p := ⟨w1.heap.size, 0, none⟩) (by show w.heap.size ≤ w1.heap.size; omega) _).setNew (p := ⟨w1.heap.size, 3, none⟩) (by show w.heap.size ≤ w1.heap.size; omega) _) (Nat.le_refl _) _ _ _ _ _ _ _ _ _ _ _
end Go.Proofs.YtphobcobpclioaaGreatDoor
