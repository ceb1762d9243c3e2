/-
  disk.From; Disk.Read of a disk that lives.
-/
import Derived.Test.YtlgjjemfckmidaaMem2
namespace Go.Proofs.Ytlgjjemfckmidaa
open Go.RowKit

set_option maxRecDepth 100000 in
set_option maxHeartbeats 2000000 in
theorem fill_ok {w : World} {B K : Nat} {st fu na ns nc : Int} {p0 p1 : Option Addr} {m0 m1 c0 c1 : Nat} {b0 b1 : List Int} (h : Dsk w B K (.slice none 0 0) (.slice none 0 0) [] [] 0 0 st fu na ns nc)
    (hb0 : Byts w p0 m0 b0) (hp0 : p0 = none → c0 = 0) (hl0 : m0 ≤ 16777216) (hb1 : Byts w p1 m1 b1) (hp1 : p1 = none → c1 = 0) (hf1 : ∀ b o, p1 = some ⟨b, o, none⟩ → b < B) (hl1 : m1 ≤ 16777216) :
    Calls Try.prog 66 #[.pointer (some ⟨K, 0, none⟩), .agg #[.slice p0 m0 c0, .slice p1 m1 c1]] w fun e w' => e = .returned (.tuple #[]) ∧ ∃ u0 u1, Dsk w' B K u0 u1 b0 b1 b0.length b1.length st fu na ns nc ∧ DStep w w' K (.slice none 0 0) (.slice none 0 0) u0 u1 := by
  obtain ⟨W, hW⟩ : ∃ W, w.alloc (.cells #[.slice p0 m0 c0, .slice p1 m1 c1] 26) = W := ⟨_, rfl⟩
  have HA : Hid (Dsk W B K (.slice none 0 0) (.slice none 0 0) [] [] 0 0 st fu na ns nc) := by unfold Hid; rw [← hW]; exact h.off (P := fun _ => False) ((Off.refl _ _).alloc _) (fun _ _ => id)
  have HS : Hid (DStep w W K (.slice none 0 0) (.slice none 0 0) (.slice none 0 0) (.slice none 0 0)) := by unfold Hid; rw [← hW]; exact ⟨((Off.refl _ _).alloc _), fun _ _ g => g⟩
  have HN : Hid (¬ Foot K (.slice none 0 0) (.slice none 0 0) w.heap.size) := fun e => by have := (h.foot_lt e).2; omega
  have HSz : Hid (w.heap.size < W.heap.size) := by unfold Hid; rw [← hW]; simp
  have HB0 : Hid (Byts W p0 m0 b0) := by unfold Hid; rw [← hW]; exact hb0.below ((Below.refl _ _).alloc (Nat.le_refl _) _)
  have HB1 : Hid (Byts W p1 m1 b1) := by unfold Hid; rw [← hW]; exact hb1.below ((Below.refl _ _).alloc (Nat.le_refl _) _)
  have HP0 : Hid ((p0 = none → c0 = 0) ∧ m0 ≤ 16777216) := ⟨hp0, hl0⟩
  have HP1 : Hid ((p1 = none → c1 = 0) ∧ m1 ≤ 16777216 ∧ ∀ b o, p1 = some ⟨b, o, none⟩ → b < B) := ⟨hp1, hl1, hf1⟩
  have q0 : W.cell? ⟨w.heap.size, 0, none⟩ = some (.slice p0 m0 c0) := by rw [← hW]; simp
  have q1 : W.cell? ⟨w.heap.size, 1, none⟩ = some (.slice p1 m1 c1) := by rw [← hW]; simp
  clear h hb0 hb1 hp0 hp1 hf1 hl0 hl1
  go_enter Try.func66, Try.ntmps66
  go_wp2_with fail
  refine wp_loop_rounds 3 ?_
  rw [rounds_succ]
  go_wp2_with fail
  go_region_with (go_at_call 59; refine (put0_rel HA.out ?_ HB0.out HP0.out.1 (by simpa using HP0.out.2)).mono ?_; (first | exact Off.refl _ _ | exact (Off.refl _ _).drew | exact (Off.refl _ _).drewN _ | exact ((Off.refl _ _).drew).drew); rintro e w1 ⟨rfl, u0, d1, t1⟩)
  have HA1 : Hid (Dsk w1 B K u0 (.slice none 0 0) b0 [] 0 0 st fu na ns nc) := d1
  have HS1 : Hid (DStep W w1 K (.slice none 0 0) (.slice none 0 0) u0 (.slice none 0 0)) := t1
  clear d1 t1 q0 q1
  go_wp2_with fail
  refine (sync0_rel HA1.out).mono ?_
  rintro e w2 ⟨rfl, d2, t2⟩
  have HA2 : Hid (Dsk w2 B K u0 (.slice none 0 0) b0 [] b0.length 0 st fu na ns nc) := d2
  have HS2 : Hid (DStep W w2 K (.slice none 0 0) (.slice none 0 0) u0 (.slice none 0 0)) := HS1.out.trans t2
  have q1 : w2.cell? ⟨w.heap.size, 1, none⟩ = some (.slice p1 m1 c1) := by rw [HS2.out.off.cell (p := ⟨w.heap.size, 1, none⟩) HSz.out HN.out, ← hW]; simp
  have HB2 : Hid (Byts w2 p1 m1 b1) := HB1.out.off HS2.out.off (fun b o e f => by
    rcases f with f | f | f
    · have := HP1.out.2.2 b o e; have := HA.out.hB; omega
    · cases f
    · cases f)
  clear d2 t2
  go_wp2_with fail
  rw [rounds_succ]
  go_wp2_with fail
  go_region_with (go_at_call 59; refine (put1_rel HA2.out ?_ HB2.out HP1.out.1 (by simpa using HP1.out.2.1)).mono ?_; (first | exact Off.refl _ _ | exact (Off.refl _ _).drew | exact (Off.refl _ _).drewN _ | exact ((Off.refl _ _).drew).drew); rintro e w3 ⟨rfl, u1, d3, t3⟩)
  have HA3 : Hid (Dsk w3 B K u0 u1 b0 b1 b0.length 0 st fu na ns nc) := d3
  have HS3 : Hid (DStep W w3 K (.slice none 0 0) (.slice none 0 0) u0 u1) := HS2.out.trans t3
  clear d3 t3 q1
  go_wp2_with fail
  refine (sync1_rel HA3.out).mono ?_
  rintro e w4 ⟨rfl, d4, t4⟩
  have HA4 : Hid (Dsk w4 B K u0 u1 b0 b1 b0.length b1.length st fu na ns nc) := d4
  have HS4 : Hid (DStep w w4 K (.slice none 0 0) (.slice none 0 0) u0 u1) := HS.out.trans (HS3.out.trans t4)
  clear d4 t4
  go_wp2_with fail
  rw [rounds_succ]
  go_wp2_with fail
  go_end0
  exact ⟨rfl, u0, u1, HA4.out, HS4.out⟩
theorem fill_rel {w0 w : World} {B K : Nat} {st fu na ns nc : Int} {p0 p1 : Option Addr} {m0 m1 c0 c1 : Nat} {b0 b1 : List Int} (h : Dsk w0 B K (.slice none 0 0) (.slice none 0 0) [] [] 0 0 st fu na ns nc) (ha : Off (fun _ => False) w0 w)
    (hb0 : Byts w0 p0 m0 b0) (hp0 : p0 = none → c0 = 0) (hl0 : m0 ≤ 16777216) (hb1 : Byts w0 p1 m1 b1) (hp1 : p1 = none → c1 = 0) (hf1 : ∀ b o, p1 = some ⟨b, o, none⟩ → b < B) (hl1 : m1 ≤ 16777216) :
    Calls Try.prog 66 #[.pointer (some ⟨K, 0, none⟩), .agg #[.slice p0 m0 c0, .slice p1 m1 c1]] w fun e w' => e = .returned (.tuple #[]) ∧ ∃ u0 u1, Dsk w' B K u0 u1 b0 b1 b0.length b1.length st fu na ns nc ∧ DStep w0 w' K (.slice none 0 0) (.slice none 0 0) u0 u1 := by
  refine (fill_ok (h.off ha (fun _ _ => id)) (hb0.off ha (fun _ _ _ => id)) hp0 hl0 (hb1.off ha (fun _ _ _ => id)) hp1 hf1 hl1).mono ?_
  rintro e w' ⟨he, u0, u1, d, t⟩
  exact ⟨he, u0, u1, d, DStep.trans ⟨ha.mono (fun _ e => e.elim), fun _ _ g => g⟩ t⟩
theorem index2 (p0 p1 : Option Addr) (m0 m1 c0 c1 : Nat) (W : World) : (Instr.index 26 (.agg #[.slice p0 m0 c0, .slice p1 m1 c1]) (.int .i64 0)).run Try.prog W = .ok (.slice p0 m0 c0) W ∧ (Instr.index 26 (.agg #[.slice p0 m0 c0, .slice p1 m1 c1]) (.int .i64 1)).run Try.prog W = .ok (.slice p1 m1 c1) W := by
  constructor <;> kernel_rfl
set_option maxRecDepth 100000 in
set_option maxHeartbeats 2000000 in
theorem From_ok {w : World} {p0 p1 : Option Addr} {m0 m1 c0 c1 : Nat} {b0 b1 : List Int} (hb0 : Byts w p0 m0 b0) (hp0 : p0 = none → c0 = 0) (hl0 : m0 ≤ 16777216) (hb1 : Byts w p1 m1 b1) (hp1 : p1 = none → c1 = 0) (hl1 : m1 ≤ 16777216)
    (hf0 : ∀ b o, p0 = some ⟨b, o, none⟩ → b < w.heap.size) (hf1 : ∀ b o, p1 = some ⟨b, o, none⟩ → b < w.heap.size) :
    Calls Try.prog 31 #[.agg #[.slice p0 m0 c0, .slice p1 m1 c1]] w fun e w' => ∃ K u0 u1, e = .returned (.tuple #[.pointer (some ⟨K, 0, none⟩), .nilIface]) ∧ Dsk w' (w.heap.size + 1) K u0 u1 b0 b1 b0.length b1.length 1 (-1) 0 0 0 ∧ Below w.heap.size w w' := by
  obtain ⟨W, hW⟩ : ∃ W, w.alloc (.cells #[.slice p0 m0 c0, .slice p1 m1 c1] 26) = W := ⟨_, rfl⟩
  have HSz : Hid (W.heap.size = w.heap.size + 1) := by unfold Hid; rw [← hW]; simp
  have HW : Hid (Below w.heap.size w W) := by unfold Hid; rw [← hW]; exact (Below.refl _ _).alloc (Nat.le_refl _) _
  have HB0 : Hid (Byts W p0 m0 b0) := hb0.below HW.out
  have HB1 : Hid (Byts W p1 m1 b1) := hb1.below HW.out
  have HP0 : Hid ((p0 = none → c0 = 0) ∧ ∀ b o, p0 = some ⟨b, o, none⟩ → b < w.heap.size) := ⟨hp0, hf0⟩
  have HP1 : Hid ((p1 = none → c1 = 0) ∧ ∀ b o, p1 = some ⟨b, o, none⟩ → b < w.heap.size) := ⟨hp1, hf1⟩
  have q0 : W.cell? ⟨w.heap.size, 0, none⟩ = some (.slice p0 m0 c0) := by rw [← hW]; simp
  have q1 : W.cell? ⟨w.heap.size, 1, none⟩ = some (.slice p1 m1 c1) := by rw [← hW]; simp
  have g0 : ¬ (16777216 : Int) < m0 := by omega
  have g1 : ¬ (16777216 : Int) < m1 := by omega
  have ix0 := fun W => (index2 p0 p1 m0 m1 c0 c1 W).1
  have ix1 := fun W => (index2 p0 p1 m0 m1 c0 c1 W).2
  clear hb0 hb1 hp0 hp1 hf0 hf1
  go_enter Try.func31, Try.ntmps31
  go_wp2_with fail
  refine wp_loop_rounds 3 ?_
  rw [rounds_succ]
  go_wp2_with fail
  rw [rounds_succ]
  go_wp2_with fail
  rw [rounds_succ]
  go_wp2_with fail
  refine (New_any _).mono ?_
  rintro e w1 ⟨rfl, hw1⟩
  have H1 : Hid (Dsk w1 W.heap.size W.heap.size (.slice none 0 0) (.slice none 0 0) [] [] 0 0 1 (-1) 0 0 0) := by unfold Hid; rw [hw1]; exact dsk_new W
  have HB : Hid (Below W.heap.size W w1) := by unfold Hid; rw [hw1]; exact (Below.refl _ _).alloc (Nat.le_refl _) _
  clear hw1
  have r0 : w1.cell? ⟨w.heap.size, 0, none⟩ = some (.slice p0 m0 c0) := by rw [HB.out.cell (p := ⟨w.heap.size, 0, none⟩) (by show w.heap.size < _; rw [HSz.out]; omega)]; exact q0
  have r1 : w1.cell? ⟨w.heap.size, 1, none⟩ = some (.slice p1 m1 c1) := by rw [HB.out.cell (p := ⟨w.heap.size, 1, none⟩) (by show w.heap.size < _; rw [HSz.out]; omega)]; exact q1
  clear q0 q1
  go_wp2_with fail
  go_region_with (go_at_call 66; refine (fill_rel H1.out ?_ (HB0.out.below HB.out) HP0.out.1 hl0 (HB1.out.below HB.out) HP1.out.1 (fun b o e => by have := HP1.out.2 b o e; rw [HSz.out]; omega) hl1).mono ?_; (first | exact Off.refl _ _ | exact (Off.refl _ _).drew | exact (Off.refl _ _).drewN _ | exact ((Off.refl _ _).drew).drew); rintro e w2 ⟨rfl, u0, u1, d2, t2⟩)
  all_goals
    have HD : Hid (Dsk w2 (w.heap.size + 1) W.heap.size u0 u1 b0 b1 b0.length b1.length 1 (-1) 0 0 0) := by unfold Hid; rw [← HSz.out]; exact d2
    have HE : Hid (Below w.heap.size w w2) := HW.out.trans ((HB.out.trans (t2.off.below HB.out.size (fun k g => (H1.out.foot_lt g).1))).mono HW.out.size)
    clear d2 t2
    go_wp2_with fail
    refine bodyPost_ret (v := .tuple #[.pointer (some ⟨W.heap.size, 0, none⟩), .nilIface]) (by simp [results, Try.results31, go_sem]) rfl ⟨_, u0, u1, rfl, HD.out, HE.out⟩
set_option maxRecDepth 100000 in
set_option maxHeartbeats 1000000 in
theorem Read0_ok {w : World} {B K : Nat} {v0 v1 : Value} {x0 x1 : List Int} {s0 s1 : Nat} {fu na ns nc : Int} {n : Nat} (h : Dsk w B K v0 v1 x0 x1 s0 s1 1 fu na ns nc) (hn : n = x0.length) : Calls Try.prog 71 #[.pointer (some ⟨K, 0, none⟩), .int .i64 0, .int .i64 0, .int .i64 n] w fun e w' => ∃ a k c, e = .returned (.tuple #[.slice a k c, .nilIface]) ∧ Row w' w.heap.size (.slice a k c) x0 ∧ Below w.heap.size w w' := by
  subst hn
  have H : Hid (Dsk w B K v0 v1 x0 x1 s0 s1 1 fu na ns nc) := h
  have c4 := h.c4
  have hl := h.a0.len
  have hh : hasB x0.length 0 x0.length = true := by unfold hasB; simp
  clear h
  go_enter Try.func71, Try.ntmps71
  go_wp2_with fail
  refine (check_ok 0 H.out (Or.inl rfl) (Or.inl rfl)).mono ?_
  rintro e w1 ⟨rfl, rfl⟩
  go_wp2_with fail
  refine (has_any 0 x0.length _ H.out.a0 (by omega)).mono ?_
  rintro e w2 ⟨he, rfl⟩
  rw [hh] at he
  subst he
  go_wp2_with fail
  refine (read_any 0 x0.length _ H.out.a0 (by omega)).mono ?_
  rintro e w3 ⟨r, rfl, hR, hb⟩
  rw [List.drop_zero, List.take_length] at hR
  obtain ⟨a, cp, rfl, _⟩ := hR.slice
  have HR : Hid (Row w3 w2.heap.size (.slice a x0.length cp) x0 ∧ Below w2.heap.size w2 w3) := ⟨hR, hb⟩
  clear hR hb
  go_wp2_with fail
  refine bodyPost_ret (v := .tuple #[.slice a x0.length cp, .nilIface]) (by simp [results, Try.results71, go_sem]) rfl ⟨a, _, cp, rfl, HR.out.1, HR.out.2⟩
set_option maxRecDepth 100000 in
set_option maxHeartbeats 1000000 in
theorem Read1_ok {w : World} {B K : Nat} {v0 v1 : Value} {x0 x1 : List Int} {s0 s1 : Nat} {fu na ns nc : Int} {n : Nat} (h : Dsk w B K v0 v1 x0 x1 s0 s1 1 fu na ns nc) (hn : n = x1.length) : Calls Try.prog 71 #[.pointer (some ⟨K, 0, none⟩), .int .i64 1, .int .i64 0, .int .i64 n] w fun e w' => ∃ a k c, e = .returned (.tuple #[.slice a k c, .nilIface]) ∧ Row w' w.heap.size (.slice a k c) x1 ∧ Below w.heap.size w w' := by
  subst hn
  have H : Hid (Dsk w B K v0 v1 x0 x1 s0 s1 1 fu na ns nc) := h
  have c4 := h.c4
  have hl := h.a1.len
  have hh : hasB x1.length 0 x1.length = true := by unfold hasB; simp
  clear h
  go_enter Try.func71, Try.ntmps71
  go_wp2_with fail
  refine (check_ok 1 H.out (Or.inl rfl) (Or.inr rfl)).mono ?_
  rintro e w1 ⟨rfl, rfl⟩
  go_wp2_with fail
  refine (has_any 0 x1.length _ H.out.a1 (by omega)).mono ?_
  rintro e w2 ⟨he, rfl⟩
  rw [hh] at he
  subst he
  go_wp2_with fail
  refine (read_any 0 x1.length _ H.out.a1 (by omega)).mono ?_
  rintro e w3 ⟨r, rfl, hR, hb⟩
  rw [List.drop_zero, List.take_length] at hR
  obtain ⟨a, cp, rfl, _⟩ := hR.slice
  have HR : Hid (Row w3 w2.heap.size (.slice a x1.length cp) x1 ∧ Below w2.heap.size w2 w3) := ⟨hR, hb⟩
  clear hR hb
  go_wp2_with fail
  refine bodyPost_ret (v := .tuple #[.slice a x1.length cp, .nilIface]) (by simp [results, Try.results71, go_sem]) rfl ⟨a, _, cp, rfl, HR.out.1, HR.out.2⟩
end Go.Proofs.Ytlgjjemfckmidaa
