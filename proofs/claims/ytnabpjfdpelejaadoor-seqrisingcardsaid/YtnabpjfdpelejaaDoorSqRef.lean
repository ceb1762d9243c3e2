/-
  The document's counters (courierref12), at a block of the law's own.
-/
import Derived.Test.YtnabpjfdpelejaaDoorSqSpec
namespace Go.Proofs.YtnabpjfdpelejaaDoor
open Go.RowKit

set_option maxHeartbeats 400000 in
theorem rnumber_any (n : Int) (w : World) : Calls Tryd.prog 58 #[.int .i64 n] w fun e w' => e = .returned (.bool (decide (isN n))) ∧ w' = w := by
  go_enter Tryd.func58, Tryd.ntmps58
  go_wp2
  all_goals
    go_ret
    refine ⟨ret_bool ?_, rfl⟩
    first
      | exact decide_eq_decide.2 (by unfold isN; omega)
      | exact (decide_eq_false (by unfold isN; omega)).symm
set_option maxHeartbeats 400000 in
theorem rafter_any (n : Int) (w : World) (h : SOk n) : Calls Tryd.prog 57 #[.int .i64 n] w fun e w' => e = .returned (.int .i64 (aft n)) ∧ w' = w := by
  obtain ⟨h1, h2⟩ := h
  by_cases h0 : n = 2147483647
  · subst h0
    go_enter Tryd.func57, Tryd.ntmps57
    go_wp2
    go_ret
    exact ⟨rfl, rfl⟩
  · have h3 : (n == 2147483647) = false := by simpa using h0
    rw [show aft n = n + 1 from if_neg h0]
    go_enter Tryd.func57, Tryd.ntmps57
    go_wp2
    go_ret
    exact ⟨rfl, rfl⟩
set_option maxHeartbeats 400000 in
theorem rNewS_any (n : Int) (w : World) : Calls Tryd.prog 37 #[.int .i64 n] w fun e w' => e = .returned (.tuple #[.agg #[.bool (newC n == 0), .int .i64 (setS 0 n)], .int .i64 (newC n)]) ∧ Below w.heap.size w w' := by
  by_cases h : 0 ≤ n ∧ n ≤ 2147483647
  · have e1 : newC n = 0 := if_pos h
    have e2 : setS 0 n = n := if_pos h
    rw [e1, e2]
    obtain ⟨h1, h2⟩ := h
    have h3 : ¬ n < 0 := by omega
    have h4 : ¬ 2147483647 < n := by omega
    go_enter Tryd.func37, Tryd.ntmps37
    go_wp2
    refine bodyPost_ret ?_ rfl ⟨rfl, ?_⟩
    · simp [results, Tryd.results37, go_sem]
    · repeat (first | exact Below.refl _ _ | refine Below.setCell ?_ (by simp) _ | refine Below.alloc ?_ (by simp) _)
  · have e1 : newC n = 2 := if_neg h
    have e2 : setS 0 n = 0 := if_neg h
    rw [e1, e2]
    by_cases h3 : n < 0
    · go_enter Tryd.func37, Tryd.ntmps37
      go_wp2
      refine bodyPost_ret ?_ rfl ⟨rfl, ?_⟩
      · simp [results, Tryd.results37, go_sem]
      · repeat (first | exact Below.refl _ _ | refine Below.setCell ?_ (by simp) _ | refine Below.alloc ?_ (by simp) _)
    · have h4 : 2147483647 < n := by omega
      go_enter Tryd.func37, Tryd.ntmps37
      go_wp2
      refine bodyPost_ret ?_ rfl ⟨rfl, ?_⟩
      · simp [results, Tryd.results37, go_sem]
      · repeat (first | exact Below.refl _ _ | refine Below.setCell ?_ (by simp) _ | refine Below.alloc ?_ (by simp) _)
section
variable {w : World} {b : Nat} {sp : Value} {n : Int}
/-- What a call of the document's sender leaves. -/
def RSQ (w : World) (b : Nat) (sp : Value) (s : Int) (w' : World) : Prop := Box w' b #[sp, .bool true, .int .i64 s] ∧ Off (fun k => k = b) w w'
theorem RSQ.put (h : Box w b #[sp, .bool true, .int .i64 n]) (s : Int) : RSQ w b sp s (w.setCell ⟨b, 2, none⟩ (.int .i64 s)) :=
  ⟨by simpa using h.pPut (j := 2) (by simp) (.int .i64 s), (Off.refl (fun k => k = b) _).setCell (p := ⟨b, 2, none⟩) rfl _⟩
set_option maxHeartbeats 1000000 in
theorem rTake_any (h : Box w b #[sp, .bool true, .int .i64 n]) (ho : SOk n) : Calls Tryd.prog 39 #[.pointer (some ⟨b, 1, none⟩)] w fun e w' => e = .returned (.tuple #[.int .i64 n, .int .i64 (takeC n)]) ∧ RSQ w b sp (takeS n) w' := by
  have HB : Hid (Box w b #[sp, .bool true, .int .i64 n]) := h
  have k1 : w.cell? ⟨b, 1, none⟩ = some (.bool true) := h.cell 1
  have k2 : w.cell? ⟨b, 2, none⟩ = some (.int .i64 n) := h.cell 2
  have f2 : w.frozen? ⟨b, 2, none⟩ = false := h.free 2
  clear h
  by_cases h0 : n = 0
  · subst h0
    go_enter Tryd.func39, Tryd.ntmps39
    go_wp2_with fail
    refine bodyPost_ret ?_ rfl ⟨rfl, HB.out, Off.refl _ _⟩
    simp [results, Tryd.results39, go_sem, takeC]
  · have h1 : (n == 0) = false := by simpa using h0
    rw [show takeC n = 0 from if_neg h0, show takeS n = aft n from if_neg h0]
    go_enter Tryd.func39, Tryd.ntmps39
    go_wp2_with fail
    refine (rafter_any n _ ho).mono ?_
    rintro e w1 ⟨rfl, rfl⟩
    go_wp2_with fail
    refine bodyPost_ret ?_ rfl ⟨rfl, RSQ.put HB.out _⟩
    simp [results, Tryd.results39, go_sem]
set_option maxHeartbeats 1000000 in
theorem rBack_any (h : Box w b #[sp, .bool true, .int .i64 n]) (m e : Int) : Calls Tryd.prog 40 #[.pointer (some ⟨b, 1, none⟩), .int .i64 m, .int .i64 e] w fun r w' => r = .returned (.tuple #[.int .i64 (backV m e), .int .i64 (backC m e)]) ∧ RSQ w b sp (backS n m e) w' := by
  have HB : Hid (Box w b #[sp, .bool true, .int .i64 n]) := h
  have k1 : w.cell? ⟨b, 1, none⟩ = some (.bool true) := h.cell 1
  have k2 : w.cell? ⟨b, 2, none⟩ = some (.int .i64 n) := h.cell 2
  have f2 : w.frozen? ⟨b, 2, none⟩ = false := h.free 2
  clear h
  by_cases hm : isN m
  · have d1 : decide (isN m) = true := decide_eq_true hm
    by_cases he : isN e
    · have d2 : decide (isN e) = true := decide_eq_true he
      by_cases h0 : m = e
      · subst h0
        rw [show backV m m = 0 from if_neg (by simp), show backC m m = 240 by simp [backC, hm], show backS n m m = n from if_neg (by simp)]
        go_enter Tryd.func40, Tryd.ntmps40
        go_wp2_with fail
        refine (rnumber_any m _).mono ?_
        rw [d1]
        rintro _ _ ⟨rfl, rfl⟩
        go_wp2_with fail
        refine (rnumber_any m _).mono ?_
        rw [d1]
        rintro _ _ ⟨rfl, rfl⟩
        go_wp2_with fail
        refine bodyPost_ret ?_ rfl ⟨rfl, HB.out, Off.refl _ _⟩
        simp [results, Tryd.results40, go_sem]
      · have h1 : (m == e) = false := by simpa using h0
        rw [show backV m e = e from if_pos ⟨hm, he, h0⟩, show backC m e = 0 by simp [backC, hm, he, h0], show backS n m e = aft e from if_pos ⟨hm, he, h0⟩]
        have ho : SOk e := by unfold SOk isN at *; omega
        go_enter Tryd.func40, Tryd.ntmps40
        go_wp2_with fail
        refine (rnumber_any m _).mono ?_
        rw [d1]
        rintro _ _ ⟨rfl, rfl⟩
        go_wp2_with fail
        refine (rnumber_any e _).mono ?_
        rw [d2]
        rintro _ _ ⟨rfl, rfl⟩
        go_wp2_with fail
        refine (rafter_any e _ ho).mono ?_
        rintro _ w1 ⟨rfl, rfl⟩
        go_wp2_with fail
        refine bodyPost_ret ?_ rfl ⟨rfl, RSQ.put HB.out _⟩
        simp [results, Tryd.results40, go_sem]
    · have d2 : decide (isN e) = false := decide_eq_false he
      rw [show backV m e = 0 from if_neg (by simp [he]), show backC m e = 2 by simp [backC, he], show backS n m e = n from if_neg (by simp [he])]
      go_enter Tryd.func40, Tryd.ntmps40
      go_wp2_with fail
      refine (rnumber_any m _).mono ?_
      rw [d1]
      rintro _ _ ⟨rfl, rfl⟩
      go_wp2_with fail
      refine (rnumber_any e _).mono ?_
      rw [d2]
      rintro _ _ ⟨rfl, rfl⟩
      go_wp2_with fail
      refine bodyPost_ret ?_ rfl ⟨rfl, HB.out, Off.refl _ _⟩
      simp [results, Tryd.results40, go_sem]
  · have d1 : decide (isN m) = false := decide_eq_false hm
    rw [show backV m e = 0 from if_neg (by simp [hm]), show backC m e = 2 by simp [backC, hm], show backS n m e = n from if_neg (by simp [hm])]
    go_enter Tryd.func40, Tryd.ntmps40
    go_wp2_with fail
    refine (rnumber_any m _).mono ?_
    rw [d1]
    rintro _ _ ⟨rfl, rfl⟩
    go_wp2_with fail
    refine bodyPost_ret ?_ rfl ⟨rfl, HB.out, Off.refl _ _⟩
    simp [results, Tryd.results40, go_sem]
set_option maxHeartbeats 1000000 in
theorem rSet_any (h : Box w b #[sp, .bool true, .int .i64 n]) (m : Int) : Calls Tryd.prog 41 #[.pointer (some ⟨b, 1, none⟩), .int .i64 m] w fun r w' => r = .returned (.int .i64 (newC m)) ∧ RSQ w b sp (setS n m) w' := by
  have HB : Hid (Box w b #[sp, .bool true, .int .i64 n]) := h
  have k1 : w.cell? ⟨b, 1, none⟩ = some (.bool true) := h.cell 1
  have k2 : w.cell? ⟨b, 2, none⟩ = some (.int .i64 n) := h.cell 2
  have f2 : w.frozen? ⟨b, 2, none⟩ = false := h.free 2
  clear h
  by_cases h : 0 ≤ m ∧ m ≤ 2147483647
  · rw [show newC m = 0 from if_pos h, show setS n m = m from if_pos h]
    obtain ⟨h1, h2⟩ := h
    have h3 : ¬ m < 0 := by omega
    have h4 : ¬ 2147483647 < m := by omega
    go_enter Tryd.func41, Tryd.ntmps41
    go_wp2_with fail
    go_ret
    exact ⟨rfl, RSQ.put HB.out _⟩
  · rw [show newC m = 2 from if_neg h, show setS n m = n from if_neg h]
    by_cases h3 : m < 0
    · go_enter Tryd.func41, Tryd.ntmps41
      go_wp2_with fail
      go_ret
      exact ⟨rfl, HB.out, Off.refl _ _⟩
    · have h4 : 2147483647 < m := by omega
      go_enter Tryd.func41, Tryd.ntmps41
      go_wp2_with fail
      go_ret
      exact ⟨rfl, HB.out, Off.refl _ _⟩
set_option maxHeartbeats 1000000 in
theorem rTake_no (h : Box w b #[sp, .bool false, .int .i64 n]) : Calls Tryd.prog 39 #[.pointer (some ⟨b, 1, none⟩)] w fun e w' => e = .returned (.tuple #[.int .i64 0, .int .i64 3]) ∧ w' = w := by
  have k1 : w.cell? ⟨b, 1, none⟩ = some (.bool false) := h.cell 1
  clear h
  go_enter Tryd.func39, Tryd.ntmps39
  go_wp2_with fail
  refine bodyPost_ret ?_ rfl ⟨rfl, rfl⟩
  simp [results, Tryd.results39, go_sem]
set_option maxHeartbeats 1000000 in
theorem rBack_no (h : Box w b #[sp, .bool false, .int .i64 n]) (m e : Int) : Calls Tryd.prog 40 #[.pointer (some ⟨b, 1, none⟩), .int .i64 m, .int .i64 e] w fun e w' => e = .returned (.tuple #[.int .i64 0, .int .i64 3]) ∧ w' = w := by
  have k1 : w.cell? ⟨b, 1, none⟩ = some (.bool false) := h.cell 1
  clear h
  go_enter Tryd.func40, Tryd.ntmps40
  go_wp2_with fail
  refine bodyPost_ret ?_ rfl ⟨rfl, rfl⟩
  simp [results, Tryd.results40, go_sem]
set_option maxHeartbeats 1000000 in
theorem rSet_no (h : Box w b #[sp, .bool false, .int .i64 n]) (m : Int) : Calls Tryd.prog 41 #[.pointer (some ⟨b, 1, none⟩), .int .i64 m] w fun e w' => e = .returned (.int .i64 3) ∧ w' = w := by
  have k1 : w.cell? ⟨b, 1, none⟩ = some (.bool false) := h.cell 1
  clear h
  go_enter Tryd.func41, Tryd.ntmps41
  go_wp2_with fail
  go_ret
  exact ⟨rfl, rfl⟩
end
end Go.Proofs.YtnabpjfdpelejaaDoor
