/-
  The program's counters: what its calls do.
-/
import Derived.Test.YtnabpjfdpelejaaDoorSqVar
import Derived.Shelf.Abstract
import Derived.Deep.WholeRow
import Derived.Laws.EntriesVeiled
import Derived.Deep.RegionHeld3
namespace Go.Proofs.YtnabpjfdpelejaaDoor
open Go.RowKit

set_option maxHeartbeats 400000 in
theorem sfault_any (code : Int) (hc : code ≠ 0) (w : World) : Calls Tryd.prog 27 #[.int .i64 code] w fun e w' => ∃ v, e = .returned v ∧ Ev w' w.heap.size v code ∧ Below w.heap.size w w' := by
  go_enter Tryd.func27, Tryd.ntmps27
  go_wp2
  go_ret
  exact ⟨_, rfl, Ev.new w code hc, (Below.refl _ _).alloc (Nat.le_refl _) _⟩
set_option maxHeartbeats 400000 in
theorem pnumber_any (n : Int) (w : World) : Calls Tryd.prog 36 #[.int .i64 n] w fun e w' => e = .returned (.bool (decide (isN n))) ∧ w' = w := by
  go_enter Tryd.func36, Tryd.ntmps36
  go_wp2
  all_goals
    go_ret
    refine ⟨ret_bool ?_, rfl⟩
    first
      | exact decide_eq_decide.2 (by unfold isN; omega)
      | exact (decide_eq_false (by unfold isN; omega)).symm
set_option maxHeartbeats 400000 in
theorem pafter_any (n : Int) (w : World) (h : SOk n) : Calls Tryd.prog 32 #[.int .i64 n] w fun e w' => e = .returned (.int .i64 (aft n)) ∧ w' = w := by
  obtain ⟨h1, h2⟩ := h
  by_cases h0 : n = 2147483647
  · subst h0
    go_enter Tryd.func32, Tryd.ntmps32
    go_wp2
    go_ret
    exact ⟨rfl, rfl⟩
  · have h3 : (n == 2147483647) = false := by simpa using h0
    rw [show aft n = n + 1 from if_neg h0]
    go_enter Tryd.func32, Tryd.ntmps32
    go_wp2
    go_ret
    exact ⟨rfl, rfl⟩
instance (n : Int) : Decidable (SOk n) := inferInstanceAs (Decidable (0 ≤ n ∧ n ≤ 2147483647))
set_option maxHeartbeats 400000 in
theorem pmayNext (n : Int) (w : World) : Calls Tryd.prog 26 #[.int .i64 n] w fun e w' => e = .returned (.bool (decide (SOk n))) ∧ w' = w := by
  by_cases h0 : n = 0
  · subst h0
    rw [show decide (SOk 0) = true from by decide]
    go_enter Tryd.func26, Tryd.ntmps26
    go_wp2_with fail
    go_ret
    exact ⟨rfl, rfl⟩
  · have h1 : (n == 0) = false := by simpa using h0
    rw [show decide (SOk n) = decide (isN n) from decide_eq_decide.2 (by unfold SOk isN; omega)]
    go_enter Tryd.func26, Tryd.ntmps26
    go_wp2_with fail
    refine (pnumber_any n _).mono ?_
    rintro _ w9 ⟨rfl, hw⟩
    subst w9
    go_wp2_with fail
    go_ret
    exact ⟨rfl, rfl⟩
set_option maxHeartbeats 400000 in
theorem pmayStand (e l : Int) (w : World) : Calls Tryd.prog 42 #[.int .i64 e, .int .i64 l] w fun r w' => r = .returned (.bool (decide (newR e l = 0))) ∧ w' = w := by
  by_cases h0 : l = 0
  · subst h0
    by_cases h1 : e = 0
    · subst h1
      rw [show decide (newR 0 0 = 0) = true from by decide]
      go_enter Tryd.func42, Tryd.ntmps42
      go_wp2_with fail
      go_ret
      exact ⟨rfl, rfl⟩
    · have h2 : (e == 0) = false := by simpa using h1
      rw [show decide (newR e 0 = 0) = decide (isN e) from decide_eq_decide.2 (by unfold newR isN; split <;> omega)]
      go_enter Tryd.func42, Tryd.ntmps42
      go_wp2_with fail
      refine (pnumber_any e _).mono ?_
      rintro _ w9 ⟨rfl, hw⟩
      subst w9
      go_wp2_with fail
      go_ret
      exact ⟨rfl, rfl⟩
  · have h2 : (l == 0) = false := by simpa using h0
    by_cases h1 : isN l
    · have d1 : decide (isN l) = true := decide_eq_true h1
      have h3 : 1 ≤ l := h1.1
      have h4 : l ≤ 2147483647 := h1.2
      rw [show decide (newR e l = 0) = (e == l + 1) from by rw [Bool.eq_iff_iff, decide_eq_true_iff, beq_iff_eq]; unfold newR; split <;> omega]
      go_enter Tryd.func42, Tryd.ntmps42
      go_wp2_with fail
      refine (pnumber_any l _).mono ?_
      rw [d1]
      rintro _ w9 ⟨rfl, hw⟩
      subst w9
      go_wp2_with fail
      go_ret
      exact ⟨rfl, rfl⟩
    · have d1 : decide (isN l) = false := decide_eq_false h1
      rw [show decide (newR e l = 0) = false from decide_eq_false (by unfold newR; unfold isN at h1; split <;> omega)]
      go_enter Tryd.func42, Tryd.ntmps42
      go_wp2_with fail
      refine (pnumber_any l _).mono ?_
      rw [d1]
      rintro _ w9 ⟨rfl, hw⟩
      subst w9
      go_wp2_with fail
      go_ret
      exact ⟨rfl, rfl⟩
set_option maxHeartbeats 400000 in
theorem pbegun (n : Int) (w : World) : Calls Tryd.prog 28 #[.int .i64 n] w fun r w' => r = .returned (.agg #[.int .i64 n, .bool true]) ∧ Below w.heap.size w w' := by
  go_enter Tryd.func28, Tryd.ntmps28
  go_wp2_with fail
  refine bodyPost_ret (v := .agg #[.int .i64 n, .bool true]) ?_ rfl ⟨rfl, ?_⟩
  · simp [results, Tryd.results28, go_sem]
  · exact (Below.refl _ _).alloc (Nat.le_refl _) _
set_option maxHeartbeats 400000 in
theorem pvalue {w : World} {b : Nat} {n : Int} (k0 : w.cell? ⟨b, 0, none⟩ = some (.int .i64 n)) : Calls Tryd.prog 30 #[.pointer (some ⟨b, 0, none⟩)] w fun r w' => r = .returned (.int .i64 n) ∧ w' = w := by
  go_enter Tryd.func30, Tryd.ntmps30
  go_wp2_with fail
  go_ret
  exact ⟨rfl, rfl⟩
set_option maxHeartbeats 400000 in
theorem pput {w : World} {b : Nat} {n : Int} (k0 : w.cell? ⟨b, 0, none⟩ = some (.int .i64 n)) (f0 : w.frozen? ⟨b, 0, none⟩ = false) (m : Int) : Calls Tryd.prog 31 #[.pointer (some ⟨b, 0, none⟩), .int .i64 m] w fun r w' => r = .returned (.tuple #[]) ∧ w' = w.setCell ⟨b, 0, none⟩ (.int .i64 m) := by
  go_enter Tryd.func31, Tryd.ntmps31
  go_wp2_with fail
  go_end0
  exact ⟨rfl, rfl⟩
set_option maxHeartbeats 400000 in
theorem pmade {w : World} {b : Nat} {q : Bool} (k1 : w.cell? ⟨b, 1, none⟩ = some (.bool q)) : Calls Tryd.prog 48 #[.pointer (some ⟨b, 0, none⟩)] w fun r w' => r = .returned (.bool q) ∧ w' = w := by
  go_enter Tryd.func48, Tryd.ntmps48
  go_wp2_with fail
  go_ret
  exact ⟨rfl, rfl⟩
/-- What a call leaves: an error of that number, the counter at b with that. -/
def SQ (w : World) (b : Nat) (ev : Value) (c s : Int) (w' : World) : Prop := Ev w' w.heap.size ev c ∧ Snd w' b s ∧ Off (fun k => k = b) w w'
def RQ (w : World) (b : Nat) (ev : Value) (c e l : Int) (w' : World) : Prop := Ev w' w.heap.size ev c ∧ Rcv w' b e l ∧ Off (fun k => k = b) w w'
/-- A counter that nobody made: none, or one with nothing in it. -/
def NoS (w : World) (p : Value) : Prop := p = .pointer none ∨ ∃ b, p = .pointer (some ⟨b, 0, none⟩) ∧ Box w b #[.int .i64 0, .bool false]
def NoR (w : World) (p : Value) : Prop := p = .pointer none ∨ ∃ b, p = .pointer (some ⟨b, 0, none⟩) ∧ Box w b #[.int .i64 0, .bool false, .int .i64 0]
set_option maxHeartbeats 1000000 in
theorem szero_no {w : World} {p : Value} (h : NoS w p) : Calls Tryd.prog 29 #[p] w fun r w' => r = .returned (.bool true) ∧ w' = w := by
  rcases h with rfl | ⟨b, rfl, hB⟩
  · go_enter Tryd.func29, Tryd.ntmps29
    go_wp2_with fail
    go_ret
    exact ⟨rfl, rfl⟩
  · have k1 : w.cell? ⟨b, 1, none⟩ = some (.bool false) := hB.cell 1
    clear hB
    go_enter Tryd.func29, Tryd.ntmps29
    go_wp2_with fail
    refine (pmade k1).mono ?_
    rintro _ w9 ⟨rfl, hw⟩
    subst w9
    go_wp2_with fail
    go_ret
    exact ⟨rfl, rfl⟩
set_option maxHeartbeats 1000000 in
theorem szero_yes {w : World} {b : Nat} (k1 : w.cell? ⟨b, 1, none⟩ = some (.bool true)) : Calls Tryd.prog 29 #[.pointer (some ⟨b, 0, none⟩)] w fun r w' => r = .returned (.bool false) ∧ w' = w := by
  go_enter Tryd.func29, Tryd.ntmps29
  go_wp2_with fail
  refine (pmade k1).mono ?_
  rintro _ w9 ⟨rfl, hw⟩
  subst w9
  go_wp2_with fail
  go_ret
  exact ⟨rfl, rfl⟩
set_option maxHeartbeats 1000000 in
theorem rzero_no {w : World} {p : Value} (h : NoR w p) : Calls Tryd.prog 34 #[p] w fun r w' => r = .returned (.bool true) ∧ w' = w := by
  rcases h with rfl | ⟨b, rfl, hB⟩
  · go_enter Tryd.func34, Tryd.ntmps34
    go_wp2_with fail
    go_ret
    exact ⟨rfl, rfl⟩
  · have k1 : w.cell? ⟨b, 1, none⟩ = some (.bool false) := hB.cell 1
    clear hB
    go_enter Tryd.func34, Tryd.ntmps34
    go_wp2_with fail
    refine (pmade k1).mono ?_
    rintro _ w9 ⟨rfl, hw⟩
    subst w9
    go_wp2_with fail
    go_ret
    exact ⟨rfl, rfl⟩
set_option maxHeartbeats 1000000 in
theorem rzero_yes {w : World} {b : Nat} (k1 : w.cell? ⟨b, 1, none⟩ = some (.bool true)) : Calls Tryd.prog 34 #[.pointer (some ⟨b, 0, none⟩)] w fun r w' => r = .returned (.bool false) ∧ w' = w := by
  go_enter Tryd.func34, Tryd.ntmps34
  go_wp2_with fail
  refine (pmade k1).mono ?_
  rintro _ w9 ⟨rfl, hw⟩
  subst w9
  go_wp2_with fail
  go_ret
  exact ⟨rfl, rfl⟩
set_option maxHeartbeats 1000000 in
theorem pTake_no {w : World} {p : Value} (h : NoS w p) : Calls Tryd.prog 10 #[p] w fun r w' => ∃ ev, r = .returned (.tuple #[.int .i64 0, ev]) ∧ Ev w' w.heap.size ev 3 ∧ Below w.heap.size w w' := by
  have hz := szero_no h
  clear h
  go_enter Tryd.func10, Tryd.ntmps10
  go_wp2_with fail
  refine (hz).mono ?_
  rintro _ w9 ⟨rfl, hw⟩
  subst w9
  go_wp2_with fail
  refine (sfault_any 3 (by decide) _).mono ?_
  rintro _ w1 ⟨ev, rfl, hev, hb⟩
  have HQ : Hid (Ev w1 w.heap.size ev 3 ∧ Below w.heap.size w w1) := ⟨hev, hb⟩
  clear hev hb
  go_wp2_with fail
  refine bodyPost_ret ?_ rfl ⟨ev, rfl, HQ.out⟩
  simp [results, Tryd.results10, go_sem]
set_option maxHeartbeats 1000000 in
theorem pBack_no {w : World} {p : Value} (h : NoS w p) (n e : Int) : Calls Tryd.prog 22 #[p, .int .i64 n, .int .i64 e] w fun r w' => ∃ ev, r = .returned (.tuple #[.int .i64 0, ev]) ∧ Ev w' w.heap.size ev 3 ∧ Below w.heap.size w w' := by
  have hz := szero_no h
  clear h
  go_enter Tryd.func22, Tryd.ntmps22
  go_wp2_with fail
  refine (hz).mono ?_
  rintro _ w9 ⟨rfl, hw⟩
  subst w9
  go_wp2_with fail
  refine (sfault_any 3 (by decide) _).mono ?_
  rintro _ w1 ⟨ev, rfl, hev, hb⟩
  have HQ : Hid (Ev w1 w.heap.size ev 3 ∧ Below w.heap.size w w1) := ⟨hev, hb⟩
  clear hev hb
  go_wp2_with fail
  refine bodyPost_ret ?_ rfl ⟨ev, rfl, HQ.out⟩
  simp [results, Tryd.results22, go_sem]
set_option maxHeartbeats 1000000 in
theorem pSet_no {w : World} {p : Value} (h : NoS w p) (n : Int) : Calls Tryd.prog 23 #[p, .int .i64 n] w fun r w' => ∃ ev, r = .returned (ev) ∧ Ev w' w.heap.size ev 3 ∧ Below w.heap.size w w' := by
  have hz := szero_no h
  clear h
  go_enter Tryd.func23, Tryd.ntmps23
  go_wp2_with fail
  refine (hz).mono ?_
  rintro _ w9 ⟨rfl, hw⟩
  subst w9
  go_wp2_with fail
  refine (sfault_any 3 (by decide) _).mono ?_
  rintro _ w1 ⟨ev, rfl, hev, hb⟩
  have HQ : Hid (Ev w1 w.heap.size ev 3 ∧ Below w.heap.size w w1) := ⟨hev, hb⟩
  clear hev hb
  go_wp2_with fail
  go_ret
  exact ⟨ev, rfl, HQ.out⟩
set_option maxHeartbeats 1000000 in
theorem pAccept_no {w : World} {p : Value} (h : NoR w p) (n : Int) : Calls Tryd.prog 16 #[p, .int .i64 n] w fun r w' => ∃ ev, r = .returned (ev) ∧ Ev w' w.heap.size ev 3 ∧ Below w.heap.size w w' := by
  have hz := rzero_no h
  clear h
  go_enter Tryd.func16, Tryd.ntmps16
  go_wp2_with fail
  refine (hz).mono ?_
  rintro _ w9 ⟨rfl, hw⟩
  subst w9
  go_wp2_with fail
  refine (sfault_any 3 (by decide) _).mono ?_
  rintro _ w1 ⟨ev, rfl, hev, hb⟩
  have HQ : Hid (Ev w1 w.heap.size ev 3 ∧ Below w.heap.size w w1) := ⟨hev, hb⟩
  clear hev hb
  go_wp2_with fail
  go_ret
  exact ⟨ev, rfl, HQ.out⟩
set_option maxHeartbeats 1000000 in
theorem pReset_no {w : World} {p : Value} (h : NoR w p) : Calls Tryd.prog 13 #[p] w fun r w' => ∃ ev, r = .returned (ev) ∧ Ev w' w.heap.size ev 3 ∧ Below w.heap.size w w' := by
  have hz := rzero_no h
  clear h
  go_enter Tryd.func13, Tryd.ntmps13
  go_wp2_with fail
  refine (hz).mono ?_
  rintro _ w9 ⟨rfl, hw⟩
  subst w9
  go_wp2_with fail
  refine (sfault_any 3 (by decide) _).mono ?_
  rintro _ w1 ⟨ev, rfl, hev, hb⟩
  have HQ : Hid (Ev w1 w.heap.size ev 3 ∧ Below w.heap.size w w1) := ⟨hev, hb⟩
  clear hev hb
  go_wp2_with fail
  go_ret
  exact ⟨ev, rfl, HQ.out⟩
set_option maxHeartbeats 1000000 in
theorem pNext_no {w : World} {p : Value} (h : NoS w p) : Calls Tryd.prog 12 #[p] w fun r w' => r = .returned (.int .i64 0) ∧ Below w.heap.size w w' := by
  rcases h with rfl | ⟨b, rfl, hB⟩
  · go_enter Tryd.func12, Tryd.ntmps12
    go_wp2_with fail
    go_ret
    exact ⟨rfl, Below.refl _ _⟩
  · have k0 : w.cell? ⟨b, 0, none⟩ = some (.int .i64 0) := hB.cell 0
    clear hB
    go_enter Tryd.func12, Tryd.ntmps12
    go_wp2_with fail
    refine (pvalue k0).mono ?_
    rintro _ w9 ⟨rfl, hw⟩
    subst w9
    go_wp2_with fail
    go_ret
    exact ⟨rfl, Below.refl _ _⟩
set_option maxHeartbeats 1000000 in
theorem pExp_no {w : World} {p : Value} (h : NoR w p) : Calls Tryd.prog 18 #[p] w fun r w' => r = .returned (.int .i64 0) ∧ Below w.heap.size w w' := by
  rcases h with rfl | ⟨b, rfl, hB⟩
  · go_enter Tryd.func18, Tryd.ntmps18
    go_wp2_with fail
    go_ret
    exact ⟨rfl, Below.refl _ _⟩
  · have k0 : w.cell? ⟨b, 0, none⟩ = some (.int .i64 0) := hB.cell 0
    clear hB
    go_enter Tryd.func18, Tryd.ntmps18
    go_wp2_with fail
    refine (pvalue k0).mono ?_
    rintro _ w9 ⟨rfl, hw⟩
    subst w9
    go_wp2_with fail
    go_ret
    exact ⟨rfl, Below.refl _ _⟩
set_option maxHeartbeats 1000000 in
theorem pLast_no {w : World} {p : Value} (h : NoR w p) : Calls Tryd.prog 17 #[p] w fun r w' => r = .returned (.int .i64 0) ∧ Below w.heap.size w w' := by
  rcases h with rfl | ⟨b, rfl, hB⟩
  · go_enter Tryd.func17, Tryd.ntmps17
    go_wp2_with fail
    go_ret
    exact ⟨rfl, Below.refl _ _⟩
  · have k2 : w.cell? ⟨b, 2, none⟩ = some (.int .i64 0) := hB.cell 2
    clear hB
    go_enter Tryd.func17, Tryd.ntmps17
    go_wp2_with fail
    go_ret
    exact ⟨rfl, Below.refl _ _⟩
set_option maxHeartbeats 1000000 in
theorem pTell_no {w : World} {p : Value} (h : NoR w p) : Calls Tryd.prog 15 #[p] w fun r w' => r = .returned (.int .i64 0) ∧ Below w.heap.size w w' := by
  have hx := pExp_no h
  clear h
  have d1 : decide (isN 0) = false := by decide
  go_enter Tryd.func15, Tryd.ntmps15
  go_wp2_with fail
  refine hx.mono ?_
  rintro _ w1 ⟨rfl, hb⟩
  have HB : Hid (Below w.heap.size w w1) := hb
  clear hb
  go_wp2_with fail
  refine (pnumber_any 0 _).mono ?_
  rw [d1]
  rintro _ w9 ⟨rfl, hw⟩
  subst w9
  go_wp2_with fail
  go_ret
  exact ⟨rfl, HB.out⟩
set_option maxHeartbeats 1000000 in
theorem pJudge_no {w : World} {p : Value} (h : NoR w p) (n : Int) : Calls Tryd.prog 14 #[p, .int .i64 n] w fun r w' => r = .returned (.int .i64 0) ∧ Below w.heap.size w w' := by
  have hz := rzero_no h
  clear h
  go_enter Tryd.func14, Tryd.ntmps14
  go_wp2_with fail
  refine hz.mono ?_
  rintro _ w9 ⟨rfl, hw⟩
  subst w9
  go_wp2_with fail
  go_ret
  exact ⟨rfl, Below.refl _ _⟩
section
variable {w : World} {b : Nat} {n : Int}
theorem SQ.put (h : Box w b #[.int .i64 n, .bool true]) (s : Int) (hs : SOk s) : SQ w b .nilIface 0 s (w.setCell ⟨b, 0, none⟩ (.int .i64 s)) :=
  ⟨Or.inl ⟨rfl, rfl⟩, ⟨by simpa using h.pPut (j := 0) (by simp) (.int .i64 s), hs⟩, (Off.refl (fun k => k = b) _).setCell (p := ⟨b, 0, none⟩) rfl _⟩
theorem SQ.no {ev : Value} {c : Int} {w' : World} (h : Box w b #[.int .i64 n, .bool true]) (hs : SOk n) (hq : Ev w' w.heap.size ev c ∧ Below w.heap.size w w') : SQ w b ev c n w' :=
  ⟨hq.1, ⟨h.below hq.2, hs⟩, Off.of_below hq.2⟩
theorem SQ.then {ev : Value} {c s : Int} {w1 w2 : World} (hb : Below w.heap.size w w1) (h : SQ w1 b ev c s w2) : SQ w b ev c s w2 := ⟨h.1.mono hb.size, h.2.1, (Off.of_below hb).trans h.2.2⟩
/-- Worlds that are as w, but for the counter's number. -/
def PQ (w : World) (b : Nat) (x : World) : Prop := ∃ s, Box x b #[.int .i64 s, .bool true] ∧ Off (fun k => k = b) w x
theorem pq_behind (m : Int) (hm : SOk m) (x : World) (h : Hid (PQ w b x)) : Calls Tryd.prog 32 #[.int .i64 m] x fun r x' => r = .returned (.int .i64 (aft m)) ∧ Hid (PQ w b x') :=
  (pafter_any m x hm).mono fun _ _ q => ⟨q.1, q.2 ▸ h⟩
theorem pq_put (m : Int) (hm : SOk m) (x : World) (h : Hid (PQ w b x)) : Calls Tryd.prog 31 #[.pointer (some ⟨b, 0, none⟩), .int .i64 m] x fun r x' => r = .returned (.tuple #[]) ∧ Hid (PQ w b x') ∧ Hid (SQ w b .nilIface 0 m x') := by
  obtain ⟨s, hB, hO⟩ := h
  have hB' : Box (x.setCell ⟨b, 0, none⟩ (.int .i64 m)) b #[.int .i64 m, .bool true] := by simpa using hB.pPut (j := 0) (by simp) (.int .i64 m)
  have hO' : Off (fun k => k = b) w (x.setCell ⟨b, 0, none⟩ (.int .i64 m)) := hO.setCell (p := ⟨b, 0, none⟩) rfl _
  exact (pput (hB.cell 0) (hB.free 0) m).mono fun _ _ q => ⟨q.1, q.2 ▸ (⟨m, hB', hO'⟩ : PQ w b _), q.2 ▸ (⟨Or.inl ⟨rfl, rfl⟩, ⟨hB', hm⟩, hO'⟩ : SQ w b .nilIface 0 m _)⟩
set_option maxHeartbeats 1000000 in
theorem pNewS_ok (n : Int) (h : SOk n) (w : World) (_hV : PV w) : Calls Tryd.prog 9 #[.int .i64 n] w fun r w' => ∃ b, r = .returned (.tuple #[.pointer (some ⟨b, 0, none⟩), .nilIface]) ∧ w.heap.size ≤ b ∧ Snd w' b n ∧ Below w.heap.size w w' := by
  have hz := pmayNext n w
  rw [show decide (SOk n) = true from decide_eq_true h] at hz
  go_enter Tryd.func9, Tryd.ntmps9
  go_wp2_with fail
  refine (hz).mono ?_
  rintro _ w9 ⟨rfl, hw⟩
  subst w9
  go_wp2_with fail
  refine (pbegun n _).mono ?_
  rintro _ w1 ⟨rfl, hb⟩
  have HW : Hid (Below w.heap.size w w1) := hb
  clear hb
  go_wp2_with fail
  refine bodyPost_ret ?_ rfl ⟨w1.heap.size, rfl, HW.out.size, ⟨Box.new _ _ _, h⟩, HW.out.alloc HW.out.size _⟩
  simp [results, Tryd.results9, go_sem]
set_option maxHeartbeats 1000000 in
theorem pNewS_no (n : Int) (h : ¬ SOk n) (w : World) (_hV : PV w) : Calls Tryd.prog 9 #[.int .i64 n] w fun r w' => ∃ ev, r = .returned (.tuple #[.pointer none, ev]) ∧ Ev w' w.heap.size ev 2 ∧ Below w.heap.size w w' := by
  have hz := pmayNext n w
  rw [show decide (SOk n) = false from decide_eq_false h] at hz
  go_enter Tryd.func9, Tryd.ntmps9
  go_wp2_with fail
  refine (hz).mono ?_
  rintro _ w9 ⟨rfl, hw⟩
  subst w9
  go_wp2_with fail
  refine (sfault_any 2 (by decide) _).mono ?_
  rintro _ w1 ⟨ev, rfl, hev, hb⟩
  have HQ : Hid (Ev w1 w.heap.size ev 2 ∧ Below w.heap.size w w1) := ⟨hev, hb⟩
  clear hev hb
  go_wp2_with fail
  refine bodyPost_ret ?_ rfl ⟨ev, rfl, HQ.out⟩
  simp [results, Tryd.results9, go_sem]
set_option maxHeartbeats 1000000 in
theorem pNext (h : Snd w b n) : Calls Tryd.prog 12 #[.pointer (some ⟨b, 0, none⟩)] w fun r w' => r = .returned (.int .i64 n) ∧ Below w.heap.size w w' := by
  have k0 : w.cell? ⟨b, 0, none⟩ = some (.int .i64 n) := h.1.cell 0
  clear h
  go_enter Tryd.func12, Tryd.ntmps12
  go_wp2_with fail
  refine (pvalue k0).mono ?_
  rintro _ w9 ⟨rfl, hw⟩
  subst w9
  go_wp2_with fail
  go_ret
  exact ⟨rfl, Below.refl _ _⟩
set_option maxHeartbeats 1000000 in
theorem pTake (h : Snd w b n) : Calls Tryd.prog 10 #[.pointer (some ⟨b, 0, none⟩)] w fun r w' => ∃ ev, r = .returned (.tuple #[.int .i64 n, ev]) ∧ SQ w b ev (takeC n) (takeS n) w' := by
  have HB : Hid (Box w b #[.int .i64 n, .bool true]) := h.1
  have ho : SOk n := h.2
  have k0 : w.cell? ⟨b, 0, none⟩ = some (.int .i64 n) := h.1.cell 0
  have k1 : w.cell? ⟨b, 1, none⟩ = some (.bool true) := h.1.cell 1
  have f0 : w.frozen? ⟨b, 0, none⟩ = false := h.1.free 0
  clear h
  by_cases h0 : n = 0
  · subst h0
    rw [show takeC 0 = 9 from rfl, show takeS 0 = 0 from rfl]
    go_enter Tryd.func10, Tryd.ntmps10
    go_wp2_with fail
    refine (szero_yes k1).mono ?_
    rintro _ w9 ⟨rfl, hw⟩
    subst w9
    go_wp2_with fail
    refine (pvalue k0).mono ?_
    rintro _ w9 ⟨rfl, hw⟩
    subst w9
    go_wp2_with fail
    refine (sfault_any 9 (by decide) _).mono ?_
    rintro _ w1 ⟨ev, rfl, hev, hb⟩
    have HQ : Hid (Ev w1 w.heap.size ev 9 ∧ Below w.heap.size w w1) := ⟨hev, hb⟩
    clear hev hb
    go_wp2_with fail
    refine bodyPost_ret ?_ rfl ⟨ev, rfl, SQ.no HB.out ho HQ.out⟩
    simp [results, Tryd.results10, go_sem]
  · have h1 : (n == 0) = false := by simpa using h0
    have hs : SOk (aft n) := by have := ho.take; rwa [show takeS n = aft n from if_neg h0] at this
    rw [show takeC n = 0 from if_neg h0, show takeS n = aft n from if_neg h0]
    go_enter Tryd.func10, Tryd.ntmps10
    go_wp2_with fail
    refine (szero_yes k1).mono ?_
    rintro _ w9 ⟨rfl, hw⟩
    subst w9
    go_wp2_with fail
    refine (pvalue k0).mono ?_
    rintro _ w9 ⟨rfl, hw⟩
    subst w9
    go_wp2_with fail
    have HP : Hid (PQ w b w.drew) := ⟨n, HB.out.drew, (Off.refl _ _).drew⟩
    go_region_held3 (fun x => Hid (PQ w b x)) (assumption) (first | (go_at_call 32; refine (pq_behind n ho _ (by assumption)).mono ?_; rintro _ w8 ⟨rfl, H8⟩) | (go_at_call 31; refine (pq_put _ hs _ (by assumption)).mono ?_; rintro _ w9 ⟨rfl, H8, H9⟩))
    go_wp2_with fail
    refine bodyPost_ret ?_ rfl ⟨_, rfl, H9.out⟩
    simp [results, Tryd.results10, go_sem]
set_option maxHeartbeats 1000000 in
theorem pBack (h : Snd w b n) (m e : Int) : Calls Tryd.prog 22 #[.pointer (some ⟨b, 0, none⟩), .int .i64 m, .int .i64 e] w fun r w' => ∃ ev, r = .returned (.tuple #[.int .i64 (backV m e), ev]) ∧ SQ w b ev (backC m e) (backS n m e) w' := by
  have HB : Hid (Box w b #[.int .i64 n, .bool true]) := h.1
  have ho : SOk n := h.2
  have k0 : w.cell? ⟨b, 0, none⟩ = some (.int .i64 n) := h.1.cell 0
  have k1 : w.cell? ⟨b, 1, none⟩ = some (.bool true) := h.1.cell 1
  have f0 : w.frozen? ⟨b, 0, none⟩ = false := h.1.free 0
  clear h
  by_cases hm : isN m
  · have d1 : decide (isN m) = true := decide_eq_true hm
    by_cases he : isN e
    · have d2 : decide (isN e) = true := decide_eq_true he
      by_cases h0 : m = e
      · subst h0
        rw [show backV m m = 0 from if_neg (by simp), show backC m m = 240 by simp [backC, hm], show backS n m m = n from if_neg (by simp)]
        go_enter Tryd.func22, Tryd.ntmps22
        go_wp2_with fail
        refine (szero_yes k1).mono ?_
        rintro _ w9 ⟨rfl, hw⟩
        subst w9
        go_wp2_with fail
        refine (pnumber_any m _).mono ?_
        rw [d1]
        rintro _ w9 ⟨rfl, hw⟩
        subst w9
        go_wp2_with fail
        refine (pnumber_any m _).mono ?_
        rw [d1]
        rintro _ w9 ⟨rfl, hw⟩
        subst w9
        go_wp2_with fail
        refine (sfault_any 240 (by decide) _).mono ?_
        rintro _ w1 ⟨ev, rfl, hev, hb⟩
        have HQ : Hid (Ev w1 w.heap.size ev 240 ∧ Below w.heap.size w w1) := ⟨hev, hb⟩
        clear hev hb
        go_wp2_with fail
        refine bodyPost_ret ?_ rfl ⟨ev, rfl, SQ.no HB.out ho HQ.out⟩
        simp [results, Tryd.results22, go_sem]
      · have h1 : (e == m) = false := by simpa using fun g : e = m => h0 g.symm
        rw [show backV m e = e from if_pos ⟨hm, he, h0⟩, show backC m e = 0 by simp [backC, hm, he, h0], show backS n m e = aft e from if_pos ⟨hm, he, h0⟩]
        have hoe : SOk e := by unfold SOk isN at *; omega
        have hs : SOk (aft e) := by have := ho.back (n := m) (e := e); rwa [show backS n m e = aft e from if_pos ⟨hm, he, h0⟩] at this
        go_enter Tryd.func22, Tryd.ntmps22
        go_wp2_with fail
        refine (szero_yes k1).mono ?_
        rintro _ w9 ⟨rfl, hw⟩
        subst w9
        go_wp2_with fail
        refine (pnumber_any m _).mono ?_
        rw [d1]
        rintro _ w9 ⟨rfl, hw⟩
        subst w9
        go_wp2_with fail
        refine (pnumber_any e _).mono ?_
        rw [d2]
        rintro _ w9 ⟨rfl, hw⟩
        subst w9
        go_wp2_with fail
        have HP : Hid (PQ w b w.drew) := ⟨n, HB.out.drew, (Off.refl _ _).drew⟩
        go_region_held3 (fun x => Hid (PQ w b x)) (assumption) (first | (go_at_call 32; refine (pq_behind e hoe _ (by assumption)).mono ?_; rintro _ w8 ⟨rfl, H8⟩) | (go_at_call 31; refine (pq_put _ hs _ (by assumption)).mono ?_; rintro _ w9 ⟨rfl, H8, H9⟩))
        go_wp2_with fail
        refine bodyPost_ret ?_ rfl ⟨_, rfl, H9.out⟩
        simp [results, Tryd.results22, go_sem]
    · have d2 : decide (isN e) = false := decide_eq_false he
      rw [show backV m e = 0 from if_neg (by simp [he]), show backC m e = 2 by simp [backC, he], show backS n m e = n from if_neg (by simp [he])]
      go_enter Tryd.func22, Tryd.ntmps22
      go_wp2_with fail
      refine (szero_yes k1).mono ?_
      rintro _ w9 ⟨rfl, hw⟩
      subst w9
      go_wp2_with fail
      refine (pnumber_any m _).mono ?_
      rw [d1]
      rintro _ w9 ⟨rfl, hw⟩
      subst w9
      go_wp2_with fail
      refine (pnumber_any e _).mono ?_
      rw [d2]
      rintro _ w9 ⟨rfl, hw⟩
      subst w9
      go_wp2_with fail
      refine (sfault_any 2 (by decide) _).mono ?_
      rintro _ w1 ⟨ev, rfl, hev, hb⟩
      have HQ : Hid (Ev w1 w.heap.size ev 2 ∧ Below w.heap.size w w1) := ⟨hev, hb⟩
      clear hev hb
      go_wp2_with fail
      refine bodyPost_ret ?_ rfl ⟨ev, rfl, SQ.no HB.out ho HQ.out⟩
      simp [results, Tryd.results22, go_sem]
  · have d1 : decide (isN m) = false := decide_eq_false hm
    rw [show backV m e = 0 from if_neg (by simp [hm]), show backC m e = 2 by simp [backC, hm], show backS n m e = n from if_neg (by simp [hm])]
    go_enter Tryd.func22, Tryd.ntmps22
    go_wp2_with fail
    refine (szero_yes k1).mono ?_
    rintro _ w9 ⟨rfl, hw⟩
    subst w9
    go_wp2_with fail
    refine (pnumber_any m _).mono ?_
    rw [d1]
    rintro _ w9 ⟨rfl, hw⟩
    subst w9
    go_wp2_with fail
    refine (sfault_any 2 (by decide) _).mono ?_
    rintro _ w1 ⟨ev, rfl, hev, hb⟩
    have HQ : Hid (Ev w1 w.heap.size ev 2 ∧ Below w.heap.size w w1) := ⟨hev, hb⟩
    clear hev hb
    go_wp2_with fail
    refine bodyPost_ret ?_ rfl ⟨ev, rfl, SQ.no HB.out ho HQ.out⟩
    simp [results, Tryd.results22, go_sem]
set_option maxHeartbeats 1000000 in
theorem pSet (h : Snd w b n) (m : Int) : Calls Tryd.prog 23 #[.pointer (some ⟨b, 0, none⟩), .int .i64 m] w fun r w' => ∃ ev, r = .returned ev ∧ SQ w b ev (newC m) (setS n m) w' := by
  have HB : Hid (Box w b #[.int .i64 n, .bool true]) := h.1
  have ho : SOk n := h.2
  have k0 : w.cell? ⟨b, 0, none⟩ = some (.int .i64 n) := h.1.cell 0
  have k1 : w.cell? ⟨b, 1, none⟩ = some (.bool true) := h.1.cell 1
  have f0 : w.frozen? ⟨b, 0, none⟩ = false := h.1.free 0
  clear h
  have hz := pmayNext m w
  by_cases h : SOk m
  · rw [show newC m = 0 from if_pos h, show setS n m = m from if_pos h]
    rw [show decide (SOk m) = true from decide_eq_true h] at hz
    have hs : Hid (SOk m) := h
    go_enter Tryd.func23, Tryd.ntmps23
    go_wp2_with fail
    refine (szero_yes k1).mono ?_
    rintro _ w9 ⟨rfl, hw⟩
    subst w9
    go_wp2_with fail
    refine (hz).mono ?_
    rintro _ w9 ⟨rfl, hw⟩
    subst w9
    go_wp2_with fail
    refine (pput k0 f0 _).mono ?_
    rintro _ w9 ⟨rfl, hw⟩
    subst w9
    go_wp2_with fail
    go_ret
    exact ⟨_, rfl, SQ.put HB.out _ hs.out⟩
  · rw [show newC m = 2 from if_neg h, show setS n m = n from if_neg h]
    rw [show decide (SOk m) = false from decide_eq_false h] at hz
    go_enter Tryd.func23, Tryd.ntmps23
    go_wp2_with fail
    refine (szero_yes k1).mono ?_
    rintro _ w9 ⟨rfl, hw⟩
    subst w9
    go_wp2_with fail
    refine (hz).mono ?_
    rintro _ w9 ⟨rfl, hw⟩
    subst w9
    go_wp2_with fail
    refine (sfault_any 2 (by decide) _).mono ?_
    rintro _ w1 ⟨ev, rfl, hev, hb⟩
    have HQ : Hid (Ev w1 w.heap.size ev 2 ∧ Below w.heap.size w w1) := ⟨hev, hb⟩
    clear hev hb
    go_wp2_with fail
    go_ret
    exact ⟨ev, rfl, SQ.no HB.out ho HQ.out⟩
end
section
variable {w : World} {b : Nat} {e l : Int}
theorem RQ.no {ev : Value} {c : Int} {w' : World} (h : Box w b #[.int .i64 e, .bool true, .int .i64 l]) (hs : ROk e l) (hq : Ev w' w.heap.size ev c ∧ Below w.heap.size w w') : RQ w b ev c e l w' :=
  ⟨hq.1, ⟨h.below hq.2, hs⟩, Off.of_below hq.2⟩
theorem RQ.put (h : Box w b #[.int .i64 e, .bool true, .int .i64 l]) (e' l' : Int) (hs : ROk e' l') : RQ w b .nilIface 0 e' l' ((w.setCell ⟨b, 0, none⟩ (.int .i64 e')).setCell ⟨b, 2, none⟩ (.int .i64 l')) :=
  ⟨Or.inl ⟨rfl, rfl⟩, ⟨by simpa using (h.pPut (j := 0) (by simp) (.int .i64 e')).pPut (j := 2) (by simp) (.int .i64 l'), hs⟩, ((Off.refl (fun k => k = b) _).setCell (p := ⟨b, 0, none⟩) rfl _).setCell (p := ⟨b, 2, none⟩) rfl _⟩
theorem RQ.then {ev : Value} {c e' l' : Int} {w1 w2 : World} (hb : Below w.heap.size w w1) (h : RQ w1 b ev c e' l' w2) : RQ w b ev c e' l' w2 := ⟨h.1.mono hb.size, h.2.1, (Off.of_below hb).trans h.2.2⟩
theorem newR_rok {e l : Int} (h : newR e l = 0) : ROk e l := by
  unfold newR at h
  split at h
  · unfold ROk; omega
  · cases h
theorem newR_two {e l : Int} (h : newR e l ≠ 0) : newR e l = 2 := by
  unfold newR at *
  split at h <;> simp_all
/-- What NewReceiver answers. -/
def NRQ (e l : Int) (w : World) (r : Ending) (w' : World) : Prop :=
  (newR e l = 0 ∧ ∃ b, r = .returned (.tuple #[.pointer (some ⟨b, 0, none⟩), .nilIface]) ∧ w.heap.size ≤ b ∧ Rcv w' b e l ∧ Below w.heap.size w w') ∨
  (newR e l = 2 ∧ ∃ ev, r = .returned (.tuple #[.pointer none, ev]) ∧ Ev w' w.heap.size ev 2 ∧ Below w.heap.size w w')
set_option maxHeartbeats 1000000 in
theorem pNewR (e l : Int) (w : World) (_hV : PV w) : Calls Tryd.prog 21 #[.int .i64 e, .int .i64 l] w fun r w' => NRQ e l w r w' := by
  have hz := pmayStand e l w
  by_cases h : newR e l = 0
  · have HO : Hid (ROk e l) := newR_rok h
    have HE : Hid (newR e l = 0) := h
    rw [show decide (newR e l = 0) = true from decide_eq_true h] at hz
    clear h
    go_enter Tryd.func21, Tryd.ntmps21
    go_wp2_with fail
    refine (hz).mono ?_
    rintro _ w9 ⟨rfl, hw⟩
    subst w9
    go_wp2_with fail
    refine (pbegun e _).mono ?_
    rintro _ w1 ⟨rfl, hb⟩
    have HW : Hid (Below w.heap.size w w1) := hb
    clear hb
    go_wp2_with fail
    refine bodyPost_ret ?_ rfl (Or.inl ⟨HE.out, w1.heap.size, rfl, HW.out.size, ⟨Box.new _ _ _, HO.out⟩, HW.out.alloc HW.out.size _⟩)
    simp [results, Tryd.results21, go_sem]
  · have HE : Hid (newR e l = 2) := newR_two h
    rw [show decide (newR e l = 0) = false from decide_eq_false h] at hz
    clear h
    go_enter Tryd.func21, Tryd.ntmps21
    go_wp2_with fail
    refine (hz).mono ?_
    rintro _ w9 ⟨rfl, hw⟩
    subst w9
    go_wp2_with fail
    refine (sfault_any 2 (by decide) _).mono ?_
    rintro _ w1 ⟨ev, rfl, hev, hb⟩
    have HQ : Hid (Ev w1 w.heap.size ev 2 ∧ Below w.heap.size w w1) := ⟨hev, hb⟩
    clear hev hb
    go_wp2_with fail
    refine bodyPost_ret ?_ rfl (Or.inr ⟨HE.out, ev, rfl, HQ.out⟩)
    simp [results, Tryd.results21, go_sem]
theorem pNewR_ok (e l : Int) (h : newR e l = 0) (w : World) (hV : PV w) : Calls Tryd.prog 21 #[.int .i64 e, .int .i64 l] w fun r w' => ∃ b, r = .returned (.tuple #[.pointer (some ⟨b, 0, none⟩), .nilIface]) ∧ w.heap.size ≤ b ∧ Rcv w' b e l ∧ Below w.heap.size w w' :=
  (pNewR e l w hV).mono fun _ _ q => by
    rcases q with q | q
    · exact q.2
    · rw [h] at q; cases q.1
theorem pNewR_no (e l : Int) (h : newR e l = 2) (w : World) (hV : PV w) : Calls Tryd.prog 21 #[.int .i64 e, .int .i64 l] w fun r w' => ∃ ev, r = .returned (.tuple #[.pointer none, ev]) ∧ Ev w' w.heap.size ev 2 ∧ Below w.heap.size w w' :=
  (pNewR e l w hV).mono fun _ _ q => by
    rcases q with q | q
    · rw [h] at q; cases q.1
    · exact q.2
set_option maxHeartbeats 1000000 in
theorem pExp0 (h : Rcv w b e l) : Calls Tryd.prog 18 #[.pointer (some ⟨b, 0, none⟩)] w fun r w' => r = .returned (.int .i64 e) ∧ w' = w := by
  have k0 : w.cell? ⟨b, 0, none⟩ = some (.int .i64 e) := h.1.cell 0
  clear h
  go_enter Tryd.func18, Tryd.ntmps18
  go_wp2_with fail
  refine (pvalue k0).mono ?_
  rintro _ w9 ⟨rfl, hw⟩
  subst w9
  go_wp2_with fail
  go_ret
  exact ⟨rfl, rfl⟩
theorem pExp (h : Rcv w b e l) : Calls Tryd.prog 18 #[.pointer (some ⟨b, 0, none⟩)] w fun r w' => r = .returned (.int .i64 e) ∧ Below w.heap.size w w' :=
  (pExp0 h).mono fun _ _ q => ⟨q.1, q.2 ▸ Below.refl _ _⟩
set_option maxHeartbeats 1000000 in
theorem pLast (h : Rcv w b e l) : Calls Tryd.prog 17 #[.pointer (some ⟨b, 0, none⟩)] w fun r w' => r = .returned (.int .i64 l) ∧ Below w.heap.size w w' := by
  have k2 : w.cell? ⟨b, 2, none⟩ = some (.int .i64 l) := h.1.cell 2
  clear h
  go_enter Tryd.func17, Tryd.ntmps17
  go_wp2_with fail
  go_ret
  exact ⟨rfl, Below.refl _ _⟩
/-- The table of what a number can mean. -/
abbrev mnA : Array Value := #[.int .i64 1, .func (.func 53) #[] #[], .int .i64 2, .func (.func 54) #[] #[], .int .i64 3, .func (.func 55) #[] #[], .int .i64 4, .func (.func 56) #[] #[]]
set_option maxRecDepth 100000 in
set_option maxHeartbeats 2000000 in
theorem pmeanings (w : World) : Calls Tryd.prog 35 #[] w fun r w' => r = .returned (.agg mnA) ∧ Below w.heap.size w w' := by
  have hl := run_loadVar_new (P := Tryd.prog) w 83 mnA 4 82 Tryd.underlying83 (by kernel_rfl)
  have hs : ∀ c, (c : Array Value).size = 8 → (w.alloc (.cells c 83)).setRow w.heap.size mnA = w.alloc (.cells mnA 83) := fun c _ => World.setRow_alloc_new w c mnA _
  go_enter Tryd.func35, Tryd.ntmps35
  go_wp2_with (refine wpList_store_row rfl 83 (.tmp 0) (.tmp 5) rfl w.heap.size mnA rfl rfl 83 _ (heap_alloc_last w _) ?_ ?_ ?_ ?_; kernel_rfl; kernel_rfl; kernel_rfl; rw [hs _ rfl])
  refine bodyPost_ret (v := .agg mnA) ?_ rfl ⟨rfl, ?_⟩
  · simp [results, Tryd.results35, asAddr]
    exact hl
  · exact (Below.refl _ _).alloc (Nat.le_refl _) _
set_option maxHeartbeats 1000000 in
theorem pprobe (v : Value) (n : Int) (w : World) : Calls Tryd.prog 53 #[v, .int .i64 n] w fun r w' => r = .returned (.bool (n == 0)) ∧ w' = w := by
  go_enter Tryd.func53, Tryd.ntmps53
  go_wp2_with fail
  go_ret
  exact ⟨rfl, rfl⟩
set_option maxHeartbeats 1000000 in
theorem preset (v : Value) (n : Int) (w : World) : Calls Tryd.prog 54 #[v, .int .i64 n] w fun r w' => r = .returned (.bool (n == -1)) ∧ w' = w := by
  go_enter Tryd.func54, Tryd.ntmps54
  go_wp2_with fail
  go_ret
  exact ⟨rfl, rfl⟩
set_option maxHeartbeats 1000000 in
theorem pright {b : Nat} {e : Int} (n : Int) {w : World} (k0 : w.cell? ⟨b, 0, none⟩ = some (.int .i64 e)) : Calls Tryd.prog 55 #[.pointer (some ⟨b, 0, none⟩), .int .i64 n] w fun r w' => r = .returned (.bool (decide (okR e n))) ∧ w' = w := by
  by_cases h0 : isN n
  · have d1 : decide (isN n) = true := decide_eq_true h0
    by_cases h1 : e = n
    · subst h1
      rw [show decide (okR e e) = true from decide_eq_true ⟨h0, Or.inr rfl⟩]
      go_enter Tryd.func55, Tryd.ntmps55
      go_wp2_with fail
      refine (pnumber_any e _).mono ?_
      rw [d1]
      rintro _ w9 ⟨rfl, hw⟩
      subst w9
      go_wp2_with fail
      refine (pvalue k0).mono ?_
      rintro _ w9 ⟨rfl, hw⟩
      subst w9
      go_wp2_with fail
      go_ret
      exact ⟨rfl, rfl⟩
    · have h2 : (e == n) = false := by simpa using h1
      rw [show decide (okR e n) = (e == 0) from by rw [Bool.eq_iff_iff, decide_eq_true_iff, beq_iff_eq]; exact ⟨fun g => g.2.resolve_right h1, fun g => ⟨h0, Or.inl g⟩⟩]
      go_enter Tryd.func55, Tryd.ntmps55
      go_wp2_with fail
      refine (pnumber_any n _).mono ?_
      rw [d1]
      rintro _ w9 ⟨rfl, hw⟩
      subst w9
      go_wp2_with fail
      refine (pvalue k0).mono ?_
      rintro _ w9 ⟨rfl, hw⟩
      subst w9
      go_wp2_with fail
      refine (pvalue k0).mono ?_
      rintro _ w9 ⟨rfl, hw⟩
      subst w9
      go_wp2_with fail
      go_ret
      exact ⟨rfl, rfl⟩
  · have d1 : decide (isN n) = false := decide_eq_false h0
    rw [show decide (okR e n) = false from decide_eq_false fun g => h0 g.1]
    go_enter Tryd.func55, Tryd.ntmps55
    go_wp2_with fail
    refine (pnumber_any n _).mono ?_
    rw [d1]
    rintro _ w9 ⟨rfl, hw⟩
    subst w9
    go_wp2_with fail
    go_ret
    exact ⟨rfl, rfl⟩
set_option maxHeartbeats 1000000 in
theorem pagain {b : Nat} {l : Int} (n : Int) {w : World} (k2 : w.cell? ⟨b, 2, none⟩ = some (.int .i64 l)) : Calls Tryd.prog 56 #[.pointer (some ⟨b, 0, none⟩), .int .i64 n] w fun r w' => r = .returned (.bool (decide (l ≠ 0 ∧ n = l))) ∧ w' = w := by
  by_cases h0 : l = 0
  · subst h0
    rw [show decide ((0 : Int) ≠ 0 ∧ n = 0) = false from by simp]
    go_enter Tryd.func56, Tryd.ntmps56
    go_wp2_with fail
    go_ret
    exact ⟨rfl, rfl⟩
  · have h1 : (l != 0) = true := by simpa using h0
    rw [show decide (l ≠ 0 ∧ n = l) = (n == l) from by rw [Bool.eq_iff_iff, decide_eq_true_iff, beq_iff_eq]; exact ⟨fun g => g.2, fun g => ⟨h0, g⟩⟩]
    go_enter Tryd.func56, Tryd.ntmps56
    go_wp2_with fail
    go_ret
    exact ⟨rfl, rfl⟩
theorem pbl {N : Nat} {w x : World} (h : Below N w x) (hN : N ≤ w.heap.size) (o : Obj) : Below N w (x.alloc o) := h.alloc (Nat.le_trans hN h.size) o
set_option maxRecDepth 100000 in
set_option maxHeartbeats 4000000 in
theorem pJudge_core {w : World} {b : Nat} {n : Int} (k1 : w.cell? ⟨b, 1, none⟩ = some (.bool true)) (A : Array Value) (f1 f2 f3 f4 : FuncId) (q1 q2 q3 q4 : Bool)
    (i1 : ∀ x, (Instr.index 83 (.agg A) (.int .i64 0)).run Tryd.prog x = .ok (.agg #[.int .i64 1, .func (.func f1) #[] #[]]) x)
    (e1 : ∀ (args : Array Value) (x : World), (callFunc f1 args).run Tryd.prog x = .ok (.enter f1 args) x)
    (c1 : ∀ x, Below w.heap.size w x → Calls Tryd.prog f1 #[.pointer (some ⟨b, 0, none⟩), .int .i64 n] x fun r x' => r = .returned (.bool q1) ∧ x' = x)
    (i2 : ∀ x, (Instr.index 83 (.agg A) (.int .i64 1)).run Tryd.prog x = .ok (.agg #[.int .i64 2, .func (.func f2) #[] #[]]) x)
    (e2 : ∀ (args : Array Value) (x : World), (callFunc f2 args).run Tryd.prog x = .ok (.enter f2 args) x)
    (c2 : ∀ x, Below w.heap.size w x → Calls Tryd.prog f2 #[.pointer (some ⟨b, 0, none⟩), .int .i64 n] x fun r x' => r = .returned (.bool q2) ∧ x' = x)
    (i3 : ∀ x, (Instr.index 83 (.agg A) (.int .i64 2)).run Tryd.prog x = .ok (.agg #[.int .i64 3, .func (.func f3) #[] #[]]) x)
    (e3 : ∀ (args : Array Value) (x : World), (callFunc f3 args).run Tryd.prog x = .ok (.enter f3 args) x)
    (c3 : ∀ x, Below w.heap.size w x → Calls Tryd.prog f3 #[.pointer (some ⟨b, 0, none⟩), .int .i64 n] x fun r x' => r = .returned (.bool q3) ∧ x' = x)
    (i4 : ∀ x, (Instr.index 83 (.agg A) (.int .i64 3)).run Tryd.prog x = .ok (.agg #[.int .i64 4, .func (.func f4) #[] #[]]) x)
    (e4 : ∀ (args : Array Value) (x : World), (callFunc f4 args).run Tryd.prog x = .ok (.enter f4 args) x)
    (c4 : ∀ x, Below w.heap.size w x → Calls Tryd.prog f4 #[.pointer (some ⟨b, 0, none⟩), .int .i64 n] x fun r x' => r = .returned (.bool q4) ∧ x' = x)
    (cm : ∀ x, Calls Tryd.prog 35 #[] x fun r x' => r = .returned (.agg A) ∧ Below x.heap.size x x') :
    Calls Tryd.prog 14 #[.pointer (some ⟨b, 0, none⟩), .int .i64 n] w fun r w' => r = .returned (.int .i64 (if q1 = true then 1 else if q2 = true then 2 else if q3 = true then 3 else if q4 = true then 4 else 5)) ∧ Below w.heap.size w w' := by
  have C1 : Hid (∀ x, Below w.heap.size w x → Calls Tryd.prog f1 #[.pointer (some ⟨b, 0, none⟩), .int .i64 n] x fun r x' => r = .returned (.bool q1) ∧ x' = x) := c1
  have C2 : Hid (∀ x, Below w.heap.size w x → Calls Tryd.prog f2 #[.pointer (some ⟨b, 0, none⟩), .int .i64 n] x fun r x' => r = .returned (.bool q2) ∧ x' = x) := c2
  have C3 : Hid (∀ x, Below w.heap.size w x → Calls Tryd.prog f3 #[.pointer (some ⟨b, 0, none⟩), .int .i64 n] x fun r x' => r = .returned (.bool q3) ∧ x' = x) := c3
  have C4 : Hid (∀ x, Below w.heap.size w x → Calls Tryd.prog f4 #[.pointer (some ⟨b, 0, none⟩), .int .i64 n] x fun r x' => r = .returned (.bool q4) ∧ x' = x) := c4
  clear c1 c2 c3 c4
  have HZ := rzero_yes (w := w) k1
  clear k1
  go_enter Tryd.func14, Tryd.ntmps14
  go_wp2_with fail
  refine HZ.mono ?_
  rintro _ w9 ⟨rfl, hw⟩
  subst w9
  clear HZ
  go_wp2_with fail
  refine (cm _).mono ?_
  rintro _ w1 ⟨rfl, hb⟩
  have HW : Hid (Below w.heap.size w w1) := hb
  clear hb cm
  go_wp2_with fail
  refine wp_loop_rounds 5 ?_
  rw [rounds_succ]
  go_wp2_with fail
  refine (C1.out _ (pbl HW.out (Nat.le_refl _) _)).mono ?_
  rintro _ w9 ⟨rfl, hw⟩
  subst w9
  cases q1 with
  | true =>
    go_wp2_with fail
    go_ret
    exact ⟨rfl, (pbl HW.out (Nat.le_refl _) _)⟩
  | false =>
  go_wp2_with fail
  rw [rounds_succ]
  go_wp2_with fail
  refine (C2.out _ (pbl (pbl HW.out (Nat.le_refl _) _) (Nat.le_refl _) _)).mono ?_
  rintro _ w9 ⟨rfl, hw⟩
  subst w9
  cases q2 with
  | true =>
    go_wp2_with fail
    go_ret
    exact ⟨rfl, (pbl (pbl HW.out (Nat.le_refl _) _) (Nat.le_refl _) _)⟩
  | false =>
  go_wp2_with fail
  rw [rounds_succ]
  go_wp2_with fail
  refine (C3.out _ (pbl (pbl (pbl HW.out (Nat.le_refl _) _) (Nat.le_refl _) _) (Nat.le_refl _) _)).mono ?_
  rintro _ w9 ⟨rfl, hw⟩
  subst w9
  cases q3 with
  | true =>
    go_wp2_with fail
    go_ret
    exact ⟨rfl, (pbl (pbl (pbl HW.out (Nat.le_refl _) _) (Nat.le_refl _) _) (Nat.le_refl _) _)⟩
  | false =>
  go_wp2_with fail
  rw [rounds_succ]
  go_wp2_with fail
  refine (C4.out _ (pbl (pbl (pbl (pbl HW.out (Nat.le_refl _) _) (Nat.le_refl _) _) (Nat.le_refl _) _) (Nat.le_refl _) _)).mono ?_
  rintro _ w9 ⟨rfl, hw⟩
  subst w9
  cases q4 with
  | true =>
    go_wp2_with fail
    go_ret
    exact ⟨rfl, (pbl (pbl (pbl (pbl HW.out (Nat.le_refl _) _) (Nat.le_refl _) _) (Nat.le_refl _) _) (Nat.le_refl _) _)⟩
  | false =>
  go_wp2_with fail
  rw [rounds_succ]
  go_wp2_with fail
  go_ret
  exact ⟨rfl, (pbl (pbl (pbl (pbl HW.out (Nat.le_refl _) _) (Nat.le_refl _) _) (Nat.le_refl _) _) (Nat.le_refl _) _)⟩
theorem pix_1 (w : World) : (Instr.index 83 (.agg mnA) (.int .i64 0)).run Tryd.prog w = .ok (.agg #[.int .i64 1, .func (.func 53) #[] #[]]) w := by kernel_rfl
theorem pen_1 : Enters Tryd.prog 53 := enters_of Tryd.func53 (by kernel_rfl) rfl
theorem pix_2 (w : World) : (Instr.index 83 (.agg mnA) (.int .i64 1)).run Tryd.prog w = .ok (.agg #[.int .i64 2, .func (.func 54) #[] #[]]) w := by kernel_rfl
theorem pen_2 : Enters Tryd.prog 54 := enters_of Tryd.func54 (by kernel_rfl) rfl
theorem pix_3 (w : World) : (Instr.index 83 (.agg mnA) (.int .i64 2)).run Tryd.prog w = .ok (.agg #[.int .i64 3, .func (.func 55) #[] #[]]) w := by kernel_rfl
theorem pen_3 : Enters Tryd.prog 55 := enters_of Tryd.func55 (by kernel_rfl) rfl
theorem pix_4 (w : World) : (Instr.index 83 (.agg mnA) (.int .i64 3)).run Tryd.prog w = .ok (.agg #[.int .i64 4, .func (.func 56) #[] #[]]) w := by kernel_rfl
theorem pen_4 : Enters Tryd.prog 56 := enters_of Tryd.func56 (by kernel_rfl) rfl
theorem pJudge (h : Rcv w b e l) (n : Int) : Calls Tryd.prog 14 #[.pointer (some ⟨b, 0, none⟩), .int .i64 n] w fun r w' => r = .returned (.int .i64 (judK e l n)) ∧ Below w.heap.size w w' := by
  have hq := pJudge_core (w := w) (b := b) (n := n) (h.1.cell 1) mnA _ _ _ _ (n == 0) (n == -1) (decide (okR e n)) (decide (l ≠ 0 ∧ n = l)) pix_1 pen_1 (fun x _ => pprobe _ n x) pix_2 pen_2 (fun x _ => preset _ n x) pix_3 pen_3 (fun x hx => pright n ((h.1.below hx).cell 0)) pix_4 pen_4 (fun x hx => pagain n ((h.1.below hx).cell 2)) pmeanings
  refine hq.mono ?_
  rintro r w' ⟨h1, h2⟩
  refine ⟨?_, h2⟩
  rw [h1]
  refine congrArg (fun z => Ending.returned (.int .i64 z)) ?_
  unfold judK
  by_cases g1 : n = 0
  · simp [g1]
  by_cases g2 : n = -1
  · simp [g2]
  by_cases g3 : okR e n
  · have g3' : isN n ∧ (e = 0 ∨ e = n) := g3
    simp [g1, g2, g3, g3']
  · have g3' : ¬ (isN n ∧ (e = 0 ∨ e = n)) := g3
    by_cases g4 : n = l
    · have g5 : l ≠ 0 := by omega
      subst g4
      simp [g1, g2, g3, g3']
    · simp [g1, g2, g3, g3', g4]
set_option maxHeartbeats 1000000 in
theorem pAccept (h : Rcv w b e l) (n : Int) : Calls Tryd.prog 16 #[.pointer (some ⟨b, 0, none⟩), .int .i64 n] w fun r w' => ∃ ev, r = .returned ev ∧ RQ w b ev (accC e n) (accE e n) (accL e l n) w' := by
  have hj := pJudge h n
  have ha : Hid (ROk (accE e n) (accL e l n)) := h.2.acc
  have HB : Hid (Box w b #[.int .i64 e, .bool true, .int .i64 l]) := h.1
  have ho : ROk e l := h.2
  have k0 : w.cell? ⟨b, 0, none⟩ = some (.int .i64 e) := h.1.cell 0
  have k1 : w.cell? ⟨b, 1, none⟩ = some (.bool true) := h.1.cell 1
  have k2 : w.cell? ⟨b, 2, none⟩ = some (.int .i64 l) := h.1.cell 2
  have f0 : w.frozen? ⟨b, 0, none⟩ = false := h.1.free 0
  have f2 : w.frozen? ⟨b, 2, none⟩ = false := h.1.free 2
  clear h
  by_cases hk : okR e n
  · have hj3 : judK e l n = 3 := jud3.2 hk
    rw [hj3] at hj
    rw [show accE e n = n + 1 from if_pos hk, show accL e l n = n from if_pos hk] at ha
    rw [show accC e n = 0 from if_pos hk, show accE e n = n + 1 from if_pos hk, show accL e l n = n from if_pos hk]
    have hn : n ≤ 2147483647 := hk.1.2
    have hn1 : 1 ≤ n := hk.1.1
    go_enter Tryd.func16, Tryd.ntmps16
    go_wp2_with fail
    refine (rzero_yes k1).mono ?_
    rintro _ w9 ⟨rfl, hw⟩
    subst w9
    go_wp2_with fail
    refine hj.mono ?_
    rintro _ w1 ⟨rfl, hb⟩
    have HB1 : Hid (Box w1 b #[.int .i64 e, .bool true, .int .i64 l]) := HB.out.below hb
    have HW : Hid (Below w.heap.size w w1) := hb
    clear hb k0 k1 k2 f0 f2
    have k0 : w1.cell? ⟨b, 0, none⟩ = some (.int .i64 e) := HB1.out.cell 0
    have k2 : w1.cell? ⟨b, 2, none⟩ = some (.int .i64 l) := HB1.out.cell 2
    have f0 : w1.frozen? ⟨b, 0, none⟩ = false := HB1.out.free 0
    have f2 : w1.frozen? ⟨b, 2, none⟩ = false := HB1.out.free 2
    go_wp2_with fail
    refine (pput k0 f0 _).mono ?_
    rintro _ w9 ⟨rfl, hw⟩
    subst w9
    go_wp2_with fail
    go_ret
    exact ⟨_, rfl, RQ.then HW.out (RQ.put HB1.out _ _ ha.out)⟩
  · have hj3 : (judK e l n != 3) = true := by
      have : judK e l n ≠ 3 := fun g => hk (jud3.1 g)
      simpa using this
    rw [show accC e n = 2 from if_neg hk, show accE e n = e from if_neg hk, show accL e l n = l from if_neg hk]
    go_enter Tryd.func16, Tryd.ntmps16
    go_wp2_with fail
    refine (rzero_yes k1).mono ?_
    rintro _ w9 ⟨rfl, hw⟩
    subst w9
    go_wp2_with fail
    refine hj.mono ?_
    rintro _ w1 ⟨rfl, hb⟩
    have HW : Hid (Below w.heap.size w w1) := hb
    clear hb k0
    go_wp2_with fail
    refine (sfault_any 2 (by decide) _).mono ?_
    rintro _ w2 ⟨ev, rfl, hev, hb⟩
    have HQ : Hid (Ev w2 w1.heap.size ev 2 ∧ Below w1.heap.size w1 w2) := ⟨hev, hb⟩
    clear hev hb
    go_wp2_with fail
    go_ret
    exact ⟨ev, rfl, RQ.then HW.out (RQ.no (HB.out.below HW.out) ho HQ.out)⟩
set_option maxHeartbeats 1000000 in
theorem pReset (h : Rcv w b e l) : Calls Tryd.prog 13 #[.pointer (some ⟨b, 0, none⟩)] w fun r w' => ∃ ev, r = .returned ev ∧ RQ w b ev 0 0 0 w' := by
  have HB : Hid (Box w b #[.int .i64 e, .bool true, .int .i64 l]) := h.1
  have ho : ROk e l := h.2
  have k0 : w.cell? ⟨b, 0, none⟩ = some (.int .i64 e) := h.1.cell 0
  have k1 : w.cell? ⟨b, 1, none⟩ = some (.bool true) := h.1.cell 1
  have k2 : w.cell? ⟨b, 2, none⟩ = some (.int .i64 l) := h.1.cell 2
  have f0 : w.frozen? ⟨b, 0, none⟩ = false := h.1.free 0
  have f2 : w.frozen? ⟨b, 2, none⟩ = false := h.1.free 2
  clear h
  go_enter Tryd.func13, Tryd.ntmps13
  go_wp2_with fail
  refine (rzero_yes k1).mono ?_
  rintro _ w9 ⟨rfl, hw⟩
  subst w9
  go_wp2_with fail
  refine (pput k0 f0 _).mono ?_
  rintro _ w9 ⟨rfl, hw⟩
  subst w9
  go_wp2_with fail
  go_ret
  exact ⟨_, rfl, RQ.put HB.out 0 0 (by unfold ROk; omega)⟩
set_option maxHeartbeats 1000000 in
theorem pTell (h : Rcv w b e l) : Calls Tryd.prog 15 #[.pointer (some ⟨b, 0, none⟩)] w fun r w' => r = .returned (.int .i64 (tellV e)) ∧ Below w.heap.size w w' := by
  have hx := pExp0 h
  clear h
  by_cases he : isN e
  · have d1 : decide (isN e) = true := decide_eq_true he
    rw [show tellV e = e from if_pos he]
    go_enter Tryd.func15, Tryd.ntmps15
    go_wp2_with fail
    refine (hx).mono ?_
    rintro _ w9 ⟨rfl, hw⟩
    subst w9
    go_wp2_with fail
    refine (pnumber_any e _).mono ?_
    rw [d1]
    rintro _ w9 ⟨rfl, hw⟩
    subst w9
    go_wp2_with fail
    go_ret
    exact ⟨rfl, Below.refl _ _⟩
  · have d1 : decide (isN e) = false := decide_eq_false he
    rw [show tellV e = 0 from if_neg he]
    go_enter Tryd.func15, Tryd.ntmps15
    go_wp2_with fail
    refine (hx).mono ?_
    rintro _ w9 ⟨rfl, hw⟩
    subst w9
    go_wp2_with fail
    refine (pnumber_any e _).mono ?_
    rw [d1]
    rintro _ w9 ⟨rfl, hw⟩
    subst w9
    go_wp2_with fail
    go_ret
    exact ⟨rfl, Below.refl _ _⟩
end
end Go.Proofs.YtnabpjfdpelejaaDoor
