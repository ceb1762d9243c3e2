/-
  Cut of the document's disk. (Typed by gen/mkref2.py.)
-/
import Derived.Test.YtlgjjemfckmidaaRfCalls
import Derived.Test.YtlgjjemfckmidaaDkDoes
namespace Go.Proofs.Ytlgjjemfckmidaa
open Go.RowKit

theorem Row.cutTo {w : World} {B n c m : Nat} {a : Option Addr} {xs : List Int} (h : Row w B (.slice a n c) xs) (hm : m ≤ n) : Byts w a m (xs.take m) := by
  rcases h.form with ⟨e, rfl⟩ | ⟨g, cap, e, _⟩
  · cases e; obtain rfl : m = 0 := by omega
    exact ⟨rfl, fun j hj => by omega⟩
  · cases e; exact (h.prefix hm).bytes
theorem row_empty_new {w : World} {B : Nat} (hB : B ≤ w.heap.size) : Row (w.alloc (.cells #[] 5)) B (.slice (some ⟨w.heap.size, 0, none⟩) 0 0) [] :=
  ⟨rfl, Or.inr ⟨w.heap.size, 0, #[], rfl, hB, heap_alloc_new _ _, Nat.le_refl _, Nat.zero_le _, rfl, rfl⟩⟩
/-- append of bytes to nothing, the answer a slice in a new block or none. -/
theorem run_copy {w : World} {B : Nat} {po : Option Addr} {m c : Nat} {bs : List Int} (hB : B ≤ w.heap.size) (hb : Byts w po m bs) (hpo : po = none → c = 0) (hl : m ≤ 140737488355328) :
    ∃ a n c' w', (Builtin.append_ #[25, 25] 25 #[.slice (some ⟨w.heap.size, 0, none⟩) 0 0, .slice po m c]).run Try.prog (w.alloc (.cells #[] 5)) = .ok (.slice a n c') w' ∧ Row w' B (.slice a n c') bs ∧ Below w.heap.size w w' ∧ (∀ g, (Value.slice a n c').ownBlock = some g → w.heap.size ≤ g) := by
  have hal : Below w.heap.size w (w.alloc (.cells #[] 5)) := (Below.refl _ _).alloc (Nat.le_refl _) _
  obtain ⟨v', w', hr, r1, g1, b1⟩ := run_append_bytes (row_empty_new hB) (hb.below hal) hpo (by simpa using hl) (by simp; omega) 25
  obtain ⟨a', c', rfl, _⟩ := r1.slice
  refine ⟨_, _, _, w', hr, by simpa using r1, hal.trans ((Off.of_grown g1).below (by simp) (fun k e => by simp [Value.ownBlock] at e; omega)), fun g e => ?_⟩
  rcases b1 with q | q
  · rw [q] at e; simp [Value.ownBlock] at e; omega
  · rw [q, Option.some.injEq] at e; simp at e; omega
set_option maxRecDepth 100000 in
set_option maxHeartbeats 2000000 in
theorem rCut0_out {w : World} {B R : Nat} {v : Nat → Value} {x : Nat → List Int} {dead : Bool} {left na ns nc : Int} (n : Int) (h : Rk w B R v x dead left na ns nc) (hn : n < 0 ∨ ((x 0).length : Int) + ((x 1).length : Int) < n) : Calls Try.prog 37 #[.pointer (some ⟨R, 0, none⟩), .int .i64 0, .int .i64 n] w fun e w' => e = .returned (.int .i64 2) ∧ ∃ k, w' = w.drewN k := by
  have HS : Hid (Calls Try.prog 70 #[.pointer (some ⟨R, 0, none⟩), .int .i64 0] w fun e w' => e = .returned (.int .i64 (((x 0).length : Int) + ((x 1).length : Int))) ∧ ∃ k, w' = w.drewN k) := rsize0 h
  clear h
  by_cases hz : n < 0
  · clear hn
    go_enter Try.func37, Try.ntmps37
    go_wp2_with fail
    go_ret
    exact ⟨rfl, 0, rfl⟩
  · have hn2 : ((x 0).length : Int) + ((x 1).length : Int) < n := by omega
    clear hn
    go_enter Try.func37, Try.ntmps37
    go_wp2_with fail
    refine HS.out.mono ?_
    rintro e w1 ⟨rfl, k1, rfl⟩
    go_wp2_with fail
    go_ret
    exact ⟨rfl, k1, rfl⟩
set_option maxRecDepth 100000 in
set_option maxHeartbeats 2000000 in
theorem rCut0_dead {w : World} {B R : Nat} {v : Nat → Value} {x : Nat → List Int} {dead : Bool} {left na ns nc : Int} (n : Nat) (h : Rk w B R v x dead left na ns nc) (hd : goesOn dead left = false) (hn : n ≤ (x 0).length + (x 1).length) : Calls Try.prog 37 #[.pointer (some ⟨R, 0, none⟩), .int .i64 0, .int .i64 (n : Int)] w fun e w' => e = .returned (.int .i64 8) ∧ Rk w' B R v x true left na ns nc ∧ RStep w w' R v v := by
  have HS : Hid (Calls Try.prog 70 #[.pointer (some ⟨R, 0, none⟩), .int .i64 0] w fun e w' => e = .returned (.int .i64 (((x 0).length : Int) + ((x 1).length : Int))) ∧ ∃ k, w' = w.drewN k) := rsize0 h
  have HW : Hid (∀ k, Calls Try.prog 68 #[.pointer (some ⟨R, 0, none⟩)] (w.drewN k) fun e w' => e = .returned (.bool false) ∧ Rk w' B R v x true left na ns nc ∧ RStep w w' R v v) := fun k => (rwrite_no (h.drewN k) hd).mono (fun e w' ⟨h1, h2, h3⟩ => ⟨h1, h2, (RStep.drewN w R v k).trans h3⟩)
  obtain ⟨n0, hn0⟩ : ∃ n, (x 0).length = n := ⟨_, rfl⟩
  obtain ⟨n1, hn1⟩ : ∃ n, (x 1).length = n := ⟨_, rfl⟩
  rw [hn0, hn1] at HS hn
  have hgt : ¬ (n0 : Int) + n1 < n := by omega
  clear h hn0 hn1
  go_enter Try.func37, Try.ntmps37
  go_wp2_with fail
  refine HS.out.mono ?_
  rintro e w1 ⟨rfl, k1, rfl⟩
  go_wp2_with fail
  refine (HW.out k1).mono ?_
  rintro e w2 ⟨rfl, hr, hs⟩
  have HF : Hid (Rk w2 B R v x true left na ns nc ∧ RStep w w2 R v v) := ⟨hr, hs⟩
  clear hr hs
  go_wp2_with fail
  go_ret
  exact ⟨rfl, HF.out⟩
set_option maxRecDepth 100000 in
set_option maxHeartbeats 4000000 in
theorem rCut0_low {w : World} {B R : Nat} {v : Nat → Value} {x : Nat → List Int} {left na ns nc : Int} (n : Nat) (h : Rk w B R v x false left na ns nc) (hd : left ≠ 0) (hn : n ≤ (x 0).length) :
    Calls Try.prog 37 #[.pointer (some ⟨R, 0, none⟩), .int .i64 0, .int .i64 (n : Int)] w fun e w' => e = .returned (.int .i64 0) ∧ ∃ v', Rk w' B R v' (upd (upd x 0 ((x 0).take n)) 1 []) false (leftOn left) na ns (oneMore nc) ∧ RStep w w' R v v' := by
  have HS : Hid (Calls Try.prog 70 #[.pointer (some ⟨R, 0, none⟩), .int .i64 0] w fun e w' => e = .returned (.int .i64 (((x 0).length : Int) + ((x 1).length : Int))) ∧ ∃ k, w' = w.drewN k) := rsize0 h
  have HW : Hid (∀ k, Calls Try.prog 68 #[.pointer (some ⟨R, 0, none⟩)] (w.drewN k) fun e w' => e = .returned (.bool true) ∧ Rk w' B R v x false (leftOn left) na ns nc ∧ RStep w w' R v v) := fun k => (rwrite_yes (h.drewN k) hd).mono (fun e w' ⟨h1, h2, h3⟩ => ⟨h1, h2, (RStep.drewN w R v k).trans h3⟩)
  have HBN := h.bn
  have hll := h.len 0 (by decide)
  obtain ⟨at1, ct1, et1, hcap, _, hpt1⟩ := (h.row 0 (by decide)).slice
  have HT : Hid (v 0 = .slice at1 (x 0).length ct1 ∧ (at1 = none → ct1 = 0)) := ⟨et1, fun e => (hpt1 e).2⟩
  have hat : at1 = none → n = 0 := fun e => by have := (hpt1 e).1; omega
  have HZ : Hid (at1 = none → (x 0).length = 0) := fun e => (hpt1 e).1
  obtain ⟨n0, hn0⟩ : ∃ n, (x 0).length = n := ⟨_, rfl⟩
  obtain ⟨n1, hn1⟩ : ∃ n, (x 1).length = n := ⟨_, rfl⟩
  have HN0 : Hid ((x 0).length = n0) := hn0
  rw [hn0, hn1] at HS
  rw [hn0] at hn HT hll hcap HZ
  have hgt : ¬ (n0 : Int) + n1 < n := by omega
  have hle : (n : Int) ≤ n0 := by omega
  have hnc : (n : Int) ≤ (ct1 : Int) := by omega
  clear h et1 hpt1 hn0 hn1
  go_enter Try.func37, Try.ntmps37
  go_wp2_with fail
  refine HS.out.mono ?_
  rintro e w1 ⟨rfl, k1, rfl⟩
  go_wp2_with fail
  refine (HW.out k1).mono ?_
  rintro e w2 ⟨rfl, hr, hs⟩
  have k0 := hr.cell 0 (by decide)
  rw [HT.out.1] at k0
  have hrow := hr.row 0 (by decide)
  rw [HT.out.1] at hrow
  have hBw : B ≤ w2.heap.size := by have h1 := hr.hB; have h2 := hr.hR; omega
  obtain ⟨a3, n3, c3, w3, e3, r3, o3, b3⟩ := run_copy (c := ct1) hBw (hrow.cutTo (m := n) hn) HT.out.2 (by omega)
  have q0 : (w2.alloc (.cells #[] 5)).cell? ⟨R, 0, none⟩ = some (.slice at1 n0 ct1) := by rw [World.cell?_alloc_lt _ _ ⟨R, 0, none⟩ hr.hR]; exact k0
  have d1 : w3.cell? ⟨R, 0, none⟩ = some (.slice at1 n0 ct1) := by rw [o3.cell (p := ⟨R, 0, none⟩) hr.hR]; exact k0
  have d2 : w3.frozen? ⟨R, 0, none⟩ = false := by rw [o3.frozen (p := ⟨R, 0, none⟩) hr.hR]; exact hr.fr 0
  have d3 : w3.cell? ⟨R, 1, none⟩ = some (v 1) := by rw [o3.cell (p := ⟨R, 1, none⟩) hr.hR]; exact hr.cell 1 (by decide)
  have d4 : w3.frozen? ⟨R, 1, none⟩ = false := by rw [o3.frozen (p := ⟨R, 1, none⟩) hr.hR]; exact hr.fr 1
  have d5 : w3.cell? ⟨R, 8, none⟩ = some (.int .i64 nc) := by rw [o3.cell (p := ⟨R, 8, none⟩) hr.hR]; exact hr.c8
  have d6 : w3.frozen? ⟨R, 8, none⟩ = false := by rw [o3.frozen (p := ⟨R, 8, none⟩) hr.hR]; exact hr.fr 8
  obtain ⟨p1, p2⟩ := hr.put (q := 0) (by decide) (w' := w3) (y := .slice a3 n3 c3) (zs := (x 0).take n) (Off.of_below o3) r3 (fun g e => Or.inr (b3 g e)) (by rw [List.length_take]; omega)
  have HP : Hid (Rk (w3.setCell ⟨R, 0, none⟩ (.slice a3 n3 c3)) B R (upd v 0 (.slice a3 n3 c3)) (upd x 0 ((x 0).take n)) false (leftOn left) na ns nc ∧ RStep w (w3.setCell ⟨R, 0, none⟩ (.slice a3 n3 c3)) R v (upd v 0 (.slice a3 n3 c3))) := ⟨p1, hs.trans p2⟩
  clear hr hs hrow r3 o3 b3 p1 p2
  have HQ : Hid (Rk ((w3.setCell ⟨R, 0, none⟩ (.slice a3 n3 c3)).setCell ⟨R, 1, none⟩ (.slice none 0 0)) B R (upd (upd v 0 (.slice a3 n3 c3)) 1 (.slice none 0 0)) (upd (upd x 0 ((x 0).take n)) 1 []) false (leftOn left) na ns nc ∧ RStep w ((w3.setCell ⟨R, 0, none⟩ (.slice a3 n3 c3)).setCell ⟨R, 1, none⟩ (.slice none 0 0)) R v (upd (upd v 0 (.slice a3 n3 c3)) 1 (.slice none 0 0))) := by
    obtain ⟨h1, h2⟩ := HP.out.1.put (q := 1) (by decide) (w' := w3.setCell ⟨R, 0, none⟩ (.slice a3 n3 c3)) (y := .slice none 0 0) (zs := []) (Off.refl _ _) (Row.nil _ _) (fun g e => by cases e) (by simp)
    exact ⟨h1, HP.out.2.trans h2⟩
  have HG : Hid (Rk (((w3.setCell ⟨R, 0, none⟩ (.slice a3 n3 c3)).setCell ⟨R, 1, none⟩ (.slice none 0 0)).setCell ⟨R, 8, none⟩ (.int .i64 (oneMore nc))) B R (upd (upd v 0 (.slice a3 n3 c3)) 1 (.slice none 0 0)) (upd (upd x 0 ((x 0).take n)) 1 []) false (leftOn left) na ns (oneMore nc) ∧ RStep w (((w3.setCell ⟨R, 0, none⟩ (.slice a3 n3 c3)).setCell ⟨R, 1, none⟩ (.slice none 0 0)).setCell ⟨R, 8, none⟩ (.int .i64 (oneMore nc))) R v (upd (upd v 0 (.slice a3 n3 c3)) 1 (.slice none 0 0))) := by
    obtain ⟨h1, h2⟩ := HQ.out.1.set8 (oneMore nc) (oneMore_bn ⟨HBN.2.2.2.2.2.2.1, HBN.2.2.2.2.2.2.2⟩)
    exact ⟨h1, HQ.out.2.trans h2⟩
  clear HP HQ
  cases at1 with
  | none =>
    obtain rfl : n = 0 := hat rfl
    obtain rfl : n0 = 0 := by have := HZ.out rfl; omega
    go_wp2_with (at_builtin; refine wpList_append_run rfl (.tmp 43) (.tmp 49) 25 _ rfl e3 ?_)
    refine (rmore_any _ _ ⟨HBN.2.2.2.2.2.2.1, HBN.2.2.2.2.2.2.2⟩).mono ?_
    rintro e w5 ⟨rfl, hw5⟩
    rw [hw5]
    clear hw5
    go_wp2_with fail
    go_ret
    exact ⟨rfl, _, HG.out⟩
  | some ad =>
    go_wp2_with (at_builtin; refine wpList_append_run rfl (.tmp 43) (.tmp 49) 25 _ rfl e3 ?_)
    refine (rmore_any _ _ ⟨HBN.2.2.2.2.2.2.1, HBN.2.2.2.2.2.2.2⟩).mono ?_
    rintro e w5 ⟨rfl, hw5⟩
    rw [hw5]
    clear hw5
    go_wp2_with fail
    go_ret
    exact ⟨rfl, _, HG.out⟩
set_option maxRecDepth 100000 in
set_option maxHeartbeats 2000000 in
theorem rCut1_out {w : World} {B R : Nat} {v : Nat → Value} {x : Nat → List Int} {dead : Bool} {left na ns nc : Int} (n : Int) (h : Rk w B R v x dead left na ns nc) (hn : n < 0 ∨ ((x 2).length : Int) + ((x 3).length : Int) < n) : Calls Try.prog 37 #[.pointer (some ⟨R, 0, none⟩), .int .i64 1, .int .i64 n] w fun e w' => e = .returned (.int .i64 2) ∧ ∃ k, w' = w.drewN k := by
  have HS : Hid (Calls Try.prog 70 #[.pointer (some ⟨R, 0, none⟩), .int .i64 1] w fun e w' => e = .returned (.int .i64 (((x 2).length : Int) + ((x 3).length : Int))) ∧ ∃ k, w' = w.drewN k) := rsize1 h
  clear h
  by_cases hz : n < 0
  · clear hn
    go_enter Try.func37, Try.ntmps37
    go_wp2_with fail
    go_ret
    exact ⟨rfl, 0, rfl⟩
  · have hn2 : ((x 2).length : Int) + ((x 3).length : Int) < n := by omega
    clear hn
    go_enter Try.func37, Try.ntmps37
    go_wp2_with fail
    refine HS.out.mono ?_
    rintro e w1 ⟨rfl, k1, rfl⟩
    go_wp2_with fail
    go_ret
    exact ⟨rfl, k1, rfl⟩
set_option maxRecDepth 100000 in
set_option maxHeartbeats 2000000 in
theorem rCut1_dead {w : World} {B R : Nat} {v : Nat → Value} {x : Nat → List Int} {dead : Bool} {left na ns nc : Int} (n : Nat) (h : Rk w B R v x dead left na ns nc) (hd : goesOn dead left = false) (hn : n ≤ (x 2).length + (x 3).length) : Calls Try.prog 37 #[.pointer (some ⟨R, 0, none⟩), .int .i64 1, .int .i64 (n : Int)] w fun e w' => e = .returned (.int .i64 8) ∧ Rk w' B R v x true left na ns nc ∧ RStep w w' R v v := by
  have HS : Hid (Calls Try.prog 70 #[.pointer (some ⟨R, 0, none⟩), .int .i64 1] w fun e w' => e = .returned (.int .i64 (((x 2).length : Int) + ((x 3).length : Int))) ∧ ∃ k, w' = w.drewN k) := rsize1 h
  have HW : Hid (∀ k, Calls Try.prog 68 #[.pointer (some ⟨R, 0, none⟩)] (w.drewN k) fun e w' => e = .returned (.bool false) ∧ Rk w' B R v x true left na ns nc ∧ RStep w w' R v v) := fun k => (rwrite_no (h.drewN k) hd).mono (fun e w' ⟨h1, h2, h3⟩ => ⟨h1, h2, (RStep.drewN w R v k).trans h3⟩)
  obtain ⟨n0, hn0⟩ : ∃ n, (x 2).length = n := ⟨_, rfl⟩
  obtain ⟨n1, hn1⟩ : ∃ n, (x 3).length = n := ⟨_, rfl⟩
  rw [hn0, hn1] at HS hn
  have hgt : ¬ (n0 : Int) + n1 < n := by omega
  clear h hn0 hn1
  go_enter Try.func37, Try.ntmps37
  go_wp2_with fail
  refine HS.out.mono ?_
  rintro e w1 ⟨rfl, k1, rfl⟩
  go_wp2_with fail
  refine (HW.out k1).mono ?_
  rintro e w2 ⟨rfl, hr, hs⟩
  have HF : Hid (Rk w2 B R v x true left na ns nc ∧ RStep w w2 R v v) := ⟨hr, hs⟩
  clear hr hs
  go_wp2_with fail
  go_ret
  exact ⟨rfl, HF.out⟩
set_option maxRecDepth 100000 in
set_option maxHeartbeats 4000000 in
theorem rCut1_low {w : World} {B R : Nat} {v : Nat → Value} {x : Nat → List Int} {left na ns nc : Int} (n : Nat) (h : Rk w B R v x false left na ns nc) (hd : left ≠ 0) (hn : n ≤ (x 2).length) :
    Calls Try.prog 37 #[.pointer (some ⟨R, 0, none⟩), .int .i64 1, .int .i64 (n : Int)] w fun e w' => e = .returned (.int .i64 0) ∧ ∃ v', Rk w' B R v' (upd (upd x 2 ((x 2).take n)) 3 []) false (leftOn left) na ns (oneMore nc) ∧ RStep w w' R v v' := by
  have HS : Hid (Calls Try.prog 70 #[.pointer (some ⟨R, 0, none⟩), .int .i64 1] w fun e w' => e = .returned (.int .i64 (((x 2).length : Int) + ((x 3).length : Int))) ∧ ∃ k, w' = w.drewN k) := rsize1 h
  have HW : Hid (∀ k, Calls Try.prog 68 #[.pointer (some ⟨R, 0, none⟩)] (w.drewN k) fun e w' => e = .returned (.bool true) ∧ Rk w' B R v x false (leftOn left) na ns nc ∧ RStep w w' R v v) := fun k => (rwrite_yes (h.drewN k) hd).mono (fun e w' ⟨h1, h2, h3⟩ => ⟨h1, h2, (RStep.drewN w R v k).trans h3⟩)
  have HBN := h.bn
  have hll := h.len 2 (by decide)
  obtain ⟨at1, ct1, et1, hcap, _, hpt1⟩ := (h.row 2 (by decide)).slice
  have HT : Hid (v 2 = .slice at1 (x 2).length ct1 ∧ (at1 = none → ct1 = 0)) := ⟨et1, fun e => (hpt1 e).2⟩
  have hat : at1 = none → n = 0 := fun e => by have := (hpt1 e).1; omega
  have HZ : Hid (at1 = none → (x 2).length = 0) := fun e => (hpt1 e).1
  obtain ⟨n0, hn0⟩ : ∃ n, (x 2).length = n := ⟨_, rfl⟩
  obtain ⟨n1, hn1⟩ : ∃ n, (x 3).length = n := ⟨_, rfl⟩
  have HN0 : Hid ((x 2).length = n0) := hn0
  rw [hn0, hn1] at HS
  rw [hn0] at hn HT hll hcap HZ
  have hgt : ¬ (n0 : Int) + n1 < n := by omega
  have hle : (n : Int) ≤ n0 := by omega
  have hnc : (n : Int) ≤ (ct1 : Int) := by omega
  clear h et1 hpt1 hn0 hn1
  go_enter Try.func37, Try.ntmps37
  go_wp2_with fail
  refine HS.out.mono ?_
  rintro e w1 ⟨rfl, k1, rfl⟩
  go_wp2_with fail
  refine (HW.out k1).mono ?_
  rintro e w2 ⟨rfl, hr, hs⟩
  have k0 := hr.cell 2 (by decide)
  rw [HT.out.1] at k0
  have hrow := hr.row 2 (by decide)
  rw [HT.out.1] at hrow
  have hBw : B ≤ w2.heap.size := by have h1 := hr.hB; have h2 := hr.hR; omega
  obtain ⟨a3, n3, c3, w3, e3, r3, o3, b3⟩ := run_copy (c := ct1) hBw (hrow.cutTo (m := n) hn) HT.out.2 (by omega)
  have q0 : (w2.alloc (.cells #[] 5)).cell? ⟨R, 2, none⟩ = some (.slice at1 n0 ct1) := by rw [World.cell?_alloc_lt _ _ ⟨R, 2, none⟩ hr.hR]; exact k0
  have d1 : w3.cell? ⟨R, 2, none⟩ = some (.slice at1 n0 ct1) := by rw [o3.cell (p := ⟨R, 2, none⟩) hr.hR]; exact k0
  have d2 : w3.frozen? ⟨R, 2, none⟩ = false := by rw [o3.frozen (p := ⟨R, 2, none⟩) hr.hR]; exact hr.fr 2
  have d3 : w3.cell? ⟨R, 3, none⟩ = some (v 3) := by rw [o3.cell (p := ⟨R, 3, none⟩) hr.hR]; exact hr.cell 3 (by decide)
  have d4 : w3.frozen? ⟨R, 3, none⟩ = false := by rw [o3.frozen (p := ⟨R, 3, none⟩) hr.hR]; exact hr.fr 3
  have d5 : w3.cell? ⟨R, 8, none⟩ = some (.int .i64 nc) := by rw [o3.cell (p := ⟨R, 8, none⟩) hr.hR]; exact hr.c8
  have d6 : w3.frozen? ⟨R, 8, none⟩ = false := by rw [o3.frozen (p := ⟨R, 8, none⟩) hr.hR]; exact hr.fr 8
  obtain ⟨p1, p2⟩ := hr.put (q := 2) (by decide) (w' := w3) (y := .slice a3 n3 c3) (zs := (x 2).take n) (Off.of_below o3) r3 (fun g e => Or.inr (b3 g e)) (by rw [List.length_take]; omega)
  have HP : Hid (Rk (w3.setCell ⟨R, 2, none⟩ (.slice a3 n3 c3)) B R (upd v 2 (.slice a3 n3 c3)) (upd x 2 ((x 2).take n)) false (leftOn left) na ns nc ∧ RStep w (w3.setCell ⟨R, 2, none⟩ (.slice a3 n3 c3)) R v (upd v 2 (.slice a3 n3 c3))) := ⟨p1, hs.trans p2⟩
  clear hr hs hrow r3 o3 b3 p1 p2
  have HQ : Hid (Rk ((w3.setCell ⟨R, 2, none⟩ (.slice a3 n3 c3)).setCell ⟨R, 3, none⟩ (.slice none 0 0)) B R (upd (upd v 2 (.slice a3 n3 c3)) 3 (.slice none 0 0)) (upd (upd x 2 ((x 2).take n)) 3 []) false (leftOn left) na ns nc ∧ RStep w ((w3.setCell ⟨R, 2, none⟩ (.slice a3 n3 c3)).setCell ⟨R, 3, none⟩ (.slice none 0 0)) R v (upd (upd v 2 (.slice a3 n3 c3)) 3 (.slice none 0 0))) := by
    obtain ⟨h1, h2⟩ := HP.out.1.put (q := 3) (by decide) (w' := w3.setCell ⟨R, 2, none⟩ (.slice a3 n3 c3)) (y := .slice none 0 0) (zs := []) (Off.refl _ _) (Row.nil _ _) (fun g e => by cases e) (by simp)
    exact ⟨h1, HP.out.2.trans h2⟩
  have HG : Hid (Rk (((w3.setCell ⟨R, 2, none⟩ (.slice a3 n3 c3)).setCell ⟨R, 3, none⟩ (.slice none 0 0)).setCell ⟨R, 8, none⟩ (.int .i64 (oneMore nc))) B R (upd (upd v 2 (.slice a3 n3 c3)) 3 (.slice none 0 0)) (upd (upd x 2 ((x 2).take n)) 3 []) false (leftOn left) na ns (oneMore nc) ∧ RStep w (((w3.setCell ⟨R, 2, none⟩ (.slice a3 n3 c3)).setCell ⟨R, 3, none⟩ (.slice none 0 0)).setCell ⟨R, 8, none⟩ (.int .i64 (oneMore nc))) R v (upd (upd v 2 (.slice a3 n3 c3)) 3 (.slice none 0 0))) := by
    obtain ⟨h1, h2⟩ := HQ.out.1.set8 (oneMore nc) (oneMore_bn ⟨HBN.2.2.2.2.2.2.1, HBN.2.2.2.2.2.2.2⟩)
    exact ⟨h1, HQ.out.2.trans h2⟩
  clear HP HQ
  cases at1 with
  | none =>
    obtain rfl : n = 0 := hat rfl
    obtain rfl : n0 = 0 := by have := HZ.out rfl; omega
    go_wp2_with (at_builtin; refine wpList_append_run rfl (.tmp 43) (.tmp 49) 25 _ rfl e3 ?_)
    refine (rmore_any _ _ ⟨HBN.2.2.2.2.2.2.1, HBN.2.2.2.2.2.2.2⟩).mono ?_
    rintro e w5 ⟨rfl, hw5⟩
    rw [hw5]
    clear hw5
    go_wp2_with fail
    go_ret
    exact ⟨rfl, _, HG.out⟩
  | some ad =>
    go_wp2_with (at_builtin; refine wpList_append_run rfl (.tmp 43) (.tmp 49) 25 _ rfl e3 ?_)
    refine (rmore_any _ _ ⟨HBN.2.2.2.2.2.2.1, HBN.2.2.2.2.2.2.2⟩).mono ?_
    rintro e w5 ⟨rfl, hw5⟩
    rw [hw5]
    clear hw5
    go_wp2_with fail
    go_ret
    exact ⟨rfl, _, HG.out⟩
end Go.Proofs.Ytlgjjemfckmidaa
