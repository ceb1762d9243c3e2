/-
  The calls of the document's disk. (Typed by gen/mkref.py.)
-/
import Derived.Test.YtlgjjemfckmidaaRfBase
namespace Go.Proofs.Ytlgjjemfckmidaa
open Go.RowKit

/-- Bytes that stand apart, if there are any. -/
theorem Byts.off' {P : Nat → Prop} {w w' : World} {po : Option Addr} {n : Nat} {bs : List Int} (h : Byts w po n bs) (ho : Off P w w') (hP : 0 < n → ∀ b o, po = some ⟨b, o, none⟩ → ¬ P b) : Byts w' po n bs :=
  ⟨h.len, fun j hj => by
    obtain ⟨b, o, e, hl, hc⟩ := h.cell j hj
    exact ⟨b, o, e, Nat.lt_of_lt_of_le hl ho.size, by rw [ho.cell (p := ⟨b, o + j, none⟩) hl (hP (by omega) b o e)]; exact hc⟩⟩

/-- Whether a write is done; what the fuse is then. -/
def goesOn (dead : Bool) (left : Int) : Bool := !(dead || left == 0)
theorem RStep.drewN (w : World) (R : Nat) (v : Nat → Value) (k : Nat) : RStep w (w.drewN k) R v v := ⟨(Off.refl _ _).drewN _, fun _ _ g => g⟩
def leftOn (left : Int) : Int := if 0 < left then left - 1 else left
def oneMore (n : Int) : Int := if 9007199254740992 ≤ n then 9007199254740992 else n + 1
set_option maxHeartbeats 1000000 in
theorem rmore_any (n : Int) (w : World) (hn : 0 ≤ n ∧ n ≤ 9007199254740992) : Calls Try.prog 69 #[.int .i64 n] w fun e w' => e = .returned (.int .i64 (oneMore n)) ∧ w' = w := by
  by_cases h : 9007199254740992 ≤ n
  · unfold oneMore
    rw [if_pos h]
    go_enter Try.func69, Try.ntmps69
    go_wp2
    go_ret
    exact ⟨rfl, rfl⟩
  · unfold oneMore
    rw [if_neg h]
    go_enter Try.func69, Try.ntmps69
    go_wp2
    go_ret
    exact ⟨rfl, rfl⟩
theorem oneMore_bn {n : Int} (h : 0 ≤ n ∧ n ≤ 9007199254740992) : 0 ≤ oneMore n ∧ oneMore n ≤ 9007199254740992 := by
  unfold oneMore; split <;> omega
set_option maxHeartbeats 2000000 in
theorem rwrite_yes {w : World} {B R : Nat} {v : Nat → Value} {x : Nat → List Int} {left na ns nc : Int} (h : Rk w B R v x false left na ns nc) (hl : left ≠ 0) :
    Calls Try.prog 68 #[.pointer (some ⟨R, 0, none⟩)] w fun e w' => e = .returned (.bool true) ∧ Rk w' B R v x false (leftOn left) na ns nc ∧ RStep w w' R v v := by
  have c4 := h.c4
  have c5 := h.c5
  have f5 := h.fr 5
  have hb := h.bn
  have h0 : (left == 0) = false := by simpa using hl
  by_cases hp : 0 < left
  · have HK : Hid (Rk (w.setCell ⟨R, 5, none⟩ (.int .i64 (left - 1))) B R v x false (leftOn left) na ns nc ∧ RStep w (w.setCell ⟨R, 5, none⟩ (.int .i64 (left - 1))) R v v) := by
      have := h.set5 (left - 1) (by omega)
      unfold leftOn
      rw [if_pos hp]
      exact this
    clear h
    go_enter Try.func68, Try.ntmps68
    go_wp2
    go_ret
    exact ⟨rfl, HK.out⟩
  · have HK : Hid (Rk w B R v x false (leftOn left) na ns nc ∧ RStep w w R v v) := by
      unfold leftOn
      rw [if_neg hp]
      exact ⟨h, RStep.refl _ _ _⟩
    clear h
    go_enter Try.func68, Try.ntmps68
    go_wp2
    go_ret
    exact ⟨rfl, HK.out⟩
set_option maxHeartbeats 2000000 in
theorem rwrite_no {w : World} {B R : Nat} {v : Nat → Value} {x : Nat → List Int} {dead : Bool} {left na ns nc : Int} (h : Rk w B R v x dead left na ns nc) (hl : goesOn dead left = false) :
    Calls Try.prog 68 #[.pointer (some ⟨R, 0, none⟩)] w fun e w' => e = .returned (.bool false) ∧ Rk w' B R v x true left na ns nc ∧ RStep w w' R v v := by
  have c4 := h.c4
  have c5 := h.c5
  have f4 := h.fr 4
  have HK : Hid (Rk (w.setCell ⟨R, 4, none⟩ (.bool true)) B R v x true left na ns nc ∧ RStep w (w.setCell ⟨R, 4, none⟩ (.bool true)) R v v) := h.set4 true
  clear h
  cases dead with
  | true =>
    go_enter Try.func68, Try.ntmps68
    go_wp2
    go_ret
    exact ⟨rfl, HK.out⟩
  | false =>
    obtain rfl : left = 0 := by simpa [goesOn] using hl
    go_enter Try.func68, Try.ntmps68
    go_wp2
    go_ret
    exact ⟨rfl, HK.out⟩
set_option maxHeartbeats 1000000 in
theorem rAlive_any {w : World} {B R : Nat} {v : Nat → Value} {x : Nat → List Int} {dead : Bool} {left na ns nc : Int} (h : Rk w B R v x dead left na ns nc) : Calls Try.prog 48 #[.pointer (some ⟨R, 0, none⟩)] w fun e w' => e = .returned (.bool (!dead)) ∧ w' = w := by
  have c4 := h.c4
  clear h
  cases dead with
  | true =>
    go_enter Try.func48, Try.ntmps48
    go_wp2
    go_ret
    exact ⟨rfl, rfl⟩
  | false =>
    go_enter Try.func48, Try.ntmps48
    go_wp2
    go_ret
    exact ⟨rfl, rfl⟩
set_option maxHeartbeats 1000000 in
theorem rCounts_any {w : World} {B R : Nat} {v : Nat → Value} {x : Nat → List Int} {dead : Bool} {left na ns nc : Int} (h : Rk w B R v x dead left na ns nc) : Calls Try.prog 47 #[.pointer (some ⟨R, 0, none⟩)] w fun e w' => e = .returned (.agg #[.int .i64 na, .int .i64 ns, .int .i64 nc]) ∧ Below w.heap.size w w' := by
  have hA : Rk (w.alloc (.cells #[.int .i64 0, .int .i64 0, .int .i64 0] 73)) B R v x dead left na ns nc := h.below ((Below.refl _ _).alloc (Nat.le_refl _) _)
  have c6 := hA.c6
  have c7 := hA.c7
  have c8 := hA.c8
  clear h hA
  go_enter Try.func47, Try.ntmps47
  go_wp2
  exact bodyPost_ret (v := .agg #[.int .i64 na, .int .i64 ns, .int .i64 nc]) (by simp [results, Try.results47, go_sem]) rfl ⟨rfl, (Below.refl _ _).alloc (Nat.le_refl _) _⟩
set_option maxHeartbeats 1000000 in
theorem rFuse_any {w : World} {B R : Nat} {v : Nat → Value} {x : Nat → List Int} {dead : Bool} {left na ns nc : Int} (n : Int) (h : Rk w B R v x dead left na ns nc) (hn : -9223372036854775808 ≤ n ∧ n ≤ 9223372036854775807) : Calls Try.prog 43 #[.pointer (some ⟨R, 0, none⟩), .int .i64 n] w fun e w' => e = .returned (.tuple #[]) ∧ Rk w' B R v x dead (if dead then left else if n < 0 then -1 else n) na ns nc ∧ RStep w w' R v v := by
  have c4 := h.c4
  have c5 := h.c5
  have f5 := h.fr 5
  cases dead with
  | true =>
    have HK : Hid (Rk w B R v x true left na ns nc) := h
    clear h
    go_enter Try.func43, Try.ntmps43
    go_wp2
    exact bodyPost_ret (v := .tuple #[]) (by simp [results, Try.results43, go_sem]) rfl ⟨rfl, HK.out, RStep.refl _ _ _⟩
  | false =>
    by_cases h0 : n < 0
    · have HK : Hid (Rk ((w.setCell ⟨R, 5, none⟩ (.int .i64 n)).setCell ⟨R, 5, none⟩ (.int .i64 (-1))) B R v x false (-1) na ns nc ∧ RStep w ((w.setCell ⟨R, 5, none⟩ (.int .i64 n)).setCell ⟨R, 5, none⟩ (.int .i64 (-1))) R v v) := h.set55 _ _ (by omega)
      rw [if_neg (by decide), if_pos h0]
      clear h
      go_enter Try.func43, Try.ntmps43
      go_wp2
      go_end0
      exact ⟨rfl, HK.out⟩
    · have HK : Hid (Rk (w.setCell ⟨R, 5, none⟩ (.int .i64 n)) B R v x false n na ns nc ∧ RStep w (w.setCell ⟨R, 5, none⟩ (.int .i64 n)) R v v) := h.set5 n (by omega)
      rw [if_neg (by decide), if_neg h0]
      clear h
      go_enter Try.func43, Try.ntmps43
      go_wp2
      go_end0
      exact ⟨rfl, HK.out⟩

set_option maxHeartbeats 1000000 in
theorem rAppend_bad {w : World} {B R : Nat} {v : Nat → Value} {x : Nat → List Int} {dead : Bool} {left na ns nc : Int} {po : Option Addr} {m c : Nat} (ar : Int) (h0 : ar ≠ 0) (h1 : ar ≠ 1) (_h : Rk w B R v x dead left na ns nc) : Calls Try.prog 67 #[.pointer (some ⟨R, 0, none⟩), .int .i64 ar, .slice po m c] w fun e w' => e = .returned (.int .i64 2) ∧ w' = w := by
  have e0 : (ar != 0) = true := by simpa using h0
  have e1 : (ar != 1) = true := by simpa using h1
  clear _h
  go_enter Try.func67, Try.ntmps67
  go_wp2_with fail
  go_ret
  exact ⟨rfl, rfl⟩
set_option maxHeartbeats 1000000 in
theorem rSync_bad {w : World} {B R : Nat} {v : Nat → Value} {x : Nat → List Int} {dead : Bool} {left na ns nc : Int} (ar : Int) (h0 : ar ≠ 0) (h1 : ar ≠ 1) (_h : Rk w B R v x dead left na ns nc) : Calls Try.prog 36 #[.pointer (some ⟨R, 0, none⟩), .int .i64 ar] w fun e w' => e = .returned (.int .i64 2) ∧ w' = w := by
  have e0 : (ar != 0) = true := by simpa using h0
  have e1 : (ar != 1) = true := by simpa using h1
  clear _h
  go_enter Try.func36, Try.ntmps36
  go_wp2_with fail
  go_ret
  exact ⟨rfl, rfl⟩
set_option maxHeartbeats 1000000 in
theorem rCut_bad {w : World} {B R : Nat} {v : Nat → Value} {x : Nat → List Int} {dead : Bool} {left na ns nc : Int} (ar n : Int) (h0 : ar ≠ 0) (h1 : ar ≠ 1) (_h : Rk w B R v x dead left na ns nc) : Calls Try.prog 37 #[.pointer (some ⟨R, 0, none⟩), .int .i64 ar, .int .i64 n] w fun e w' => e = .returned (.int .i64 2) ∧ w' = w := by
  have e0 : (ar != 0) = true := by simpa using h0
  have e1 : (ar != 1) = true := by simpa using h1
  clear _h
  go_enter Try.func37, Try.ntmps37
  go_wp2_with fail
  go_ret
  exact ⟨rfl, rfl⟩
set_option maxHeartbeats 1000000 in
theorem rRead_bad {w : World} {B R : Nat} {v : Nat → Value} {x : Nat → List Int} {dead : Bool} {left na ns nc : Int} (ar n k : Int) (h0 : ar ≠ 0) (h1 : ar ≠ 1) (_h : Rk w B R v x dead left na ns nc) : Calls Try.prog 72 #[.pointer (some ⟨R, 0, none⟩), .int .i64 ar, .int .i64 n, .int .i64 k] w fun e w' => e = .returned (.tuple #[.slice none 0 0, .int .i64 2]) ∧ w' = w := by
  have e0 : (ar != 0) = true := by simpa using h0
  have e1 : (ar != 1) = true := by simpa using h1
  clear _h
  go_enter Try.func72, Try.ntmps72
  go_wp2_with fail
  exact bodyPost_ret (v := .tuple #[.slice none 0 0, .int .i64 2]) (by simp [results, Try.results72, go_sem]) rfl ⟨rfl, rfl⟩
set_option maxHeartbeats 1000000 in
theorem rSize_bad {w : World} {B R : Nat} {v : Nat → Value} {x : Nat → List Int} {dead : Bool} {left na ns nc : Int} (ar : Int) (h0 : ar ≠ 0) (h1 : ar ≠ 1) (_h : Rk w B R v x dead left na ns nc) : Calls Try.prog 41 #[.pointer (some ⟨R, 0, none⟩), .int .i64 ar] w fun e w' => e = .returned (.tuple #[.int .i64 0, .int .i64 2]) ∧ w' = w := by
  have e0 : (ar != 0) = true := by simpa using h0
  have e1 : (ar != 1) = true := by simpa using h1
  clear _h
  go_enter Try.func41, Try.ntmps41
  go_wp2_with fail
  exact bodyPost_ret (v := .tuple #[.int .i64 0, .int .i64 2]) (by simp [results, Try.results41, go_sem]) rfl ⟨rfl, rfl⟩
set_option maxHeartbeats 1000000 in
theorem rSafe_bad {w : World} {B R : Nat} {v : Nat → Value} {x : Nat → List Int} {dead : Bool} {left na ns nc : Int} (ar : Int) (h0 : ar ≠ 0) (h1 : ar ≠ 1) (_h : Rk w B R v x dead left na ns nc) : Calls Try.prog 42 #[.pointer (some ⟨R, 0, none⟩), .int .i64 ar] w fun e w' => e = .returned (.tuple #[.int .i64 0, .int .i64 2]) ∧ w' = w := by
  have e0 : (ar != 0) = true := by simpa using h0
  have e1 : (ar != 1) = true := by simpa using h1
  clear _h
  go_enter Try.func42, Try.ntmps42
  go_wp2_with fail
  exact bodyPost_ret (v := .tuple #[.int .i64 0, .int .i64 2]) (by simp [results, Try.results42, go_sem]) rfl ⟨rfl, rfl⟩

set_option maxHeartbeats 1000000 in
theorem rsize0 {w : World} {B R : Nat} {v : Nat → Value} {x : Nat → List Int} {dead : Bool} {left na ns nc : Int} (h : Rk w B R v x dead left na ns nc) : Calls Try.prog 70 #[.pointer (some ⟨R, 0, none⟩), .int .i64 0] w fun e w' => e = .returned (.int .i64 (((x 0).length : Int) + ((x 1).length : Int))) ∧ ∃ k, w' = w.drewN k := by
  have k0 := h.cell 0 (by decide)
  have k1 := h.cell 1 (by decide)
  obtain ⟨a0, b0, e0, _⟩ := (h.row 0 (by decide)).slice
  obtain ⟨a1, b1, e1, _⟩ := (h.row 1 (by decide)).slice
  rw [e0] at k0
  rw [e1] at k1
  have hl := h.len 0 (by decide)
  have hl2 := h.len 1 (by decide)
  obtain ⟨n0, hn0⟩ : ∃ n, (x 0).length = n := ⟨_, rfl⟩
  obtain ⟨n1, hn1⟩ : ∃ n, (x 1).length = n := ⟨_, rfl⟩
  rw [hn0] at k0 hl ⊢
  rw [hn1] at k1 hl2 ⊢
  clear h e0 e1 hn0 hn1
  go_enter Try.func70, Try.ntmps70
  go_wp2
  go_quiet (fail)
  go_wp2
  go_ret
  exact ⟨rfl, _, rfl⟩
set_option maxRecDepth 100000 in
set_option maxHeartbeats 2000000 in
theorem rAppend0_full {w : World} {B R : Nat} {v : Nat → Value} {x : Nat → List Int} {dead : Bool} {left na ns nc : Int} {po : Option Addr} {m c : Nat} (h : Rk w B R v x dead left na ns nc) (hm : 16777216 < (x 0).length + (x 1).length + m) (hm2 : m ≤ 140737488355328) : Calls Try.prog 67 #[.pointer (some ⟨R, 0, none⟩), .int .i64 0, .slice po m c] w fun e w' => e = .returned (.int .i64 7) ∧ ∃ k, w' = w.drewN k := by
  have HS := rsize0 h
  have hl := h.len 0 (by decide)
  have hl2 := h.len 1 (by decide)
  have HS2 : Hid (Calls Try.prog 70 #[.pointer (some ⟨R, 0, none⟩), .int .i64 0] w fun e w' => e = .returned (.int .i64 (((x 0).length : Int) + ((x 1).length : Int))) ∧ ∃ k, w' = w.drewN k) := HS
  obtain ⟨n0, hn0⟩ : ∃ n, (x 0).length = n := ⟨_, rfl⟩
  obtain ⟨n1, hn1⟩ : ∃ n, (x 1).length = n := ⟨_, rfl⟩
  rw [hn0, hn1] at HS2 hm
  rw [hn0] at hl
  rw [hn1] at hl2
  have hgt : (16777216 : Int) - ((n0 : Int) + n1) < m := by omega
  clear h HS hn0 hn1
  go_enter Try.func67, Try.ntmps67
  go_wp2_with fail
  refine HS2.out.mono ?_
  rintro e w1 ⟨rfl, k1, rfl⟩
  go_wp2_with fail
  go_ret
  exact ⟨rfl, k1, rfl⟩
set_option maxRecDepth 100000 in
set_option maxHeartbeats 2000000 in
theorem rAppend0_dead {w : World} {B R : Nat} {v : Nat → Value} {x : Nat → List Int} {dead : Bool} {left na ns nc : Int} {po : Option Addr} {m c : Nat} (h : Rk w B R v x dead left na ns nc) (hd : goesOn dead left = false) (hm : (x 0).length + (x 1).length + m ≤ 16777216) : Calls Try.prog 67 #[.pointer (some ⟨R, 0, none⟩), .int .i64 0, .slice po m c] w fun e w' => e = .returned (.int .i64 8) ∧ Rk w' B R v x true left na ns nc ∧ RStep w w' R v v := by
  have HS := rsize0 h
  have HW : Hid (∀ k, Calls Try.prog 68 #[.pointer (some ⟨R, 0, none⟩)] (w.drewN k) fun e w' => e = .returned (.bool false) ∧ Rk w' B R v x true left na ns nc ∧ RStep w w' R v v) := fun k => (rwrite_no (h.drewN k) hd).mono (fun e w' ⟨h1, h2, h3⟩ => ⟨h1, h2, (RStep.drewN w R v k).trans h3⟩)
  have HS2 : Hid (Calls Try.prog 70 #[.pointer (some ⟨R, 0, none⟩), .int .i64 0] w fun e w' => e = .returned (.int .i64 (((x 0).length : Int) + ((x 1).length : Int))) ∧ ∃ k, w' = w.drewN k) := HS
  obtain ⟨n0, hn0⟩ : ∃ n, (x 0).length = n := ⟨_, rfl⟩
  obtain ⟨n1, hn1⟩ : ∃ n, (x 1).length = n := ⟨_, rfl⟩
  rw [hn0, hn1] at HS2 hm
  have hgt : ¬ (16777216 : Int) - ((n0 : Int) + n1) < m := by omega
  clear h HS hn0 hn1
  go_enter Try.func67, Try.ntmps67
  go_wp2_with fail
  refine HS2.out.mono ?_
  rintro e w1 ⟨rfl, k1, rfl⟩
  go_wp2_with fail
  refine (HW.out k1).mono ?_
  rintro e w2 ⟨rfl, hr, hs⟩
  have HF : Hid (Rk w2 B R v x true left na ns nc ∧ RStep w w2 R v v) := ⟨hr, hs⟩
  clear hr hs
  go_wp2_with fail
  go_ret
  exact ⟨rfl, HF.out⟩
set_option maxRecDepth 100000 in
set_option maxHeartbeats 4000000 in
theorem rAppend0_ok {w : World} {B R : Nat} {v : Nat → Value} {x : Nat → List Int} {left na ns nc : Int} {po : Option Addr} {m c : Nat} {bs : List Int} (h : Rk w B R v x false left na ns nc) (hd : left ≠ 0) (hm : (x 0).length + (x 1).length + m ≤ 16777216) (hb : Byts w po m bs) (hpo : po = none → c = 0) (hno : 0 < m → ∀ b o, po = some ⟨b, o, none⟩ → ¬ RFoot R v b) :
    Calls Try.prog 67 #[.pointer (some ⟨R, 0, none⟩), .int .i64 0, .slice po m c] w fun e w' => e = .returned (.int .i64 0) ∧ ∃ y, Rk w' B R (upd v 1 y) (upd x 1 (x 1 ++ bs)) false (leftOn left) (oneMore na) ns nc ∧ RStep w w' R v (upd v 1 y) := by
  have HS := rsize0 h
  have HW : Hid (∀ k, Calls Try.prog 68 #[.pointer (some ⟨R, 0, none⟩)] (w.drewN k) fun e w' => e = .returned (.bool true) ∧ Rk w' B R v x false (leftOn left) na ns nc ∧ RStep w w' R v v) := fun k => (rwrite_yes (h.drewN k) hd).mono (fun e w' ⟨h1, h2, h3⟩ => ⟨h1, h2, (RStep.drewN w R v k).trans h3⟩)
  have HS2 : Hid (Calls Try.prog 70 #[.pointer (some ⟨R, 0, none⟩), .int .i64 0] w fun e w' => e = .returned (.int .i64 (((x 0).length : Int) + ((x 1).length : Int))) ∧ ∃ k, w' = w.drewN k) := HS
  have HM : Hid ((x 0).length + (x 1).length + m ≤ 16777216) := hm
  have HBN := h.bn
  have HB : Hid (Byts w po m bs ∧ (po = none → c = 0) ∧ (0 < m → ∀ b o, po = some ⟨b, o, none⟩ → ¬ RFoot R v b)) := ⟨hb, hpo, hno⟩
  obtain ⟨n0, hn0⟩ : ∃ n, (x 0).length = n := ⟨_, rfl⟩
  obtain ⟨n1, hn1⟩ : ∃ n, (x 1).length = n := ⟨_, rfl⟩
  rw [hn0, hn1] at HS2 hm
  have hgt : ¬ (16777216 : Int) - ((n0 : Int) + n1) < m := by omega
  clear h HS hn0 hn1 hb hpo hno
  go_enter Try.func67, Try.ntmps67
  go_wp2_with fail
  refine HS2.out.mono ?_
  rintro e w1 ⟨rfl, k1, rfl⟩
  go_wp2_with fail
  refine (HW.out k1).mono ?_
  rintro e w2 ⟨rfl, hr, hs⟩
  have k1 := hr.cell 1 (by decide)
  have b2 : Byts w2 po m bs := HB.out.1.off' hs.off HB.out.2.2
  have HF : Hid (Rk w2 B R v x false (leftOn left) na ns nc ∧ RStep w w2 R v v ∧ Byts w2 po m bs) := ⟨hr, hs, b2⟩
  clear hr hs b2
  go_wp2_with fail
  go_region_law (refine step_app (w0 := w2) rfl (.tmp 33) (.tmp 34) rfl rfl rfl (HF.out.1.row 1 (by decide)) HF.out.2.2 HB.out.2.1 (by have := HM.out; omega) (by have h1 := HF.out.1.hB; have h2 := HF.out.1.hR; omega) (by first | exact Off.refl _ _ | exact (Off.refl _ _).drew | exact (Off.refl _ _).drewN _) ?_; intro a' n' c' w3 hR hO hA; have d1 : w3.cell? ⟨R, 1, none⟩ = some (v 1) := (hO.cell (p := ⟨R, 1, none⟩) HF.out.1.hR (HF.out.1.own 1 (by decide))).trans (HF.out.1.cell 1 (by decide)); have d2 : w3.frozen? ⟨R, 1, none⟩ = false := (hO.frozen (p := ⟨R, 1, none⟩) HF.out.1.hR (HF.out.1.own 1 (by decide))).trans (HF.out.1.fr 1))
  all_goals
    have hp : Hid (∃ k, Rk (w3.setCell ⟨R, 1, none⟩ (.slice a' n' c')) B R (upd v 1 (.slice a' n' c')) (upd x 1 (x 1 ++ bs)) false (leftOn left) na ns nc ∧ RStep w (w3.setCell ⟨R, 1, none⟩ (.slice a' n' c')) R v (upd v 1 (.slice a' n' c')) ∧ k = 0) := by
      obtain ⟨h1, h2⟩ := HF.out.1.put (q := 1) (by decide) hO hR hA (by
        have h9 := HM.out
        have h8 := HF.out.2.2.len
        rw [List.length_append]
        omega)
      exact ⟨0, h1, HF.out.2.1.trans h2, rfl⟩
    clear hR hO hA d1 d2
    obtain ⟨w4, hw4⟩ : ∃ y, w3.setCell ⟨R, 1, none⟩ (.slice a' n' c') = y := ⟨_, rfl⟩
    rw [hw4] at hp ⊢
    clear hw4
    obtain ⟨_, hq1, hq2, _⟩ := hp.out
    have c6 := hq1.c6
    have f6 := hq1.fr 6
    have HG : Hid (Rk (w4.setCell ⟨R, 6, none⟩ (.int .i64 (oneMore na))) B R (upd v 1 (.slice a' n' c')) (upd x 1 (x 1 ++ bs)) false (leftOn left) (oneMore na) ns nc ∧ RStep w (w4.setCell ⟨R, 6, none⟩ (.int .i64 (oneMore na))) R v (upd v 1 (.slice a' n' c'))) := by
      obtain ⟨h1, h2⟩ := hq1.set6 (oneMore na) (oneMore_bn ⟨HBN.2.2.1, HBN.2.2.2.1⟩)
      exact ⟨h1, hq2.trans h2⟩
    clear hq1 hq2 hp
    go_wp2_with fail
    refine (rmore_any _ _ ⟨HBN.2.2.1, HBN.2.2.2.1⟩).mono ?_
    rintro e w5 ⟨rfl, hw5⟩
    rw [hw5]
    clear hw5
    go_wp2_with fail
    go_ret
    exact ⟨rfl, _, HG.out⟩
set_option maxRecDepth 100000 in
set_option maxHeartbeats 2000000 in
theorem rSize0_ok {w : World} {B R : Nat} {v : Nat → Value} {x : Nat → List Int} {dead : Bool} {left na ns nc : Int} (h : Rk w B R v x dead left na ns nc) : Calls Try.prog 41 #[.pointer (some ⟨R, 0, none⟩), .int .i64 0] w fun e w' => e = .returned (.tuple #[.int .i64 (((x 0).length : Int) + ((x 1).length : Int)), .int .i64 0]) ∧ ∃ k, w' = w.drewN k := by
  have HS : Hid (Calls Try.prog 70 #[.pointer (some ⟨R, 0, none⟩), .int .i64 0] w fun e w' => e = .returned (.int .i64 (((x 0).length : Int) + ((x 1).length : Int))) ∧ ∃ k, w' = w.drewN k) := rsize0 h
  clear h
  go_enter Try.func41, Try.ntmps41
  go_wp2_with fail
  refine HS.out.mono ?_
  rintro e w1 ⟨rfl, k1, rfl⟩
  go_wp2_with fail
  exact bodyPost_ret (v := .tuple #[.int .i64 (((x 0).length : Int) + ((x 1).length : Int)), .int .i64 0]) (by simp [results, Try.results41, go_sem]) rfl ⟨rfl, k1, rfl⟩
set_option maxRecDepth 100000 in
set_option maxHeartbeats 2000000 in
theorem rSafe0_ok {w : World} {B R : Nat} {v : Nat → Value} {x : Nat → List Int} {dead : Bool} {left na ns nc : Int} (h : Rk w B R v x dead left na ns nc) : Calls Try.prog 42 #[.pointer (some ⟨R, 0, none⟩), .int .i64 0] w fun e w' => e = .returned (.tuple #[.int .i64 ((x 0).length : Int), .int .i64 0]) ∧ w' = w := by
  have k0 := h.cell 0 (by decide)
  obtain ⟨a0, b0, e0, _⟩ := (h.row 0 (by decide)).slice
  rw [e0] at k0
  clear h e0
  go_enter Try.func42, Try.ntmps42
  go_wp2
  exact bodyPost_ret (v := .tuple #[.int .i64 ((x 0).length : Int), .int .i64 0]) (by simp [results, Try.results42, go_sem]) rfl ⟨rfl, rfl⟩
set_option maxRecDepth 100000 in
set_option maxHeartbeats 2000000 in
theorem rSync0_dead {w : World} {B R : Nat} {v : Nat → Value} {x : Nat → List Int} {dead : Bool} {left na ns nc : Int} (h : Rk w B R v x dead left na ns nc) (hd : goesOn dead left = false) : Calls Try.prog 36 #[.pointer (some ⟨R, 0, none⟩), .int .i64 0] w fun e w' => e = .returned (.int .i64 8) ∧ Rk w' B R v x true left na ns nc ∧ RStep w w' R v v := by
  have HW : Hid (Calls Try.prog 68 #[.pointer (some ⟨R, 0, none⟩)] w fun e w' => e = .returned (.bool false) ∧ Rk w' B R v x true left na ns nc ∧ RStep w w' R v v) := rwrite_no h hd
  clear h
  go_enter Try.func36, Try.ntmps36
  go_wp2_with fail
  refine HW.out.mono ?_
  rintro e w2 ⟨rfl, hr, hs⟩
  have HF : Hid (Rk w2 B R v x true left na ns nc ∧ RStep w w2 R v v) := ⟨hr, hs⟩
  clear hr hs
  go_wp2_with fail
  go_ret
  exact ⟨rfl, HF.out⟩
set_option maxRecDepth 100000 in
set_option maxHeartbeats 4000000 in
theorem rSync0_ok {w : World} {B R : Nat} {v : Nat → Value} {x : Nat → List Int} {left na ns nc : Int} (h : Rk w B R v x false left na ns nc) (hd : left ≠ 0) (hsum : (x 0).length + (x 1).length ≤ 16777216) :
    Calls Try.prog 36 #[.pointer (some ⟨R, 0, none⟩), .int .i64 0] w fun e w' => e = .returned (.int .i64 0) ∧ ∃ y, Rk w' B R (upd (upd v 0 y) 1 (.slice none 0 0)) (upd (upd x 0 (x 0 ++ x 1)) 1 []) false (leftOn left) na (oneMore ns) nc ∧ RStep w w' R v (upd (upd v 0 y) 1 (.slice none 0 0)) := by
  have HW : Hid (Calls Try.prog 68 #[.pointer (some ⟨R, 0, none⟩)] w fun e w' => e = .returned (.bool true) ∧ Rk w' B R v x false (leftOn left) na ns nc ∧ RStep w w' R v v) := rwrite_yes h hd
  have HBN := h.bn
  obtain ⟨at1, ct1, et1, _, _, hpt1⟩ := (h.row 1 (by decide)).slice
  have HT : Hid (v 1 = .slice at1 (x 1).length ct1 ∧ (at1 = none → ct1 = 0)) := ⟨et1, fun e => (hpt1 e).2⟩
  have HM : Hid ((x 0).length + (x 1).length ≤ 16777216) := hsum
  clear h et1 hpt1
  go_enter Try.func36, Try.ntmps36
  go_wp2_with fail
  refine HW.out.mono ?_
  rintro e w2 ⟨rfl, hr, hs⟩
  have k0 := hr.cell 0 (by decide)
  have k1 := hr.cell 1 (by decide)
  rw [HT.out.1] at k1
  have b2 : Byts w2 at1 (x 1).length (x 1) := by
    have h1 := hr.row 1 (by decide)
    rw [HT.out.1] at h1
    exact h1.asByts0
  have HF : Hid (Rk w2 B R v x false (leftOn left) na ns nc ∧ RStep w w2 R v v ∧ Byts w2 at1 (x 1).length (x 1)) := ⟨hr, hs, b2⟩
  clear hr hs b2
  go_wp2_with fail
  go_region_law (refine step_app (w0 := w2) rfl (.tmp 24) (.tmp 31) rfl rfl rfl (HF.out.1.row 0 (by decide)) HF.out.2.2 HT.out.2 (by have := HM.out; omega) (by have h1 := HF.out.1.hB; have h2 := HF.out.1.hR; omega) (by first | exact Off.refl _ _ | exact (Off.refl _ _).drew | exact (Off.refl _ _).drewN _) ?_; intro a' n' c' w3 hR hO hA; have d1 : w3.cell? ⟨R, 0, none⟩ = some (v 0) := (hO.cell (p := ⟨R, 0, none⟩) HF.out.1.hR (HF.out.1.own 0 (by decide))).trans (HF.out.1.cell 0 (by decide)); have d2 : w3.frozen? ⟨R, 0, none⟩ = false := (hO.frozen (p := ⟨R, 0, none⟩) HF.out.1.hR (HF.out.1.own 0 (by decide))).trans (HF.out.1.fr 0))
  all_goals
    have hp : Hid (Rk (w3.setCell ⟨R, 0, none⟩ (.slice a' n' c')) B R (upd v 0 (.slice a' n' c')) (upd x 0 (x 0 ++ x 1)) false (leftOn left) na ns nc ∧ RStep w (w3.setCell ⟨R, 0, none⟩ (.slice a' n' c')) R v (upd v 0 (.slice a' n' c'))) := by
      obtain ⟨h1, h2⟩ := HF.out.1.put (q := 0) (by decide) hO hR hA (by rw [List.length_append]; exact HM.out)
      exact ⟨h1, HF.out.2.1.trans h2⟩
    clear hR hO hA d1 d2
    obtain ⟨w4, hw4⟩ : ∃ y, w3.setCell ⟨R, 0, none⟩ (.slice a' n' c') = y := ⟨_, rfl⟩
    rw [hw4] at hp ⊢
    clear hw4
    have k3 := hp.out.1.cell 1 (by decide)
    have f3 := hp.out.1.fr 1
    obtain ⟨hq1, hq2⟩ := hp.out.1.put (q := 1) (by decide) (w' := w4) (y := .slice none 0 0) (zs := []) (Off.refl _ _) (Row.nil _ _) (fun g e => by cases e) (by simp)
    have HP : Hid (Rk (w4.setCell ⟨R, 1, none⟩ (.slice none 0 0)) B R (upd (upd v 0 (.slice a' n' c')) 1 (.slice none 0 0)) (upd (upd x 0 (x 0 ++ x 1)) 1 []) false (leftOn left) na ns nc ∧ RStep w (w4.setCell ⟨R, 1, none⟩ (.slice none 0 0)) R v (upd (upd v 0 (.slice a' n' c')) 1 (.slice none 0 0))) := ⟨hq1, hp.out.2.trans hq2⟩
    have c7 := hq1.c7
    have f7 := hq1.fr 7
    have g7 := hp.out.1.c7
    have HG : Hid (Rk ((w4.setCell ⟨R, 1, none⟩ (.slice none 0 0)).setCell ⟨R, 7, none⟩ (.int .i64 (oneMore ns))) B R (upd (upd v 0 (.slice a' n' c')) 1 (.slice none 0 0)) (upd (upd x 0 (x 0 ++ x 1)) 1 []) false (leftOn left) na (oneMore ns) nc ∧ RStep w ((w4.setCell ⟨R, 1, none⟩ (.slice none 0 0)).setCell ⟨R, 7, none⟩ (.int .i64 (oneMore ns))) R v (upd (upd v 0 (.slice a' n' c')) 1 (.slice none 0 0))) := by
      obtain ⟨h1, h2⟩ := HP.out.1.set7 (oneMore ns) (oneMore_bn ⟨HBN.2.2.2.2.1, HBN.2.2.2.2.2.1⟩)
      exact ⟨h1, HP.out.2.trans h2⟩
    have g7f := hp.out.1.fr 7
    clear hq1 hq2 hp HP c7 f7
    go_wp2_with fail
    refine (rmore_any _ _ ⟨HBN.2.2.2.2.1, HBN.2.2.2.2.2.1⟩).mono ?_
    rintro e w5 ⟨rfl, hw5⟩
    rw [hw5]
    clear hw5
    go_wp2_with fail
    go_ret
    exact ⟨rfl, _, HG.out⟩

set_option maxHeartbeats 1000000 in
theorem rsize1 {w : World} {B R : Nat} {v : Nat → Value} {x : Nat → List Int} {dead : Bool} {left na ns nc : Int} (h : Rk w B R v x dead left na ns nc) : Calls Try.prog 70 #[.pointer (some ⟨R, 0, none⟩), .int .i64 1] w fun e w' => e = .returned (.int .i64 (((x 2).length : Int) + ((x 3).length : Int))) ∧ ∃ k, w' = w.drewN k := by
  have k0 := h.cell 2 (by decide)
  have k1 := h.cell 3 (by decide)
  obtain ⟨a0, b0, e0, _⟩ := (h.row 2 (by decide)).slice
  obtain ⟨a1, b1, e1, _⟩ := (h.row 3 (by decide)).slice
  rw [e0] at k0
  rw [e1] at k1
  have hl := h.len 2 (by decide)
  have hl2 := h.len 3 (by decide)
  obtain ⟨n0, hn0⟩ : ∃ n, (x 2).length = n := ⟨_, rfl⟩
  obtain ⟨n1, hn1⟩ : ∃ n, (x 3).length = n := ⟨_, rfl⟩
  rw [hn0] at k0 hl ⊢
  rw [hn1] at k1 hl2 ⊢
  clear h e0 e1 hn0 hn1
  go_enter Try.func70, Try.ntmps70
  go_wp2
  go_quiet (fail)
  go_wp2
  go_ret
  exact ⟨rfl, _, rfl⟩
set_option maxRecDepth 100000 in
set_option maxHeartbeats 2000000 in
theorem rAppend1_full {w : World} {B R : Nat} {v : Nat → Value} {x : Nat → List Int} {dead : Bool} {left na ns nc : Int} {po : Option Addr} {m c : Nat} (h : Rk w B R v x dead left na ns nc) (hm : 16777216 < (x 2).length + (x 3).length + m) (hm2 : m ≤ 140737488355328) : Calls Try.prog 67 #[.pointer (some ⟨R, 0, none⟩), .int .i64 1, .slice po m c] w fun e w' => e = .returned (.int .i64 7) ∧ ∃ k, w' = w.drewN k := by
  have HS := rsize1 h
  have hl := h.len 2 (by decide)
  have hl2 := h.len 3 (by decide)
  have HS2 : Hid (Calls Try.prog 70 #[.pointer (some ⟨R, 0, none⟩), .int .i64 1] w fun e w' => e = .returned (.int .i64 (((x 2).length : Int) + ((x 3).length : Int))) ∧ ∃ k, w' = w.drewN k) := HS
  obtain ⟨n0, hn0⟩ : ∃ n, (x 2).length = n := ⟨_, rfl⟩
  obtain ⟨n1, hn1⟩ : ∃ n, (x 3).length = n := ⟨_, rfl⟩
  rw [hn0, hn1] at HS2 hm
  rw [hn0] at hl
  rw [hn1] at hl2
  have hgt : (16777216 : Int) - ((n0 : Int) + n1) < m := by omega
  clear h HS hn0 hn1
  go_enter Try.func67, Try.ntmps67
  go_wp2_with fail
  refine HS2.out.mono ?_
  rintro e w1 ⟨rfl, k1, rfl⟩
  go_wp2_with fail
  go_ret
  exact ⟨rfl, k1, rfl⟩
set_option maxRecDepth 100000 in
set_option maxHeartbeats 2000000 in
theorem rAppend1_dead {w : World} {B R : Nat} {v : Nat → Value} {x : Nat → List Int} {dead : Bool} {left na ns nc : Int} {po : Option Addr} {m c : Nat} (h : Rk w B R v x dead left na ns nc) (hd : goesOn dead left = false) (hm : (x 2).length + (x 3).length + m ≤ 16777216) : Calls Try.prog 67 #[.pointer (some ⟨R, 0, none⟩), .int .i64 1, .slice po m c] w fun e w' => e = .returned (.int .i64 8) ∧ Rk w' B R v x true left na ns nc ∧ RStep w w' R v v := by
  have HS := rsize1 h
  have HW : Hid (∀ k, Calls Try.prog 68 #[.pointer (some ⟨R, 0, none⟩)] (w.drewN k) fun e w' => e = .returned (.bool false) ∧ Rk w' B R v x true left na ns nc ∧ RStep w w' R v v) := fun k => (rwrite_no (h.drewN k) hd).mono (fun e w' ⟨h1, h2, h3⟩ => ⟨h1, h2, (RStep.drewN w R v k).trans h3⟩)
  have HS2 : Hid (Calls Try.prog 70 #[.pointer (some ⟨R, 0, none⟩), .int .i64 1] w fun e w' => e = .returned (.int .i64 (((x 2).length : Int) + ((x 3).length : Int))) ∧ ∃ k, w' = w.drewN k) := HS
  obtain ⟨n0, hn0⟩ : ∃ n, (x 2).length = n := ⟨_, rfl⟩
  obtain ⟨n1, hn1⟩ : ∃ n, (x 3).length = n := ⟨_, rfl⟩
  rw [hn0, hn1] at HS2 hm
  have hgt : ¬ (16777216 : Int) - ((n0 : Int) + n1) < m := by omega
  clear h HS hn0 hn1
  go_enter Try.func67, Try.ntmps67
  go_wp2_with fail
  refine HS2.out.mono ?_
  rintro e w1 ⟨rfl, k1, rfl⟩
  go_wp2_with fail
  refine (HW.out k1).mono ?_
  rintro e w2 ⟨rfl, hr, hs⟩
  have HF : Hid (Rk w2 B R v x true left na ns nc ∧ RStep w w2 R v v) := ⟨hr, hs⟩
  clear hr hs
  go_wp2_with fail
  go_ret
  exact ⟨rfl, HF.out⟩
set_option maxRecDepth 100000 in
set_option maxHeartbeats 4000000 in
theorem rAppend1_ok {w : World} {B R : Nat} {v : Nat → Value} {x : Nat → List Int} {left na ns nc : Int} {po : Option Addr} {m c : Nat} {bs : List Int} (h : Rk w B R v x false left na ns nc) (hd : left ≠ 0) (hm : (x 2).length + (x 3).length + m ≤ 16777216) (hb : Byts w po m bs) (hpo : po = none → c = 0) (hno : 0 < m → ∀ b o, po = some ⟨b, o, none⟩ → ¬ RFoot R v b) :
    Calls Try.prog 67 #[.pointer (some ⟨R, 0, none⟩), .int .i64 1, .slice po m c] w fun e w' => e = .returned (.int .i64 0) ∧ ∃ y, Rk w' B R (upd v 3 y) (upd x 3 (x 3 ++ bs)) false (leftOn left) (oneMore na) ns nc ∧ RStep w w' R v (upd v 3 y) := by
  have HS := rsize1 h
  have HW : Hid (∀ k, Calls Try.prog 68 #[.pointer (some ⟨R, 0, none⟩)] (w.drewN k) fun e w' => e = .returned (.bool true) ∧ Rk w' B R v x false (leftOn left) na ns nc ∧ RStep w w' R v v) := fun k => (rwrite_yes (h.drewN k) hd).mono (fun e w' ⟨h1, h2, h3⟩ => ⟨h1, h2, (RStep.drewN w R v k).trans h3⟩)
  have HS2 : Hid (Calls Try.prog 70 #[.pointer (some ⟨R, 0, none⟩), .int .i64 1] w fun e w' => e = .returned (.int .i64 (((x 2).length : Int) + ((x 3).length : Int))) ∧ ∃ k, w' = w.drewN k) := HS
  have HM : Hid ((x 2).length + (x 3).length + m ≤ 16777216) := hm
  have HBN := h.bn
  have HB : Hid (Byts w po m bs ∧ (po = none → c = 0) ∧ (0 < m → ∀ b o, po = some ⟨b, o, none⟩ → ¬ RFoot R v b)) := ⟨hb, hpo, hno⟩
  obtain ⟨n0, hn0⟩ : ∃ n, (x 2).length = n := ⟨_, rfl⟩
  obtain ⟨n1, hn1⟩ : ∃ n, (x 3).length = n := ⟨_, rfl⟩
  rw [hn0, hn1] at HS2 hm
  have hgt : ¬ (16777216 : Int) - ((n0 : Int) + n1) < m := by omega
  clear h HS hn0 hn1 hb hpo hno
  go_enter Try.func67, Try.ntmps67
  go_wp2_with fail
  refine HS2.out.mono ?_
  rintro e w1 ⟨rfl, k1, rfl⟩
  go_wp2_with fail
  refine (HW.out k1).mono ?_
  rintro e w2 ⟨rfl, hr, hs⟩
  have k1 := hr.cell 3 (by decide)
  have b2 : Byts w2 po m bs := HB.out.1.off' hs.off HB.out.2.2
  have HF : Hid (Rk w2 B R v x false (leftOn left) na ns nc ∧ RStep w w2 R v v ∧ Byts w2 po m bs) := ⟨hr, hs, b2⟩
  clear hr hs b2
  go_wp2_with fail
  go_region_law (refine step_app (w0 := w2) rfl (.tmp 33) (.tmp 34) rfl rfl rfl (HF.out.1.row 3 (by decide)) HF.out.2.2 HB.out.2.1 (by have := HM.out; omega) (by have h1 := HF.out.1.hB; have h2 := HF.out.1.hR; omega) (by first | exact Off.refl _ _ | exact (Off.refl _ _).drew | exact (Off.refl _ _).drewN _) ?_; intro a' n' c' w3 hR hO hA; have d1 : w3.cell? ⟨R, 3, none⟩ = some (v 3) := (hO.cell (p := ⟨R, 3, none⟩) HF.out.1.hR (HF.out.1.own 3 (by decide))).trans (HF.out.1.cell 3 (by decide)); have d2 : w3.frozen? ⟨R, 3, none⟩ = false := (hO.frozen (p := ⟨R, 3, none⟩) HF.out.1.hR (HF.out.1.own 3 (by decide))).trans (HF.out.1.fr 3))
  all_goals
    have hp : Hid (∃ k, Rk (w3.setCell ⟨R, 3, none⟩ (.slice a' n' c')) B R (upd v 3 (.slice a' n' c')) (upd x 3 (x 3 ++ bs)) false (leftOn left) na ns nc ∧ RStep w (w3.setCell ⟨R, 3, none⟩ (.slice a' n' c')) R v (upd v 3 (.slice a' n' c')) ∧ k = 0) := by
      obtain ⟨h1, h2⟩ := HF.out.1.put (q := 3) (by decide) hO hR hA (by
        have h9 := HM.out
        have h8 := HF.out.2.2.len
        rw [List.length_append]
        omega)
      exact ⟨0, h1, HF.out.2.1.trans h2, rfl⟩
    clear hR hO hA d1 d2
    obtain ⟨w4, hw4⟩ : ∃ y, w3.setCell ⟨R, 3, none⟩ (.slice a' n' c') = y := ⟨_, rfl⟩
    rw [hw4] at hp ⊢
    clear hw4
    obtain ⟨_, hq1, hq2, _⟩ := hp.out
    have c6 := hq1.c6
    have f6 := hq1.fr 6
    have HG : Hid (Rk (w4.setCell ⟨R, 6, none⟩ (.int .i64 (oneMore na))) B R (upd v 3 (.slice a' n' c')) (upd x 3 (x 3 ++ bs)) false (leftOn left) (oneMore na) ns nc ∧ RStep w (w4.setCell ⟨R, 6, none⟩ (.int .i64 (oneMore na))) R v (upd v 3 (.slice a' n' c'))) := by
      obtain ⟨h1, h2⟩ := hq1.set6 (oneMore na) (oneMore_bn ⟨HBN.2.2.1, HBN.2.2.2.1⟩)
      exact ⟨h1, hq2.trans h2⟩
    clear hq1 hq2 hp
    go_wp2_with fail
    refine (rmore_any _ _ ⟨HBN.2.2.1, HBN.2.2.2.1⟩).mono ?_
    rintro e w5 ⟨rfl, hw5⟩
    rw [hw5]
    clear hw5
    go_wp2_with fail
    go_ret
    exact ⟨rfl, _, HG.out⟩
set_option maxRecDepth 100000 in
set_option maxHeartbeats 2000000 in
theorem rSize1_ok {w : World} {B R : Nat} {v : Nat → Value} {x : Nat → List Int} {dead : Bool} {left na ns nc : Int} (h : Rk w B R v x dead left na ns nc) : Calls Try.prog 41 #[.pointer (some ⟨R, 0, none⟩), .int .i64 1] w fun e w' => e = .returned (.tuple #[.int .i64 (((x 2).length : Int) + ((x 3).length : Int)), .int .i64 0]) ∧ ∃ k, w' = w.drewN k := by
  have HS : Hid (Calls Try.prog 70 #[.pointer (some ⟨R, 0, none⟩), .int .i64 1] w fun e w' => e = .returned (.int .i64 (((x 2).length : Int) + ((x 3).length : Int))) ∧ ∃ k, w' = w.drewN k) := rsize1 h
  clear h
  go_enter Try.func41, Try.ntmps41
  go_wp2_with fail
  refine HS.out.mono ?_
  rintro e w1 ⟨rfl, k1, rfl⟩
  go_wp2_with fail
  exact bodyPost_ret (v := .tuple #[.int .i64 (((x 2).length : Int) + ((x 3).length : Int)), .int .i64 0]) (by simp [results, Try.results41, go_sem]) rfl ⟨rfl, k1, rfl⟩
set_option maxRecDepth 100000 in
set_option maxHeartbeats 2000000 in
theorem rSafe1_ok {w : World} {B R : Nat} {v : Nat → Value} {x : Nat → List Int} {dead : Bool} {left na ns nc : Int} (h : Rk w B R v x dead left na ns nc) : Calls Try.prog 42 #[.pointer (some ⟨R, 0, none⟩), .int .i64 1] w fun e w' => e = .returned (.tuple #[.int .i64 ((x 2).length : Int), .int .i64 0]) ∧ w' = w := by
  have k0 := h.cell 2 (by decide)
  obtain ⟨a0, b0, e0, _⟩ := (h.row 2 (by decide)).slice
  rw [e0] at k0
  clear h e0
  go_enter Try.func42, Try.ntmps42
  go_wp2
  exact bodyPost_ret (v := .tuple #[.int .i64 ((x 2).length : Int), .int .i64 0]) (by simp [results, Try.results42, go_sem]) rfl ⟨rfl, rfl⟩
set_option maxRecDepth 100000 in
set_option maxHeartbeats 2000000 in
theorem rSync1_dead {w : World} {B R : Nat} {v : Nat → Value} {x : Nat → List Int} {dead : Bool} {left na ns nc : Int} (h : Rk w B R v x dead left na ns nc) (hd : goesOn dead left = false) : Calls Try.prog 36 #[.pointer (some ⟨R, 0, none⟩), .int .i64 1] w fun e w' => e = .returned (.int .i64 8) ∧ Rk w' B R v x true left na ns nc ∧ RStep w w' R v v := by
  have HW : Hid (Calls Try.prog 68 #[.pointer (some ⟨R, 0, none⟩)] w fun e w' => e = .returned (.bool false) ∧ Rk w' B R v x true left na ns nc ∧ RStep w w' R v v) := rwrite_no h hd
  clear h
  go_enter Try.func36, Try.ntmps36
  go_wp2_with fail
  refine HW.out.mono ?_
  rintro e w2 ⟨rfl, hr, hs⟩
  have HF : Hid (Rk w2 B R v x true left na ns nc ∧ RStep w w2 R v v) := ⟨hr, hs⟩
  clear hr hs
  go_wp2_with fail
  go_ret
  exact ⟨rfl, HF.out⟩
set_option maxRecDepth 100000 in
set_option maxHeartbeats 4000000 in
theorem rSync1_ok {w : World} {B R : Nat} {v : Nat → Value} {x : Nat → List Int} {left na ns nc : Int} (h : Rk w B R v x false left na ns nc) (hd : left ≠ 0) (hsum : (x 2).length + (x 3).length ≤ 16777216) :
    Calls Try.prog 36 #[.pointer (some ⟨R, 0, none⟩), .int .i64 1] w fun e w' => e = .returned (.int .i64 0) ∧ ∃ y, Rk w' B R (upd (upd v 2 y) 3 (.slice none 0 0)) (upd (upd x 2 (x 2 ++ x 3)) 3 []) false (leftOn left) na (oneMore ns) nc ∧ RStep w w' R v (upd (upd v 2 y) 3 (.slice none 0 0)) := by
  have HW : Hid (Calls Try.prog 68 #[.pointer (some ⟨R, 0, none⟩)] w fun e w' => e = .returned (.bool true) ∧ Rk w' B R v x false (leftOn left) na ns nc ∧ RStep w w' R v v) := rwrite_yes h hd
  have HBN := h.bn
  obtain ⟨at1, ct1, et1, _, _, hpt1⟩ := (h.row 3 (by decide)).slice
  have HT : Hid (v 3 = .slice at1 (x 3).length ct1 ∧ (at1 = none → ct1 = 0)) := ⟨et1, fun e => (hpt1 e).2⟩
  have HM : Hid ((x 2).length + (x 3).length ≤ 16777216) := hsum
  clear h et1 hpt1
  go_enter Try.func36, Try.ntmps36
  go_wp2_with fail
  refine HW.out.mono ?_
  rintro e w2 ⟨rfl, hr, hs⟩
  have k0 := hr.cell 2 (by decide)
  have k1 := hr.cell 3 (by decide)
  rw [HT.out.1] at k1
  have b2 : Byts w2 at1 (x 3).length (x 3) := by
    have h1 := hr.row 3 (by decide)
    rw [HT.out.1] at h1
    exact h1.asByts0
  have HF : Hid (Rk w2 B R v x false (leftOn left) na ns nc ∧ RStep w w2 R v v ∧ Byts w2 at1 (x 3).length (x 3)) := ⟨hr, hs, b2⟩
  clear hr hs b2
  go_wp2_with fail
  go_region_law (refine step_app (w0 := w2) rfl (.tmp 24) (.tmp 31) rfl rfl rfl (HF.out.1.row 2 (by decide)) HF.out.2.2 HT.out.2 (by have := HM.out; omega) (by have h1 := HF.out.1.hB; have h2 := HF.out.1.hR; omega) (by first | exact Off.refl _ _ | exact (Off.refl _ _).drew | exact (Off.refl _ _).drewN _) ?_; intro a' n' c' w3 hR hO hA; have d1 : w3.cell? ⟨R, 2, none⟩ = some (v 2) := (hO.cell (p := ⟨R, 2, none⟩) HF.out.1.hR (HF.out.1.own 2 (by decide))).trans (HF.out.1.cell 2 (by decide)); have d2 : w3.frozen? ⟨R, 2, none⟩ = false := (hO.frozen (p := ⟨R, 2, none⟩) HF.out.1.hR (HF.out.1.own 2 (by decide))).trans (HF.out.1.fr 2))
  all_goals
    have hp : Hid (Rk (w3.setCell ⟨R, 2, none⟩ (.slice a' n' c')) B R (upd v 2 (.slice a' n' c')) (upd x 2 (x 2 ++ x 3)) false (leftOn left) na ns nc ∧ RStep w (w3.setCell ⟨R, 2, none⟩ (.slice a' n' c')) R v (upd v 2 (.slice a' n' c'))) := by
      obtain ⟨h1, h2⟩ := HF.out.1.put (q := 2) (by decide) hO hR hA (by rw [List.length_append]; exact HM.out)
      exact ⟨h1, HF.out.2.1.trans h2⟩
    clear hR hO hA d1 d2
    obtain ⟨w4, hw4⟩ : ∃ y, w3.setCell ⟨R, 2, none⟩ (.slice a' n' c') = y := ⟨_, rfl⟩
    rw [hw4] at hp ⊢
    clear hw4
    have k3 := hp.out.1.cell 3 (by decide)
    have f3 := hp.out.1.fr 3
    obtain ⟨hq1, hq2⟩ := hp.out.1.put (q := 3) (by decide) (w' := w4) (y := .slice none 0 0) (zs := []) (Off.refl _ _) (Row.nil _ _) (fun g e => by cases e) (by simp)
    have HP : Hid (Rk (w4.setCell ⟨R, 3, none⟩ (.slice none 0 0)) B R (upd (upd v 2 (.slice a' n' c')) 3 (.slice none 0 0)) (upd (upd x 2 (x 2 ++ x 3)) 3 []) false (leftOn left) na ns nc ∧ RStep w (w4.setCell ⟨R, 3, none⟩ (.slice none 0 0)) R v (upd (upd v 2 (.slice a' n' c')) 3 (.slice none 0 0))) := ⟨hq1, hp.out.2.trans hq2⟩
    have c7 := hq1.c7
    have f7 := hq1.fr 7
    have g7 := hp.out.1.c7
    have HG : Hid (Rk ((w4.setCell ⟨R, 3, none⟩ (.slice none 0 0)).setCell ⟨R, 7, none⟩ (.int .i64 (oneMore ns))) B R (upd (upd v 2 (.slice a' n' c')) 3 (.slice none 0 0)) (upd (upd x 2 (x 2 ++ x 3)) 3 []) false (leftOn left) na (oneMore ns) nc ∧ RStep w ((w4.setCell ⟨R, 3, none⟩ (.slice none 0 0)).setCell ⟨R, 7, none⟩ (.int .i64 (oneMore ns))) R v (upd (upd v 2 (.slice a' n' c')) 3 (.slice none 0 0))) := by
      obtain ⟨h1, h2⟩ := HP.out.1.set7 (oneMore ns) (oneMore_bn ⟨HBN.2.2.2.2.1, HBN.2.2.2.2.2.1⟩)
      exact ⟨h1, HP.out.2.trans h2⟩
    have g7f := hp.out.1.fr 7
    clear hq1 hq2 hp HP c7 f7
    go_wp2_with fail
    refine (rmore_any _ _ ⟨HBN.2.2.2.2.1, HBN.2.2.2.2.2.1⟩).mono ?_
    rintro e w5 ⟨rfl, hw5⟩
    rw [hw5]
    clear hw5
    go_wp2_with fail
    go_ret
    exact ⟨rfl, _, HG.out⟩
end Go.Proofs.Ytlgjjemfckmidaa
