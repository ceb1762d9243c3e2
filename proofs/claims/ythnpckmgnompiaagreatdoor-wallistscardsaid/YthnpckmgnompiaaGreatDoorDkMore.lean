/-
  The disk: areas that there are none of; Read. (Typed by gen/mkmore.py.)
-/
import Derived.Test.YthnpckmgnompiaaGreatDoorDkFrom
namespace Go.Proofs.YthnpckmgnompiaaGreatDoor
open Go.RowKit

set_option maxHeartbeats 1000000 in
theorem known_bad (K : Nat) (ar : Int) (w : World) (h0 : ar ≠ 0) (h1 : ar ≠ 1) : Calls Tryz.prog 76 #[.pointer (some ⟨K, 0, none⟩), .int .i64 ar] w fun e w' => e = .returned (.bool false) ∧ w' = w := by
  by_cases hn : ar < 0
  · have hn1 : ¬ 0 ≤ ar := by omega
    go_enter Tryz.func76, Tryz.ntmps76
    go_wp2_with fail
    go_ret
    exact ⟨rfl, rfl⟩
  · have hn1 : 0 ≤ ar := by omega
    have hn2 : ¬ ar < 2 := by omega
    go_enter Tryz.func76, Tryz.ntmps76
    go_wp2_with fail
    go_ret
    exact ⟨rfl, rfl⟩
set_option maxHeartbeats 1000000 in
theorem check_bad {w : World} {B K : Nat} {v0 v1 : Value} {x0 x1 : List Int} {s0 s1 : Nat} {st fu na ns nc : Int} (ar : Int) (h : Dsk w B K v0 v1 x0 x1 s0 s1 st fu na ns nc) (hst : st = 1 ∨ st = 2) (h0 : ar ≠ 0) (h1 : ar ≠ 1) : Calls Tryz.prog 49 #[.pointer (some ⟨K, 0, none⟩), .int .i64 ar] w fun e w' => e = .returned (.iface 86 (.pointer (some ⟨w.heap.size, 0, none⟩))) ∧ FaultAt w' w.heap.size 0 2 ∧ Below w.heap.size w w' := by
  have H : Hid (Dsk w B K v0 v1 x0 x1 s0 s1 st fu na ns nc) := h
  have HS : Hid (st = 1 ∨ st = 2) := hst
  clear h hst
  go_enter Tryz.func49, Tryz.ntmps49
  go_wp2_with fail
  refine (made_ok H.out HS.out).mono ?_
  rintro e w1 ⟨rfl, hw⟩
  rw [hw]
  clear hw w1
  go_wp2_with fail
  refine (known_bad K ar _ h0 h1).mono ?_
  rintro e w1 ⟨rfl, hw⟩
  rw [hw]
  clear hw w1
  go_wp2_with fail
  refine (fault_any 0 2 _).mono ?_
  rintro e w2 ⟨rfl, f2, b2⟩
  have HF2 : Hid (FaultAt w2 w.heap.size 0 2 ∧ Below w.heap.size w w2) := ⟨f2, b2⟩
  clear f2 b2
  go_wp2_with fail
  go_ret
  exact ⟨rfl, HF2.out⟩
set_option maxHeartbeats 1000000 in
theorem Append_bad {w : World} {B K : Nat} {v0 v1 : Value} {x0 x1 : List Int} {s0 s1 : Nat} {st fu na ns nc : Int} (ar : Int) {po : Option Addr} {m c : Nat} (h : Dsk w B K v0 v1 x0 x1 s0 s1 st fu na ns nc) (hst : st = 1 ∨ st = 2) (h0 : ar ≠ 0) (h1 : ar ≠ 1) : Calls Tryz.prog 54 #[.pointer (some ⟨K, 0, none⟩), .int .i64 ar, .slice po m c] w fun e w' => e = .returned (.iface 86 (.pointer (some ⟨w.heap.size, 0, none⟩))) ∧ FaultAt w' w.heap.size 0 2 ∧ Below w.heap.size w w' := by
  have HC : Hid (Calls Tryz.prog 49 #[.pointer (some ⟨K, 0, none⟩), .int .i64 ar] w fun e w' => e = .returned (.iface 86 (.pointer (some ⟨w.heap.size, 0, none⟩))) ∧ FaultAt w' w.heap.size 0 2 ∧ Below w.heap.size w w') := check_bad ar h hst h0 h1
  clear h hst h0 h1
  go_enter Tryz.func54, Tryz.ntmps54
  go_wp2_with fail
  refine HC.out.mono ?_
  rintro e w2 ⟨rfl, f2, b2⟩
  have HF2 : Hid (FaultAt w2 w.heap.size 0 2 ∧ Below w.heap.size w w2) := ⟨f2, b2⟩
  clear f2 b2
  go_wp2_with fail
  exact bodyPost_ret (v := .iface 86 (.pointer (some ⟨w.heap.size, 0, none⟩))) (by simp [results, Tryz.results54, go_sem]) rfl ⟨rfl, HF2.out⟩
set_option maxHeartbeats 1000000 in
theorem Sync_bad {w : World} {B K : Nat} {v0 v1 : Value} {x0 x1 : List Int} {s0 s1 : Nat} {st fu na ns nc : Int} (ar : Int) (h : Dsk w B K v0 v1 x0 x1 s0 s1 st fu na ns nc) (hst : st = 1 ∨ st = 2) (h0 : ar ≠ 0) (h1 : ar ≠ 1) : Calls Tryz.prog 58 #[.pointer (some ⟨K, 0, none⟩), .int .i64 ar] w fun e w' => e = .returned (.iface 86 (.pointer (some ⟨w.heap.size, 0, none⟩))) ∧ FaultAt w' w.heap.size 0 2 ∧ Below w.heap.size w w' := by
  have HC : Hid (Calls Tryz.prog 49 #[.pointer (some ⟨K, 0, none⟩), .int .i64 ar] w fun e w' => e = .returned (.iface 86 (.pointer (some ⟨w.heap.size, 0, none⟩))) ∧ FaultAt w' w.heap.size 0 2 ∧ Below w.heap.size w w') := check_bad ar h hst h0 h1
  clear h hst h0 h1
  go_enter Tryz.func58, Tryz.ntmps58
  go_wp2_with fail
  refine HC.out.mono ?_
  rintro e w2 ⟨rfl, f2, b2⟩
  have HF2 : Hid (FaultAt w2 w.heap.size 0 2 ∧ Below w.heap.size w w2) := ⟨f2, b2⟩
  clear f2 b2
  go_wp2_with fail
  exact bodyPost_ret (v := .iface 86 (.pointer (some ⟨w.heap.size, 0, none⟩))) (by simp [results, Tryz.results58, go_sem]) rfl ⟨rfl, HF2.out⟩
set_option maxHeartbeats 1000000 in
theorem Cut_bad {w : World} {B K : Nat} {v0 v1 : Value} {x0 x1 : List Int} {s0 s1 : Nat} {st fu na ns nc : Int} (ar : Int) (n : Int) (h : Dsk w B K v0 v1 x0 x1 s0 s1 st fu na ns nc) (hst : st = 1 ∨ st = 2) (h0 : ar ≠ 0) (h1 : ar ≠ 1) : Calls Tryz.prog 52 #[.pointer (some ⟨K, 0, none⟩), .int .i64 ar, .int .i64 n] w fun e w' => e = .returned (.iface 86 (.pointer (some ⟨w.heap.size, 0, none⟩))) ∧ FaultAt w' w.heap.size 0 2 ∧ Below w.heap.size w w' := by
  have HC : Hid (Calls Tryz.prog 49 #[.pointer (some ⟨K, 0, none⟩), .int .i64 ar] w fun e w' => e = .returned (.iface 86 (.pointer (some ⟨w.heap.size, 0, none⟩))) ∧ FaultAt w' w.heap.size 0 2 ∧ Below w.heap.size w w') := check_bad ar h hst h0 h1
  clear h hst h0 h1
  go_enter Tryz.func52, Tryz.ntmps52
  go_wp2_with fail
  refine HC.out.mono ?_
  rintro e w2 ⟨rfl, f2, b2⟩
  have HF2 : Hid (FaultAt w2 w.heap.size 0 2 ∧ Below w.heap.size w w2) := ⟨f2, b2⟩
  clear f2 b2
  go_wp2_with fail
  exact bodyPost_ret (v := .iface 86 (.pointer (some ⟨w.heap.size, 0, none⟩))) (by simp [results, Tryz.results52, go_sem]) rfl ⟨rfl, HF2.out⟩
set_option maxHeartbeats 1000000 in
theorem Read_bad {w : World} {B K : Nat} {v0 v1 : Value} {x0 x1 : List Int} {s0 s1 : Nat} {st fu na ns nc : Int} (ar : Int) (p n : Int) (h : Dsk w B K v0 v1 x0 x1 s0 s1 st fu na ns nc) (hst : st = 1 ∨ st = 2) (h0 : ar ≠ 0) (h1 : ar ≠ 1) : Calls Tryz.prog 88 #[.pointer (some ⟨K, 0, none⟩), .int .i64 ar, .int .i64 p, .int .i64 n] w fun e w' => e = .returned (.tuple #[.slice none 0 0, .iface 86 (.pointer (some ⟨w.heap.size, 0, none⟩))]) ∧ FaultAt w' w.heap.size 0 2 ∧ Below w.heap.size w w' := by
  have HC : Hid (Calls Tryz.prog 49 #[.pointer (some ⟨K, 0, none⟩), .int .i64 ar] w fun e w' => e = .returned (.iface 86 (.pointer (some ⟨w.heap.size, 0, none⟩))) ∧ FaultAt w' w.heap.size 0 2 ∧ Below w.heap.size w w') := check_bad ar h hst h0 h1
  clear h hst h0 h1
  go_enter Tryz.func88, Tryz.ntmps88
  go_wp2_with fail
  refine HC.out.mono ?_
  rintro e w2 ⟨rfl, f2, b2⟩
  have HF2 : Hid (FaultAt w2 w.heap.size 0 2 ∧ Below w.heap.size w w2) := ⟨f2, b2⟩
  clear f2 b2
  go_wp2_with fail
  exact bodyPost_ret (v := .tuple #[.slice none 0 0, .iface 86 (.pointer (some ⟨w.heap.size, 0, none⟩))]) (by simp [results, Tryz.results88, go_sem]) rfl ⟨rfl, HF2.out⟩
set_option maxHeartbeats 1000000 in
theorem Len_bad {w : World} {B K : Nat} {v0 v1 : Value} {x0 x1 : List Int} {s0 s1 : Nat} {st fu na ns nc : Int} (ar : Int) (h : Dsk w B K v0 v1 x0 x1 s0 s1 st fu na ns nc) (hst : st = 1 ∨ st = 2) (h0 : ar ≠ 0) (h1 : ar ≠ 1) : Calls Tryz.prog 13 #[.pointer (some ⟨K, 0, none⟩), .int .i64 ar] w fun e w' => e = .returned (.tuple #[.int .i64 0, .iface 86 (.pointer (some ⟨w.heap.size, 0, none⟩))]) ∧ FaultAt w' w.heap.size 0 2 ∧ Below w.heap.size w w' := by
  have HC : Hid (Calls Tryz.prog 49 #[.pointer (some ⟨K, 0, none⟩), .int .i64 ar] w fun e w' => e = .returned (.iface 86 (.pointer (some ⟨w.heap.size, 0, none⟩))) ∧ FaultAt w' w.heap.size 0 2 ∧ Below w.heap.size w w') := check_bad ar h hst h0 h1
  clear h hst h0 h1
  go_enter Tryz.func13, Tryz.ntmps13
  go_wp2_with fail
  refine HC.out.mono ?_
  rintro e w2 ⟨rfl, f2, b2⟩
  have HF2 : Hid (FaultAt w2 w.heap.size 0 2 ∧ Below w.heap.size w w2) := ⟨f2, b2⟩
  clear f2 b2
  go_wp2_with fail
  exact bodyPost_ret (v := .tuple #[.int .i64 0, .iface 86 (.pointer (some ⟨w.heap.size, 0, none⟩))]) (by simp [results, Tryz.results13, go_sem]) rfl ⟨rfl, HF2.out⟩
set_option maxHeartbeats 1000000 in
theorem Synced_bad {w : World} {B K : Nat} {v0 v1 : Value} {x0 x1 : List Int} {s0 s1 : Nat} {st fu na ns nc : Int} (ar : Int) (h : Dsk w B K v0 v1 x0 x1 s0 s1 st fu na ns nc) (hst : st = 1 ∨ st = 2) (h0 : ar ≠ 0) (h1 : ar ≠ 1) : Calls Tryz.prog 87 #[.pointer (some ⟨K, 0, none⟩), .int .i64 ar] w fun e w' => e = .returned (.tuple #[.int .i64 0, .iface 86 (.pointer (some ⟨w.heap.size, 0, none⟩))]) ∧ FaultAt w' w.heap.size 0 2 ∧ Below w.heap.size w w' := by
  have HC : Hid (Calls Tryz.prog 49 #[.pointer (some ⟨K, 0, none⟩), .int .i64 ar] w fun e w' => e = .returned (.iface 86 (.pointer (some ⟨w.heap.size, 0, none⟩))) ∧ FaultAt w' w.heap.size 0 2 ∧ Below w.heap.size w w') := check_bad ar h hst h0 h1
  clear h hst h0 h1
  go_enter Tryz.func87, Tryz.ntmps87
  go_wp2_with fail
  refine HC.out.mono ?_
  rintro e w2 ⟨rfl, f2, b2⟩
  have HF2 : Hid (FaultAt w2 w.heap.size 0 2 ∧ Below w.heap.size w w2) := ⟨f2, b2⟩
  clear f2 b2
  go_wp2_with fail
  exact bodyPost_ret (v := .tuple #[.int .i64 0, .iface 86 (.pointer (some ⟨w.heap.size, 0, none⟩))]) (by simp [results, Tryz.results87, go_sem]) rfl ⟨rfl, HF2.out⟩
set_option maxHeartbeats 2000000 in
theorem Read0_out {w : World} {B K : Nat} {v0 v1 : Value} {x0 x1 : List Int} {s0 s1 : Nat} {st fu na ns nc : Int} (p n : Int) (h : Dsk w B K v0 v1 x0 x1 s0 s1 st fu na ns nc) (hst : st = 1 ∨ st = 2) (hb : hasB x0.length p n = false) (hp : -9223372036854775808 ≤ p ∧ p ≤ 9223372036854775807) : Calls Tryz.prog 88 #[.pointer (some ⟨K, 0, none⟩), .int .i64 0, .int .i64 p, .int .i64 n] w fun e w' => e = .returned (.tuple #[.slice none 0 0, .iface 86 (.pointer (some ⟨w.heap.size, 0, none⟩))]) ∧ FaultAt w' w.heap.size 0 2 ∧ Below w.heap.size w w' := by
  have H : Hid (Dsk w B K v0 v1 x0 x1 s0 s1 st fu na ns nc) := h
  have HS : Hid (st = 1 ∨ st = 2) := hst
  have HH : Hid (hasB x0.length p n = false) := hb
  clear h hst hb
  go_enter Tryz.func88, Tryz.ntmps88
  go_wp2_with fail
  refine (check_ok 0 H.out HS.out (by omega)).mono ?_
  rintro e w1 ⟨rfl, hw⟩
  rw [hw]
  clear hw w1
  go_wp2_with fail
  refine (has_any p n _ H.out.a0 (by omega)).mono ?_
  rintro e w1 ⟨he, hw⟩
  rw [HH.out] at he
  subst he
  rw [hw]
  clear hw w1
  go_wp2_with fail
  refine (fault_any 0 2 _).mono ?_
  rintro e w2 ⟨rfl, f2, b2⟩
  have HF2 : Hid (FaultAt w2 w.heap.size 0 2 ∧ Below w.heap.size w w2) := ⟨f2, b2⟩
  clear f2 b2
  go_wp2_with fail
  exact bodyPost_ret (v := .tuple #[.slice none 0 0, .iface 86 (.pointer (some ⟨w.heap.size, 0, none⟩))]) (by simp [results, Tryz.results88, go_sem]) rfl ⟨rfl, HF2.out⟩
set_option maxHeartbeats 2000000 in
theorem Read0_dead {w : World} {B K : Nat} {v0 v1 : Value} {x0 x1 : List Int} {s0 s1 : Nat} {fu na ns nc : Int} (p n : Nat) (h : Dsk w B K v0 v1 x0 x1 s0 s1 2 fu na ns nc) (hb : p + n ≤ x0.length) : Calls Tryz.prog 88 #[.pointer (some ⟨K, 0, none⟩), .int .i64 0, .int .i64 (p : Int), .int .i64 (n : Int)] w fun e w' => e = .returned (.tuple #[.slice none 0 0, .iface 86 (.pointer (some ⟨w.heap.size, 0, none⟩))]) ∧ FaultAt w' w.heap.size 0 8 ∧ Below w.heap.size w w' := by
  have H : Hid (Dsk w B K v0 v1 x0 x1 s0 s1 2 fu na ns nc) := h
  have HH : Hid (hasB x0.length (p : Int) (n : Int) = true) := by unfold Hid hasB; simp; omega
  have hpl : p ≤ 16777216 := by have := h.a0.len; omega
  have c4 := h.c4
  clear h hb
  go_enter Tryz.func88, Tryz.ntmps88
  go_wp2_with fail
  refine (check_ok 0 H.out (Or.inr rfl) (by omega)).mono ?_
  rintro e w1 ⟨rfl, hw⟩
  rw [hw]
  clear hw w1
  go_wp2_with fail
  refine (has_any (p : Int) (n : Int) _ H.out.a0 (by omega)).mono ?_
  rintro e w1 ⟨he, hw⟩
  rw [HH.out] at he
  subst he
  rw [hw]
  clear hw w1
  go_wp2_with fail
  refine (fault_any 0 8 _).mono ?_
  rintro e w2 ⟨rfl, f2, b2⟩
  have HF2 : Hid (FaultAt w2 w.heap.size 0 8 ∧ Below w.heap.size w w2) := ⟨f2, b2⟩
  clear f2 b2
  go_wp2_with fail
  exact bodyPost_ret (v := .tuple #[.slice none 0 0, .iface 86 (.pointer (some ⟨w.heap.size, 0, none⟩))]) (by simp [results, Tryz.results88, go_sem]) rfl ⟨rfl, HF2.out⟩
set_option maxHeartbeats 2000000 in
theorem Read1_out {w : World} {B K : Nat} {v0 v1 : Value} {x0 x1 : List Int} {s0 s1 : Nat} {st fu na ns nc : Int} (p n : Int) (h : Dsk w B K v0 v1 x0 x1 s0 s1 st fu na ns nc) (hst : st = 1 ∨ st = 2) (hb : hasB x1.length p n = false) (hp : -9223372036854775808 ≤ p ∧ p ≤ 9223372036854775807) : Calls Tryz.prog 88 #[.pointer (some ⟨K, 0, none⟩), .int .i64 1, .int .i64 p, .int .i64 n] w fun e w' => e = .returned (.tuple #[.slice none 0 0, .iface 86 (.pointer (some ⟨w.heap.size, 0, none⟩))]) ∧ FaultAt w' w.heap.size 0 2 ∧ Below w.heap.size w w' := by
  have H : Hid (Dsk w B K v0 v1 x0 x1 s0 s1 st fu na ns nc) := h
  have HS : Hid (st = 1 ∨ st = 2) := hst
  have HH : Hid (hasB x1.length p n = false) := hb
  clear h hst hb
  go_enter Tryz.func88, Tryz.ntmps88
  go_wp2_with fail
  refine (check_ok 1 H.out HS.out (by omega)).mono ?_
  rintro e w1 ⟨rfl, hw⟩
  rw [hw]
  clear hw w1
  go_wp2_with fail
  refine (has_any p n _ H.out.a1 (by omega)).mono ?_
  rintro e w1 ⟨he, hw⟩
  rw [HH.out] at he
  subst he
  rw [hw]
  clear hw w1
  go_wp2_with fail
  refine (fault_any 0 2 _).mono ?_
  rintro e w2 ⟨rfl, f2, b2⟩
  have HF2 : Hid (FaultAt w2 w.heap.size 0 2 ∧ Below w.heap.size w w2) := ⟨f2, b2⟩
  clear f2 b2
  go_wp2_with fail
  exact bodyPost_ret (v := .tuple #[.slice none 0 0, .iface 86 (.pointer (some ⟨w.heap.size, 0, none⟩))]) (by simp [results, Tryz.results88, go_sem]) rfl ⟨rfl, HF2.out⟩
set_option maxHeartbeats 2000000 in
theorem Read1_dead {w : World} {B K : Nat} {v0 v1 : Value} {x0 x1 : List Int} {s0 s1 : Nat} {fu na ns nc : Int} (p n : Nat) (h : Dsk w B K v0 v1 x0 x1 s0 s1 2 fu na ns nc) (hb : p + n ≤ x1.length) : Calls Tryz.prog 88 #[.pointer (some ⟨K, 0, none⟩), .int .i64 1, .int .i64 (p : Int), .int .i64 (n : Int)] w fun e w' => e = .returned (.tuple #[.slice none 0 0, .iface 86 (.pointer (some ⟨w.heap.size, 0, none⟩))]) ∧ FaultAt w' w.heap.size 0 8 ∧ Below w.heap.size w w' := by
  have H : Hid (Dsk w B K v0 v1 x0 x1 s0 s1 2 fu na ns nc) := h
  have HH : Hid (hasB x1.length (p : Int) (n : Int) = true) := by unfold Hid hasB; simp; omega
  have hpl : p ≤ 16777216 := by have := h.a1.len; omega
  have c4 := h.c4
  clear h hb
  go_enter Tryz.func88, Tryz.ntmps88
  go_wp2_with fail
  refine (check_ok 1 H.out (Or.inr rfl) (by omega)).mono ?_
  rintro e w1 ⟨rfl, hw⟩
  rw [hw]
  clear hw w1
  go_wp2_with fail
  refine (has_any (p : Int) (n : Int) _ H.out.a1 (by omega)).mono ?_
  rintro e w1 ⟨he, hw⟩
  rw [HH.out] at he
  subst he
  rw [hw]
  clear hw w1
  go_wp2_with fail
  refine (fault_any 0 8 _).mono ?_
  rintro e w2 ⟨rfl, f2, b2⟩
  have HF2 : Hid (FaultAt w2 w.heap.size 0 8 ∧ Below w.heap.size w w2) := ⟨f2, b2⟩
  clear f2 b2
  go_wp2_with fail
  exact bodyPost_ret (v := .tuple #[.slice none 0 0, .iface 86 (.pointer (some ⟨w.heap.size, 0, none⟩))]) (by simp [results, Tryz.results88, go_sem]) rfl ⟨rfl, HF2.out⟩
end Go.Proofs.YthnpckmgnompiaaGreatDoor
