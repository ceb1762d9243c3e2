/-
  The disk's refusals, the fault's block told. (Typed by gen/mkmore3.py.)
-/
import Derived.Test.YthnpckmgnompiaaGreatDoorPrBase
namespace Go.Proofs.YthnpckmgnompiaaGreatDoor
open Go.RowKit

set_option maxHeartbeats 1000000 in
theorem write_deadN {w : World} {B K : Nat} {v0 v1 : Value} {x0 x1 : List Int} {s0 s1 : Nat} {st fu na ns nc : Int} (q : Nat) (h : Dsk w B K v0 v1 x0 x1 s0 s1 st fu na ns nc) (hst : st = 1 ∨ st = 2) (hd : st = 2 ∨ fu = 0) : Calls Tryz.prog 78 #[.pointer (some ⟨K, 0, none⟩), .pointer (some ⟨K, q, none⟩)] w fun e w' => e = .returned (.iface 86 (.pointer (some ⟨w.heap.size, 0, none⟩))) ∧ FaultAt w' w.heap.size 0 8 ∧ Dsk w' B K v0 v1 x0 x1 s0 s1 2 fu na ns nc ∧ DStep w w' K v0 v1 v0 v1 := by
  have H : Hid (Dsk w B K v0 v1 x0 x1 s0 s1 st fu na ns nc) := h
  have c4 := h.c4
  have c5 := h.c5
  have f4 := h.fr 4
  have H2 : Hid (Dsk (w.setCell ⟨K, 4, none⟩ (.int .i64 2)) B K v0 v1 x0 x1 s0 s1 2 fu na ns nc) := h.set4 2 trivial
  have HT : Hid (DStep w (w.setCell ⟨K, 4, none⟩ (.int .i64 2)) K v0 v1 v0 v1) := h.stepSet _ _
  clear h
  have key : ∀ e w2, (e = Ending.returned (.iface 86 (.pointer (some ⟨(w.setCell ⟨K, 4, none⟩ (.int .i64 2)).heap.size, 0, none⟩))) ∧ FaultAt w2 (w.setCell ⟨K, 4, none⟩ (.int .i64 2)).heap.size 0 8 ∧ Below (w.setCell ⟨K, 4, none⟩ (.int .i64 2)).heap.size (w.setCell ⟨K, 4, none⟩ (.int .i64 2)) w2) →
      FaultAt w2 w.heap.size 0 8 ∧ Dsk w2 B K v0 v1 x0 x1 s0 s1 2 fu na ns nc ∧ DStep w w2 K v0 v1 v0 v1 ∧ ¬ Foot K v0 v1 w.heap.size := by
    rintro e w2 ⟨_, f2, b2⟩
    refine ⟨by simpa using f2, H2.out.below b2, HT.out.trans (.of_below _ _ _ b2), fun e => ?_⟩
    have := (H.out.foot_lt e).2
    omega
  have HKy : Hid (type_of% key) := key
  clear key
  rcases hst with rfl | rfl
  · obtain rfl : fu = 0 := by omega
    go_enter Tryz.func78, Tryz.ntmps78
    go_wp2_with fail
    refine (fault_any 0 8 _).mono ?_
    intro e w2 hp
    have HQ : Hid (FaultAt w2 w.heap.size 0 8 ∧ Dsk w2 B K v0 v1 x0 x1 s0 s1 2 0 na ns nc ∧ DStep w w2 K v0 v1 v0 v1 ∧ ¬ Foot K v0 v1 w.heap.size) := HKy.out e w2 hp
    obtain ⟨rfl, _, _⟩ := hp
    go_wp2_with fail
    go_ret
    exact ⟨rfl, HQ.out.1, HQ.out.2.1, HQ.out.2.2.1⟩
  · go_enter Tryz.func78, Tryz.ntmps78
    go_wp2_with fail
    refine (fault_any 0 8 _).mono ?_
    intro e w2 hp
    have HQ : Hid (FaultAt w2 w.heap.size 0 8 ∧ Dsk w2 B K v0 v1 x0 x1 s0 s1 2 fu na ns nc ∧ DStep w w2 K v0 v1 v0 v1 ∧ ¬ Foot K v0 v1 w.heap.size) := HKy.out e w2 hp
    obtain ⟨rfl, _, _⟩ := hp
    go_wp2_with fail
    go_ret
    exact ⟨rfl, HQ.out.1, HQ.out.2.1, HQ.out.2.2.1⟩
set_option maxHeartbeats 1000000 in
theorem Append0_fullN {w : World} {B K : Nat} {v0 v1 : Value} {x0 x1 : List Int} {s0 s1 : Nat} {st fu na ns nc : Int} {po : Option Addr} {m c : Nat} (h : Dsk w B K v0 v1 x0 x1 s0 s1 st fu na ns nc) (hst : st = 1 ∨ st = 2) (hl : 16777216 < x0.length + m) : Calls Tryz.prog 54 #[.pointer (some ⟨K, 0, none⟩), .int .i64 0, .slice po m c] w fun e w' => e = .returned (.iface 86 (.pointer (some ⟨w.heap.size, 0, none⟩))) ∧ FaultAt w' w.heap.size 0 7 ∧ Below w.heap.size w w' := by
  have H : Hid (Dsk w B K v0 v1 x0 x1 s0 s1 st fu na ns nc) := h
  have HS : Hid (st = 1 ∨ st = 2) := hst
  clear h hst
  go_enter Tryz.func54, Tryz.ntmps54
  go_wp2_with fail
  refine (check_ok 0 H.out HS.out (by omega)).mono ?_
  rintro e w1 ⟨rfl, rfl⟩
  go_wp2_with fail
  refine (room_any _ H.out.a0).mono ?_
  rintro e w1 ⟨rfl, rfl⟩
  have hl2 : 16777216 - (x0.length : Int) < (m : Int) := by omega
  go_wp2_with fail
  refine (fault_any 0 7 _).mono ?_
  rintro e w2 ⟨rfl, f2, b2⟩
  have HF2 : Hid (FaultAt w2 w1.heap.size 0 7 ∧ Below w1.heap.size w1 w2) := ⟨f2, b2⟩
  clear f2 b2
  go_wp2_with fail
  go_ret
  exact ⟨rfl, HF2.out⟩
set_option maxHeartbeats 1000000 in
theorem Append0_deadN {w : World} {B K : Nat} {v0 v1 : Value} {x0 x1 : List Int} {s0 s1 : Nat} {st fu na ns nc : Int} {po : Option Addr} {m c : Nat} (h : Dsk w B K v0 v1 x0 x1 s0 s1 st fu na ns nc) (hst : st = 1 ∨ st = 2) (hd : st = 2 ∨ fu = 0) (hl : x0.length + m ≤ 16777216) : Calls Tryz.prog 54 #[.pointer (some ⟨K, 0, none⟩), .int .i64 0, .slice po m c] w fun e w' => e = .returned (.iface 86 (.pointer (some ⟨w.heap.size, 0, none⟩))) ∧ FaultAt w' w.heap.size 0 8 ∧ Dsk w' B K v0 v1 x0 x1 s0 s1 2 fu na ns nc ∧ DStep w w' K v0 v1 v0 v1 := by
  have H : Hid (Dsk w B K v0 v1 x0 x1 s0 s1 st fu na ns nc) := h
  have HS : Hid (st = 1 ∨ st = 2) := hst
  have HX : Hid (st = 2 ∨ fu = 0) := hd
  clear h hst hd
  go_enter Tryz.func54, Tryz.ntmps54
  go_wp2_with fail
  refine (check_ok 0 H.out HS.out (by omega)).mono ?_
  rintro e w1 ⟨rfl, rfl⟩
  go_wp2_with fail
  refine (room_any _ H.out.a0).mono ?_
  rintro e w1 ⟨rfl, rfl⟩
  have hl2 : (m : Int) ≤ 16777216 - (x0.length : Int) := by omega
  go_wp2_with fail
  refine (write_deadN _ H.out HS.out HX.out).mono ?_
  rintro e w2 ⟨rfl, hp⟩
  have HQ : Hid (FaultAt w2 w1.heap.size 0 8 ∧ Dsk w2 B K v0 v1 x0 x1 s0 s1 2 fu na ns nc ∧ DStep w1 w2 K v0 v1 v0 v1) := hp
  clear hp
  go_wp2_with fail
  go_ret
  exact ⟨rfl, HQ.out⟩
set_option maxHeartbeats 1000000 in
theorem Sync0_deadN {w : World} {B K : Nat} {v0 v1 : Value} {x0 x1 : List Int} {s0 s1 : Nat} {st fu na ns nc : Int} (h : Dsk w B K v0 v1 x0 x1 s0 s1 st fu na ns nc) (hst : st = 1 ∨ st = 2) (hd : st = 2 ∨ fu = 0) : Calls Tryz.prog 58 #[.pointer (some ⟨K, 0, none⟩), .int .i64 0] w fun e w' => e = .returned (.iface 86 (.pointer (some ⟨w.heap.size, 0, none⟩))) ∧ FaultAt w' w.heap.size 0 8 ∧ Dsk w' B K v0 v1 x0 x1 s0 s1 2 fu na ns nc ∧ DStep w w' K v0 v1 v0 v1 := by
  have H : Hid (Dsk w B K v0 v1 x0 x1 s0 s1 st fu na ns nc) := h
  have HS : Hid (st = 1 ∨ st = 2) := hst
  have HX : Hid (st = 2 ∨ fu = 0) := hd
  clear h hst hd
  go_enter Tryz.func58, Tryz.ntmps58
  go_wp2_with fail
  refine (check_ok 0 H.out HS.out (by omega)).mono ?_
  rintro e w1 ⟨rfl, rfl⟩
  go_wp2_with fail
  refine (write_deadN _ H.out HS.out HX.out).mono ?_
  rintro e w2 ⟨rfl, hp⟩
  have HQ : Hid (FaultAt w2 w1.heap.size 0 8 ∧ Dsk w2 B K v0 v1 x0 x1 s0 s1 2 fu na ns nc ∧ DStep w1 w2 K v0 v1 v0 v1) := hp
  clear hp
  go_wp2_with fail
  go_ret
  exact ⟨rfl, HQ.out⟩
set_option maxHeartbeats 1000000 in
theorem Cut0_outN {w : World} {B K : Nat} {v0 v1 : Value} {x0 x1 : List Int} {s0 s1 : Nat} {st fu na ns nc : Int} {X : Int} (h : Dsk w B K v0 v1 x0 x1 s0 s1 st fu na ns nc) (hst : st = 1 ∨ st = 2) (hX : X < 0 ∨ (x0.length : Int) < X) : Calls Tryz.prog 52 #[.pointer (some ⟨K, 0, none⟩), .int .i64 0, .int .i64 X] w fun e w' => e = .returned (.iface 86 (.pointer (some ⟨w.heap.size, 0, none⟩))) ∧ FaultAt w' w.heap.size 0 2 ∧ Below w.heap.size w w' := by
  have H : Hid (Dsk w B K v0 v1 x0 x1 s0 s1 st fu na ns nc) := h
  have HS : Hid (st = 1 ∨ st = 2) := hst
  have HH : Hid (hasB x0.length 0 X = false) := by
    unfold Hid
    cases e : hasB x0.length 0 X with
    | false => rfl
    | true => unfold hasB at e; simp at e; omega
  clear h hst
  go_enter Tryz.func52, Tryz.ntmps52
  go_wp2_with fail
  refine (check_ok 0 H.out HS.out (by omega)).mono ?_
  rintro e w1 ⟨rfl, rfl⟩
  go_wp2_with fail
  refine (has_any 0 X _ H.out.a0 (by omega)).mono ?_
  rintro e w1 ⟨he, rfl⟩
  rw [HH.out] at he
  subst he
  go_wp2_with fail
  refine (fault_any 0 2 _).mono ?_
  rintro e w2 ⟨rfl, f2, b2⟩
  have HF2 : Hid (FaultAt w2 w1.heap.size 0 2 ∧ Below w1.heap.size w1 w2) := ⟨f2, b2⟩
  clear f2 b2
  go_wp2_with fail
  go_ret
  exact ⟨rfl, HF2.out⟩
set_option maxHeartbeats 1000000 in
theorem Cut0_deadN {w : World} {B K : Nat} {v0 v1 : Value} {x0 x1 : List Int} {s0 s1 : Nat} {st fu na ns nc : Int} {X : Int} (h : Dsk w B K v0 v1 x0 x1 s0 s1 st fu na ns nc) (hst : st = 1 ∨ st = 2) (hd : st = 2 ∨ fu = 0) (hX : 0 ≤ X ∧ X ≤ (x0.length : Int)) : Calls Tryz.prog 52 #[.pointer (some ⟨K, 0, none⟩), .int .i64 0, .int .i64 X] w fun e w' => e = .returned (.iface 86 (.pointer (some ⟨w.heap.size, 0, none⟩))) ∧ FaultAt w' w.heap.size 0 8 ∧ Dsk w' B K v0 v1 x0 x1 s0 s1 2 fu na ns nc ∧ DStep w w' K v0 v1 v0 v1 := by
  have H : Hid (Dsk w B K v0 v1 x0 x1 s0 s1 st fu na ns nc) := h
  have HS : Hid (st = 1 ∨ st = 2) := hst
  have HX : Hid (st = 2 ∨ fu = 0) := hd
  have HH : Hid (hasB x0.length 0 X = true) := by unfold hasB Hid; simp; omega
  clear h hst hd
  go_enter Tryz.func52, Tryz.ntmps52
  go_wp2_with fail
  refine (check_ok 0 H.out HS.out (by omega)).mono ?_
  rintro e w1 ⟨rfl, rfl⟩
  go_wp2_with fail
  refine (has_any 0 X _ H.out.a0 (by omega)).mono ?_
  rintro e w1 ⟨he, rfl⟩
  rw [HH.out] at he
  subst he
  go_wp2_with fail
  refine (write_deadN _ H.out HS.out HX.out).mono ?_
  rintro e w2 ⟨rfl, hp⟩
  have HQ : Hid (FaultAt w2 w1.heap.size 0 8 ∧ Dsk w2 B K v0 v1 x0 x1 s0 s1 2 fu na ns nc ∧ DStep w1 w2 K v0 v1 v0 v1) := hp
  clear hp
  go_wp2_with fail
  go_ret
  exact ⟨rfl, HQ.out⟩
set_option maxHeartbeats 1000000 in
theorem Append1_fullN {w : World} {B K : Nat} {v0 v1 : Value} {x0 x1 : List Int} {s0 s1 : Nat} {st fu na ns nc : Int} {po : Option Addr} {m c : Nat} (h : Dsk w B K v0 v1 x0 x1 s0 s1 st fu na ns nc) (hst : st = 1 ∨ st = 2) (hl : 16777216 < x1.length + m) : Calls Tryz.prog 54 #[.pointer (some ⟨K, 0, none⟩), .int .i64 1, .slice po m c] w fun e w' => e = .returned (.iface 86 (.pointer (some ⟨w.heap.size, 0, none⟩))) ∧ FaultAt w' w.heap.size 0 7 ∧ Below w.heap.size w w' := by
  have H : Hid (Dsk w B K v0 v1 x0 x1 s0 s1 st fu na ns nc) := h
  have HS : Hid (st = 1 ∨ st = 2) := hst
  clear h hst
  go_enter Tryz.func54, Tryz.ntmps54
  go_wp2_with fail
  refine (check_ok 1 H.out HS.out (by omega)).mono ?_
  rintro e w1 ⟨rfl, rfl⟩
  go_wp2_with fail
  refine (room_any _ H.out.a1).mono ?_
  rintro e w1 ⟨rfl, rfl⟩
  have hl2 : 16777216 - (x1.length : Int) < (m : Int) := by omega
  go_wp2_with fail
  refine (fault_any 0 7 _).mono ?_
  rintro e w2 ⟨rfl, f2, b2⟩
  have HF2 : Hid (FaultAt w2 w1.heap.size 0 7 ∧ Below w1.heap.size w1 w2) := ⟨f2, b2⟩
  clear f2 b2
  go_wp2_with fail
  go_ret
  exact ⟨rfl, HF2.out⟩
set_option maxHeartbeats 1000000 in
theorem Append1_deadN {w : World} {B K : Nat} {v0 v1 : Value} {x0 x1 : List Int} {s0 s1 : Nat} {st fu na ns nc : Int} {po : Option Addr} {m c : Nat} (h : Dsk w B K v0 v1 x0 x1 s0 s1 st fu na ns nc) (hst : st = 1 ∨ st = 2) (hd : st = 2 ∨ fu = 0) (hl : x1.length + m ≤ 16777216) : Calls Tryz.prog 54 #[.pointer (some ⟨K, 0, none⟩), .int .i64 1, .slice po m c] w fun e w' => e = .returned (.iface 86 (.pointer (some ⟨w.heap.size, 0, none⟩))) ∧ FaultAt w' w.heap.size 0 8 ∧ Dsk w' B K v0 v1 x0 x1 s0 s1 2 fu na ns nc ∧ DStep w w' K v0 v1 v0 v1 := by
  have H : Hid (Dsk w B K v0 v1 x0 x1 s0 s1 st fu na ns nc) := h
  have HS : Hid (st = 1 ∨ st = 2) := hst
  have HX : Hid (st = 2 ∨ fu = 0) := hd
  clear h hst hd
  go_enter Tryz.func54, Tryz.ntmps54
  go_wp2_with fail
  refine (check_ok 1 H.out HS.out (by omega)).mono ?_
  rintro e w1 ⟨rfl, rfl⟩
  go_wp2_with fail
  refine (room_any _ H.out.a1).mono ?_
  rintro e w1 ⟨rfl, rfl⟩
  have hl2 : (m : Int) ≤ 16777216 - (x1.length : Int) := by omega
  go_wp2_with fail
  refine (write_deadN _ H.out HS.out HX.out).mono ?_
  rintro e w2 ⟨rfl, hp⟩
  have HQ : Hid (FaultAt w2 w1.heap.size 0 8 ∧ Dsk w2 B K v0 v1 x0 x1 s0 s1 2 fu na ns nc ∧ DStep w1 w2 K v0 v1 v0 v1) := hp
  clear hp
  go_wp2_with fail
  go_ret
  exact ⟨rfl, HQ.out⟩
set_option maxHeartbeats 1000000 in
theorem Sync1_deadN {w : World} {B K : Nat} {v0 v1 : Value} {x0 x1 : List Int} {s0 s1 : Nat} {st fu na ns nc : Int} (h : Dsk w B K v0 v1 x0 x1 s0 s1 st fu na ns nc) (hst : st = 1 ∨ st = 2) (hd : st = 2 ∨ fu = 0) : Calls Tryz.prog 58 #[.pointer (some ⟨K, 0, none⟩), .int .i64 1] w fun e w' => e = .returned (.iface 86 (.pointer (some ⟨w.heap.size, 0, none⟩))) ∧ FaultAt w' w.heap.size 0 8 ∧ Dsk w' B K v0 v1 x0 x1 s0 s1 2 fu na ns nc ∧ DStep w w' K v0 v1 v0 v1 := by
  have H : Hid (Dsk w B K v0 v1 x0 x1 s0 s1 st fu na ns nc) := h
  have HS : Hid (st = 1 ∨ st = 2) := hst
  have HX : Hid (st = 2 ∨ fu = 0) := hd
  clear h hst hd
  go_enter Tryz.func58, Tryz.ntmps58
  go_wp2_with fail
  refine (check_ok 1 H.out HS.out (by omega)).mono ?_
  rintro e w1 ⟨rfl, rfl⟩
  go_wp2_with fail
  refine (write_deadN _ H.out HS.out HX.out).mono ?_
  rintro e w2 ⟨rfl, hp⟩
  have HQ : Hid (FaultAt w2 w1.heap.size 0 8 ∧ Dsk w2 B K v0 v1 x0 x1 s0 s1 2 fu na ns nc ∧ DStep w1 w2 K v0 v1 v0 v1) := hp
  clear hp
  go_wp2_with fail
  go_ret
  exact ⟨rfl, HQ.out⟩
set_option maxHeartbeats 1000000 in
theorem Cut1_outN {w : World} {B K : Nat} {v0 v1 : Value} {x0 x1 : List Int} {s0 s1 : Nat} {st fu na ns nc : Int} {X : Int} (h : Dsk w B K v0 v1 x0 x1 s0 s1 st fu na ns nc) (hst : st = 1 ∨ st = 2) (hX : X < 0 ∨ (x1.length : Int) < X) : Calls Tryz.prog 52 #[.pointer (some ⟨K, 0, none⟩), .int .i64 1, .int .i64 X] w fun e w' => e = .returned (.iface 86 (.pointer (some ⟨w.heap.size, 0, none⟩))) ∧ FaultAt w' w.heap.size 0 2 ∧ Below w.heap.size w w' := by
  have H : Hid (Dsk w B K v0 v1 x0 x1 s0 s1 st fu na ns nc) := h
  have HS : Hid (st = 1 ∨ st = 2) := hst
  have HH : Hid (hasB x1.length 0 X = false) := by
    unfold Hid
    cases e : hasB x1.length 0 X with
    | false => rfl
    | true => unfold hasB at e; simp at e; omega
  clear h hst
  go_enter Tryz.func52, Tryz.ntmps52
  go_wp2_with fail
  refine (check_ok 1 H.out HS.out (by omega)).mono ?_
  rintro e w1 ⟨rfl, rfl⟩
  go_wp2_with fail
  refine (has_any 0 X _ H.out.a1 (by omega)).mono ?_
  rintro e w1 ⟨he, rfl⟩
  rw [HH.out] at he
  subst he
  go_wp2_with fail
  refine (fault_any 0 2 _).mono ?_
  rintro e w2 ⟨rfl, f2, b2⟩
  have HF2 : Hid (FaultAt w2 w1.heap.size 0 2 ∧ Below w1.heap.size w1 w2) := ⟨f2, b2⟩
  clear f2 b2
  go_wp2_with fail
  go_ret
  exact ⟨rfl, HF2.out⟩
set_option maxHeartbeats 1000000 in
theorem Cut1_deadN {w : World} {B K : Nat} {v0 v1 : Value} {x0 x1 : List Int} {s0 s1 : Nat} {st fu na ns nc : Int} {X : Int} (h : Dsk w B K v0 v1 x0 x1 s0 s1 st fu na ns nc) (hst : st = 1 ∨ st = 2) (hd : st = 2 ∨ fu = 0) (hX : 0 ≤ X ∧ X ≤ (x1.length : Int)) : Calls Tryz.prog 52 #[.pointer (some ⟨K, 0, none⟩), .int .i64 1, .int .i64 X] w fun e w' => e = .returned (.iface 86 (.pointer (some ⟨w.heap.size, 0, none⟩))) ∧ FaultAt w' w.heap.size 0 8 ∧ Dsk w' B K v0 v1 x0 x1 s0 s1 2 fu na ns nc ∧ DStep w w' K v0 v1 v0 v1 := by
  have H : Hid (Dsk w B K v0 v1 x0 x1 s0 s1 st fu na ns nc) := h
  have HS : Hid (st = 1 ∨ st = 2) := hst
  have HX : Hid (st = 2 ∨ fu = 0) := hd
  have HH : Hid (hasB x1.length 0 X = true) := by unfold hasB Hid; simp; omega
  clear h hst hd
  go_enter Tryz.func52, Tryz.ntmps52
  go_wp2_with fail
  refine (check_ok 1 H.out HS.out (by omega)).mono ?_
  rintro e w1 ⟨rfl, rfl⟩
  go_wp2_with fail
  refine (has_any 0 X _ H.out.a1 (by omega)).mono ?_
  rintro e w1 ⟨he, rfl⟩
  rw [HH.out] at he
  subst he
  go_wp2_with fail
  refine (write_deadN _ H.out HS.out HX.out).mono ?_
  rintro e w2 ⟨rfl, hp⟩
  have HQ : Hid (FaultAt w2 w1.heap.size 0 8 ∧ Dsk w2 B K v0 v1 x0 x1 s0 s1 2 fu na ns nc ∧ DStep w1 w2 K v0 v1 v0 v1) := hp
  clear hp
  go_wp2_with fail
  go_ret
  exact ⟨rfl, HQ.out⟩
end Go.Proofs.YthnpckmgnompiaaGreatDoor
