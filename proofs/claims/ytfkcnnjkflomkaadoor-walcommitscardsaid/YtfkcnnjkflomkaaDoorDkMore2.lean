/-
  The disk: Read from any place; Fuse of a dead disk; From of too long an area, and the document's. (Typed by gen/mkmore2.py.)
-/
import Derived.Test.YtfkcnnjkflomkaaDoorDkMore
import Derived.Test.YtfkcnnjkflomkaaDoorRfNew
namespace Go.Proofs.YtfkcnnjkflomkaaDoor
open Go.RowKit

set_option maxHeartbeats 1000000 in
theorem Fuse_dead {w : World} {B K : Nat} {v0 v1 : Value} {x0 x1 : List Int} {s0 s1 : Nat} {fu na ns nc : Int} (n : Int) (h : Dsk w B K v0 v1 x0 x1 s0 s1 2 fu na ns nc) : Calls Tryd.prog 18 #[.pointer (some ⟨K, 0, none⟩), .int .i64 n] w fun e w' => e = .returned (.tuple #[]) ∧ w' = w := by
  have H : Hid (Dsk w B K v0 v1 x0 x1 s0 s1 2 fu na ns nc) := h
  clear h
  go_enter Tryd.func18, Tryd.ntmps18
  go_wp2_with fail
  refine (Alive_dead H.out).mono ?_
  rintro e w1 ⟨rfl, hw⟩
  rw [hw]
  clear hw w1
  go_wp2_with fail
  go_end0
  exact ⟨rfl, rfl⟩
set_option maxRecDepth 100000 in
set_option maxHeartbeats 2000000 in
theorem Read0_at {w : World} {B K : Nat} {v0 v1 : Value} {x0 x1 : List Int} {s0 s1 : Nat} {fu na ns nc : Int} (p n : Nat) (h : Dsk w B K v0 v1 x0 x1 s0 s1 1 fu na ns nc) (hb : p + n ≤ x0.length) : Calls Tryd.prog 77 #[.pointer (some ⟨K, 0, none⟩), .int .i64 0, .int .i64 (p : Int), .int .i64 (n : Int)] w fun e w' => ∃ a k c, e = .returned (.tuple #[.slice a k c, .nilIface]) ∧ Row w' w.heap.size (.slice a k c) ((x0.drop p).take n) ∧ Below w.heap.size w w' := by
  have H : Hid (Dsk w B K v0 v1 x0 x1 s0 s1 1 fu na ns nc) := h
  have HH : Hid (hasB x0.length (p : Int) (n : Int) = true) := by unfold Hid hasB; simp; omega
  have hpl : p ≤ 16777216 := by have := h.a0.len; omega
  have c4 := h.c4
  clear h
  go_enter Tryd.func77, Tryd.ntmps77
  go_wp2_with fail
  refine (check_ok 0 H.out (Or.inl rfl) (by omega)).mono ?_
  rintro e w1 ⟨rfl, hw⟩
  rw [hw]
  clear hw w1
  go_wp2_with fail
  refine (has_any (p : Int) (n : Int) _ H.out.a0 (by omega)).mono ?_
  rintro e w1 ⟨he, hw⟩
  rw [HH.out] at he
  subst he
  rw [hw]
  clear hw w1
  go_wp2_with fail
  refine (read_any p n _ H.out.a0 hb).mono ?_
  rintro e w3 ⟨r, rfl, hR, hbl⟩
  obtain ⟨a, cp, rfl, _⟩ := hR.slice
  obtain ⟨k, hk⟩ : ∃ k, ((x0.drop p).take n).length = k := ⟨_, rfl⟩
  have HR : Hid (Row w3 w.heap.size (.slice a k cp) ((x0.drop p).take n) ∧ Below w.heap.size w w3) := ⟨by rw [← hk]; exact hR, hbl⟩
  rw [hk]
  clear hR hbl hk
  go_wp2_with fail
  exact bodyPost_ret (v := .tuple #[.slice a k cp, .nilIface]) (by simp [results, Tryd.results77, go_sem]) rfl ⟨a, k, cp, rfl, HR.out.1, HR.out.2⟩
set_option maxRecDepth 100000 in
set_option maxHeartbeats 2000000 in
theorem Read1_at {w : World} {B K : Nat} {v0 v1 : Value} {x0 x1 : List Int} {s0 s1 : Nat} {fu na ns nc : Int} (p n : Nat) (h : Dsk w B K v0 v1 x0 x1 s0 s1 1 fu na ns nc) (hb : p + n ≤ x1.length) : Calls Tryd.prog 77 #[.pointer (some ⟨K, 0, none⟩), .int .i64 1, .int .i64 (p : Int), .int .i64 (n : Int)] w fun e w' => ∃ a k c, e = .returned (.tuple #[.slice a k c, .nilIface]) ∧ Row w' w.heap.size (.slice a k c) ((x1.drop p).take n) ∧ Below w.heap.size w w' := by
  have H : Hid (Dsk w B K v0 v1 x0 x1 s0 s1 1 fu na ns nc) := h
  have HH : Hid (hasB x1.length (p : Int) (n : Int) = true) := by unfold Hid hasB; simp; omega
  have hpl : p ≤ 16777216 := by have := h.a1.len; omega
  have c4 := h.c4
  clear h
  go_enter Tryd.func77, Tryd.ntmps77
  go_wp2_with fail
  refine (check_ok 1 H.out (Or.inl rfl) (by omega)).mono ?_
  rintro e w1 ⟨rfl, hw⟩
  rw [hw]
  clear hw w1
  go_wp2_with fail
  refine (has_any (p : Int) (n : Int) _ H.out.a1 (by omega)).mono ?_
  rintro e w1 ⟨he, hw⟩
  rw [HH.out] at he
  subst he
  rw [hw]
  clear hw w1
  go_wp2_with fail
  refine (read_any p n _ H.out.a1 hb).mono ?_
  rintro e w3 ⟨r, rfl, hR, hbl⟩
  obtain ⟨a, cp, rfl, _⟩ := hR.slice
  obtain ⟨k, hk⟩ : ∃ k, ((x1.drop p).take n).length = k := ⟨_, rfl⟩
  have HR : Hid (Row w3 w.heap.size (.slice a k cp) ((x1.drop p).take n) ∧ Below w.heap.size w w3) := ⟨by rw [← hk]; exact hR, hbl⟩
  rw [hk]
  clear hR hbl hk
  go_wp2_with fail
  exact bodyPost_ret (v := .tuple #[.slice a k cp, .nilIface]) (by simp [results, Tryd.results77, go_sem]) rfl ⟨a, k, cp, rfl, HR.out.1, HR.out.2⟩
end Go.Proofs.YtfkcnnjkflomkaaDoor
