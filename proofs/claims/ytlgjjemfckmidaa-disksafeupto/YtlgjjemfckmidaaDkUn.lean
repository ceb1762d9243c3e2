/-
  Every call of a disk that nobody made.
-/
import Derived.Test.YtlgjjemfckmidaaDk
namespace Go.Proofs.Ytlgjjemfckmidaa
open Go.RowKit

set_option maxHeartbeats 400000 in
theorem Alive_un {v : Value} (w : World) (h : Un w v) : Calls Try.prog 24 #[v] w fun e w' => e = .returned (.bool false) ∧ w' = w := by
  have H : Hid (Un w v) := h
  clear h
  go_enter Try.func24, Try.ntmps24
  go_wp2_with fail
  refine (made_un _ H.out).mono ?_
  rintro e w1 ⟨rfl, rfl⟩
  go_wp2_with fail
  go_ret
  exact ⟨rfl, rfl⟩
set_option maxHeartbeats 400000 in
theorem Fuse_un {v : Value} (x : Value) (w : World) (h : Un w v) : Calls Try.prog 10 #[v, x] w fun e w' => e = .returned (.tuple #[]) ∧ w' = w := by
  have H : Hid (Un w v) := h
  clear h
  go_enter Try.func10, Try.ntmps10
  go_wp2_with fail
  refine (Alive_un _ H.out).mono ?_
  rintro e w1 ⟨rfl, rfl⟩
  go_wp2_with fail
  go_end0
  exact ⟨rfl, rfl⟩
theorem Un.alloc {w : World} {v : Value} (h : Un w v) (o : Obj) : Un (w.alloc o) v := by
  rcases h with rfl | ⟨K, rfl, h⟩
  · exact Or.inl rfl
  · exact Or.inr ⟨K, rfl, by rw [World.cell?_alloc_lt _ _ ⟨K, 4, none⟩ (cell_lt h)]; exact h⟩
theorem Un.below {w w' : World} {v : Value} (h : Un w v) (hb : Below w.heap.size w w') : Un w' v := by
  rcases h with rfl | ⟨K, rfl, h⟩
  · exact Or.inl rfl
  · exact Or.inr ⟨K, rfl, by rw [hb.cell (p := ⟨K, 4, none⟩) (cell_lt h)]; exact h⟩
set_option maxHeartbeats 400000 in
theorem Crash_un {v : Value} (x0 x1 x2 x3 : Value) (w : World) (h : Un w v) : Calls Try.prog 23 #[v, .agg #[x0, x1, x2, x3]] w fun e w' => e = .returned (.tuple #[]) ∧ Below w.heap.size w w' := by
  have H : Hid (Un (w.alloc (.cells #[x0, x1, x2, x3] 32)) v) := h.alloc _
  clear h
  go_enter Try.func23, Try.ntmps23
  go_wp2_with fail
  refine (made_un _ H.out).mono ?_
  rintro e w1 ⟨rfl, rfl⟩
  go_wp2_with fail
  exact bodyPost_ret (v := .tuple #[]) (by simp [results, Try.results23, go_sem]) rfl ⟨rfl, (Below.refl _ _).alloc (Nat.le_refl _) _⟩
set_option maxHeartbeats 400000 in
theorem Image_un {v : Value} (w : World) (h : Un w v) : Calls Try.prog 12 #[v] w fun e w' => e = .returned (.agg #[.slice none 0 0, .slice none 0 0]) ∧ Below w.heap.size w w' := by
  have H : Hid (Un (w.alloc (.cells #[.slice none 0 0, .slice none 0 0] 26)) v) := h.alloc _
  clear h
  go_enter Try.func12, Try.ntmps12
  go_wp2_with fail
  refine (made_un _ H.out).mono ?_
  rintro e w1 ⟨rfl, rfl⟩
  go_wp2_with fail
  refine bodyPost_ret (v := .agg #[.slice none 0 0, .slice none 0 0]) (by simp [results, Try.results12, go_sem]) rfl ⟨rfl, (Below.refl _ _).alloc (Nat.le_refl _) _⟩
set_option maxHeartbeats 400000 in
theorem Counts_un {v : Value} (w : World) (h : Un w v) : Calls Try.prog 46 #[v] w fun e w' => e = .returned (.agg #[.int .i64 0, .int .i64 0, .int .i64 0]) ∧ Below w.heap.size w w' := by
  have H : Hid (Un (w.alloc (.cells #[.int .i64 0, .int .i64 0, .int .i64 0] 73)) v) := h.alloc _
  clear h
  go_enter Try.func46, Try.ntmps46
  go_wp2_with fail
  refine (made_un _ H.out).mono ?_
  rintro e w1 ⟨rfl, rfl⟩
  go_wp2_with fail
  refine bodyPost_ret (v := .agg #[.int .i64 0, .int .i64 0, .int .i64 0]) (by simp [results, Try.results46, go_sem]) rfl ⟨rfl, (Below.refl _ _).alloc (Nat.le_refl _) _⟩
set_option maxHeartbeats 400000 in
theorem Read_un {v : Value} (x : Value) (y : Value) (z : Value) (w : World) (h : Un w v) : Calls Try.prog 71 #[v, x, y, z] w fun e w' => ∃ b, e = .returned (.tuple #[.slice none 0 0, .iface 113 (.pointer (some ⟨b, 0, none⟩))]) ∧ FaultAt w' b 0 3 ∧ Below w.heap.size w w' := by
  have H : Hid (Un w v) := h
  clear h
  go_enter Try.func71, Try.ntmps71
  go_wp2_with fail
  refine (check_un _ _ H.out).mono ?_
  rintro e w1 ⟨b, rfl, f1, b1⟩
  have HF : Hid (FaultAt w1 b 0 3) := f1
  have HB : Hid (Below w.heap.size w w1) := b1
  clear f1 b1
  go_wp2_with fail
  go_ret2
  exact ⟨_, rfl, HF.out, HB.out⟩
set_option maxHeartbeats 400000 in
theorem Len_un {v : Value} (x : Value) (w : World) (h : Un w v) : Calls Try.prog 14 #[v, x] w fun e w' => ∃ b, e = .returned (.tuple #[.int .i64 0, .iface 113 (.pointer (some ⟨b, 0, none⟩))]) ∧ FaultAt w' b 0 3 ∧ Below w.heap.size w w' := by
  have H : Hid (Un w v) := h
  clear h
  go_enter Try.func14, Try.ntmps14
  go_wp2_with fail
  refine (check_un _ _ H.out).mono ?_
  rintro e w1 ⟨b, rfl, f1, b1⟩
  have HF : Hid (FaultAt w1 b 0 3) := f1
  have HB : Hid (Below w.heap.size w w1) := b1
  clear f1 b1
  go_wp2_with fail
  go_ret2
  exact ⟨_, rfl, HF.out, HB.out⟩
set_option maxHeartbeats 400000 in
theorem Synced_un {v : Value} (x : Value) (w : World) (h : Un w v) : Calls Try.prog 40 #[v, x] w fun e w' => ∃ b, e = .returned (.tuple #[.int .i64 0, .iface 113 (.pointer (some ⟨b, 0, none⟩))]) ∧ FaultAt w' b 0 3 ∧ Below w.heap.size w w' := by
  have H : Hid (Un w v) := h
  clear h
  go_enter Try.func40, Try.ntmps40
  go_wp2_with fail
  refine (check_un _ _ H.out).mono ?_
  rintro e w1 ⟨b, rfl, f1, b1⟩
  have HF : Hid (FaultAt w1 b 0 3) := f1
  have HB : Hid (Below w.heap.size w w1) := b1
  clear f1 b1
  go_wp2_with fail
  go_ret2
  exact ⟨_, rfl, HF.out, HB.out⟩
set_option maxHeartbeats 400000 in
theorem Append_un {v : Value} (x : Value) (y : Value) (w : World) (h : Un w v) : Calls Try.prog 21 #[v, x, y] w fun e w' => ∃ b, e = .returned (.iface 113 (.pointer (some ⟨b, 0, none⟩))) ∧ FaultAt w' b 0 3 ∧ Below w.heap.size w w' := by
  have H : Hid (Un w v) := h
  clear h
  go_enter Try.func21, Try.ntmps21
  go_wp2_with fail
  refine (check_un _ _ H.out).mono ?_
  rintro e w1 ⟨b, rfl, f1, b1⟩
  have HF : Hid (FaultAt w1 b 0 3) := f1
  have HB : Hid (Below w.heap.size w w1) := b1
  clear f1 b1
  go_wp2_with fail
  go_ret
  exact ⟨_, rfl, HF.out, HB.out⟩
set_option maxHeartbeats 400000 in
theorem Sync_un {v : Value} (x : Value) (w : World) (h : Un w v) : Calls Try.prog 22 #[v, x] w fun e w' => ∃ b, e = .returned (.iface 113 (.pointer (some ⟨b, 0, none⟩))) ∧ FaultAt w' b 0 3 ∧ Below w.heap.size w w' := by
  have H : Hid (Un w v) := h
  clear h
  go_enter Try.func22, Try.ntmps22
  go_wp2_with fail
  refine (check_un _ _ H.out).mono ?_
  rintro e w1 ⟨b, rfl, f1, b1⟩
  have HF : Hid (FaultAt w1 b 0 3) := f1
  have HB : Hid (Below w.heap.size w w1) := b1
  clear f1 b1
  go_wp2_with fail
  go_ret
  exact ⟨_, rfl, HF.out, HB.out⟩
set_option maxHeartbeats 400000 in
theorem Cut_un {v : Value} (x : Value) (y : Value) (w : World) (h : Un w v) : Calls Try.prog 26 #[v, x, y] w fun e w' => ∃ b, e = .returned (.iface 113 (.pointer (some ⟨b, 0, none⟩))) ∧ FaultAt w' b 0 3 ∧ Below w.heap.size w w' := by
  have H : Hid (Un w v) := h
  clear h
  go_enter Try.func26, Try.ntmps26
  go_wp2_with fail
  refine (check_un _ _ H.out).mono ?_
  rintro e w1 ⟨b, rfl, f1, b1⟩
  have HF : Hid (FaultAt w1 b 0 3) := f1
  have HB : Hid (Below w.heap.size w w1) := b1
  clear f1 b1
  go_wp2_with fail
  go_ret
  exact ⟨_, rfl, HF.out, HB.out⟩
end Go.Proofs.Ytlgjjemfckmidaa
