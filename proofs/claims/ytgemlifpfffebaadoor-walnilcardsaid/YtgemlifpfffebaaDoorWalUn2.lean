/-
  Open of a disk that nobody made; the calls of a log that nobody opened; replays of nothing.
-/
import Derived.Test.YtgemlifpfffebaaDoorWalUn
namespace Go.Proofs.YtgemlifpfffebaaDoor
open Go.RowKit

/-- A log that nobody opened. -/
def LUn (w : World) (v : Value) : Prop := v = .pointer none ∨ ∃ K, v = .pointer (some ⟨K, 0, none⟩) ∧ w.cell? ⟨K, 0, none⟩ = some (.pointer none)
theorem LUn.below {w w' : World} {v : Value} (h : LUn w v) (hb : Below w.heap.size w w') : LUn w' v := by
  rcases h with rfl | ⟨K, rfl, h⟩
  · exact Or.inl rfl
  · exact Or.inr ⟨K, rfl, by rw [hb.cell (p := ⟨K, 0, none⟩) (cell_lt h)]; exact h⟩
set_option maxHeartbeats 400000 in
theorem ready_un {v : Value} (w : World) (h : LUn w v) : Calls Tryd.prog 38 #[v] w fun e w' => ∃ x, e = .returned x ∧ WErr w 3 x w' := by
  rcases h with rfl | ⟨K, rfl, h⟩
  · go_enter Tryd.func38, Tryd.ntmps38
    go_wp2_with fail
    refine (wfault_any 3 _).mono ?_
    rintro e w2 ⟨x, rfl, b, rfl, hF, hB⟩
    have HW : Hid (WFault w2 b 3 ∧ Below w.heap.size w w2) := ⟨hF, hB⟩
    clear hF hB
    go_wp2_with fail
    go_ret
    exact ⟨_, rfl, b, rfl, HW.out.1, HW.out.2⟩
  · go_enter Tryd.func38, Tryd.ntmps38
    go_wp2_with fail
    refine (wfault_any 3 _).mono ?_
    rintro e w2 ⟨x, rfl, b, rfl, hF, hB⟩
    have HW : Hid (WFault w2 b 3 ∧ Below w.heap.size w w2) := ⟨hF, hB⟩
    clear hF hB
    go_wp2_with fail
    go_ret
    exact ⟨_, rfl, b, rfl, HW.out.1, HW.out.2⟩
set_option maxHeartbeats 400000 in
theorem LAppend_un {v s : Value} (w : World) (h : LUn w v) : Calls Tryd.prog 13 #[v, s] w fun e w' => ∃ x, e = .returned x ∧ WErr w 3 x w' := by
  have H : Hid (LUn w v) := h
  clear h
  go_enter Tryd.func13, Tryd.ntmps13
  go_wp2_with fail
  refine (ready_un _ H.out).mono ?_
  rintro e w2 ⟨x, rfl, b, rfl, hF, hB⟩
  have HW : Hid (WFault w2 b 3 ∧ Below w.heap.size w w2) := ⟨hF, hB⟩
  clear hF hB
  go_wp2_with fail
  go_ret
  exact ⟨_, rfl, b, rfl, HW.out.1, HW.out.2⟩
set_option maxHeartbeats 400000 in
theorem LCompact_un {v s : Value} (w : World) (h : LUn w v) : Calls Tryd.prog 14 #[v, s] w fun e w' => ∃ x, e = .returned x ∧ WErr w 3 x w' := by
  have H : Hid (LUn w v) := h
  clear h
  go_enter Tryd.func14, Tryd.ntmps14
  go_wp2_with fail
  refine (ready_un _ H.out).mono ?_
  rintro e w2 ⟨x, rfl, b, rfl, hF, hB⟩
  have HW : Hid (WFault w2 b 3 ∧ Below w.heap.size w w2) := ⟨hF, hB⟩
  clear hF hB
  go_wp2_with fail
  go_ret
  exact ⟨_, rfl, b, rfl, HW.out.1, HW.out.2⟩
set_option maxHeartbeats 400000 in
theorem LSync_un {v : Value} (w : World) (h : LUn w v) : Calls Tryd.prog 12 #[v] w fun e w' => ∃ x, e = .returned (.tuple #[.int .i64 0, x]) ∧ WErr w 3 x w' := by
  have H : Hid (LUn w v) := h
  clear h
  go_enter Tryd.func12, Tryd.ntmps12
  go_wp2_with fail
  refine (ready_un _ H.out).mono ?_
  rintro e w2 ⟨x, rfl, b, rfl, hF, hB⟩
  have HW : Hid (WFault w2 b 3 ∧ Below w.heap.size w w2) := ⟨hF, hB⟩
  clear hF hB
  go_wp2_with fail
  refine bodyPost_ret (v := .tuple #[.int .i64 0, .iface 87 (.pointer (some ⟨b, 0, none⟩))]) (by simp [results, Tryd.results12, go_sem]) rfl ?_
  exact ⟨_, rfl, b, rfl, HW.out.1, HW.out.2⟩
set_option maxHeartbeats 400000 in
theorem same_nil (w : World) : Calls Tryd.prog 18 #[.slice none 0 0, .slice none 0 0] w fun e w' => e = .returned (.bool true) ∧ w' = w := by
  go_enter Tryd.func18, Tryd.ntmps18
  go_wp2_with fail
  refine wp_loop_rounds 1 ?_
  rw [rounds_succ]
  go_wp2_with fail
  go_ret
  exact ⟨rfl, rfl⟩
set_option maxHeartbeats 400000 in
theorem sameRecords_nil (w : World) : Calls Tryd.prog 37 #[.slice none 0 0, .slice none 0 0] w fun e w' => e = .returned (.bool true) ∧ w' = w := by
  go_enter Tryd.func37, Tryd.ntmps37
  go_wp2_with fail
  refine wp_loop_rounds 1 ?_
  rw [rounds_succ]
  go_wp2_with fail
  go_ret
  exact ⟨rfl, rfl⟩
set_option maxHeartbeats 400000 in
theorem sameReplay_nil (w : World) : Calls Tryd.prog 11 #[.agg #[.int .u64 0, .slice none 0 0, .slice none 0 0, .int .i64 0], .agg #[.int .u64 0, .slice none 0 0, .slice none 0 0, .int .i64 0]] w fun e w' => e = .returned (.bool true) ∧ Below w.heap.size w w' := by
  have HB : Hid (Below w.heap.size w ((w.alloc (.cells #[.int .u64 0, .slice none 0 0, .slice none 0 0, .int .i64 0] 32)).alloc (.cells #[.int .u64 0, .slice none 0 0, .slice none 0 0, .int .i64 0] 32))) := ((Below.refl _ _).alloc (Nat.le_refl _) _).alloc (by simp) _
  go_enter Tryd.func11, Tryd.ntmps11
  go_wp2_with fail
  refine (same_nil _).mono ?_
  rintro e w2 ⟨rfl, rfl⟩
  go_wp2_with fail
  refine (sameRecords_nil _).mono ?_
  rintro e w2 ⟨rfl, rfl⟩
  go_wp2_with fail
  go_ret
  exact ⟨rfl, HB.out⟩
set_option maxHeartbeats 400000 in
theorem Stat_un {v : Value} (w : World) (h : LUn w v) : Calls Tryd.prog 15 #[v] w fun e w' => e = .returned (.agg #[.int .u64 0, .int .i64 0, .int .i64 0, .int .i64 0, .int .i64 0]) ∧ Below w.heap.size w w' := by
  obtain ⟨w0, hw0⟩ : ∃ w0, (w.alloc (.cells #[.int .u64 0, .int .i64 0, .int .i64 0, .int .i64 0, .int .i64 0] 27)) = w0 := ⟨_, rfl⟩
  have H0 : Hid (Below w.heap.size w w0) := by unfold Hid; rw [← hw0]; exact (Below.refl _ _).alloc (Nat.le_refl _) _
  have H : Hid (LUn w0 v) := h.below H0.out
  have HS : Hid (w.heap.size < w0.heap.size) := by unfold Hid; rw [← hw0]; simp
  have HZ : Hid (∀ o, w0.frozen? ⟨w.heap.size, o, none⟩ = false) := fun o => by rw [← hw0]; simp
  have HK : Hid (∀ j x, (#[(.int .u64 0 : Value), .int .i64 0, .int .i64 0, .int .i64 0, .int .i64 0])[j]? = some x → w0.cell? ⟨w.heap.size, j, none⟩ = some x) := fun j x h => by rw [← hw0]; simpa using h
  clear h
  go_enter Tryd.func15, Tryd.ntmps15
  go_wp2_with fail
  refine (ready_un _ H.out).mono ?_
  rintro e w2 ⟨x, rfl, b, rfl, hF, hB⟩
  have HB2 : Hid (Below w0.heap.size w0 w2) := hB
  have hc : ∀ o, w2.cell? ⟨w.heap.size, o, none⟩ = w0.cell? ⟨w.heap.size, o, none⟩ := fun o => HB2.out.cell (p := ⟨w.heap.size, o, none⟩) HS.out
  have hz : ∀ o, w2.frozen? ⟨w.heap.size, o, none⟩ = false := fun o => (HB2.out.frozen (p := ⟨w.heap.size, o, none⟩) HS.out).trans (HZ.out o)
  have k0 := (hc 0).trans (HK.out 0 _ rfl)
  have k1 := (hc 1).trans (HK.out 1 _ rfl)
  have k2 := (hc 2).trans (HK.out 2 _ rfl)
  have k3 := (hc 3).trans (HK.out 3 _ rfl)
  have k4 := (hc 4).trans (HK.out 4 _ rfl)
  clear hF hB hc hw0
  go_wp2_with fail
  have hle : w.heap.size ≤ w0.heap.size := by have := HS.out; omega
  exact bodyPost_ret (v := .agg #[.int .u64 0, .int .i64 0, .int .i64 0, .int .i64 0, .int .i64 0]) (by simp [results, Tryd.results15, go_sem, k0, k1, k2, k3, k4]) rfl ⟨rfl, H0.out.trans ((((((HB2.out.mono hle).setCell (Nat.le_refl _) _).setCell (Nat.le_refl _) _).setCell (Nat.le_refl _) _).setCell (Nat.le_refl _) _).setCell (Nat.le_refl _) _)⟩
set_option maxHeartbeats 1000000 in
theorem Open_un {v : Value} (w : World) (hE : ErrType w) (hU : Un w v) : Calls Tryd.prog 8 #[v] w fun e w' => ∃ x, e = .returned (.tuple #[.pointer none, .agg #[.int .u64 0, .slice none 0 0, .slice none 0 0, .int .i64 0], x]) ∧ WErr w 3 x w' := by
  obtain ⟨w0, hw0⟩ : ∃ w0, (w.alloc (.cells #[.int .u64 0, .slice none 0 0, .slice none 0 0, .int .i64 0] 32)) = w0 := ⟨_, rfl⟩
  have H0 : Hid (Below w.heap.size w w0) := by unfold Hid; rw [← hw0]; exact (Below.refl _ _).alloc (Nat.le_refl _) _
  have HU : Hid (Un w0 v) := hU.below H0.out
  have HE : Hid (ErrType w0) := errType_below hE H0.out
  have HS : Hid (w.heap.size < w0.heap.size) := by unfold Hid; rw [← hw0]; simp
  have HZ : Hid (∀ o, w0.frozen? ⟨w.heap.size, o, none⟩ = false) := fun o => by rw [← hw0]; simp
  have HK : Hid (∀ j x, (#[(.int .u64 0 : Value), .slice none 0 0, .slice none 0 0, .int .i64 0])[j]? = some x → w0.cell? ⟨w.heap.size, j, none⟩ = some x) := fun j x h => by rw [← hw0]; simpa using h
  clear hU hE
  go_enter Tryd.func8, Tryd.ntmps8
  go_wp2_with fail
  refine (scan_un _ HE.out HU.out).mono ?_
  rintro e w2 ⟨x, rfl, b, rfl, hF, hB⟩
  have HB3 : Hid (Below w0.heap.size w0 (w2.alloc (.cells #[.int .u64 0, .slice none 0 0, .slice none 0 0, .int .i64 0, .int .i64 0, .int .i64 0, .int .u64 0, .slice none 0 0, .slice none 0 0, .int .i64 0, .int .i64 0, .int .i64 0] 77))) := hB.alloc hB.size _
  have HF : Hid (WFault (w2.alloc (.cells #[.int .u64 0, .slice none 0 0, .slice none 0 0, .int .i64 0, .int .i64 0, .int .i64 0, .int .u64 0, .slice none 0 0, .slice none 0 0, .int .i64 0, .int .i64 0, .int .i64 0] 77)) b 3) := hF.below ((Below.refl _ _).alloc (Nat.le_refl _) _)
  have hc : ∀ o, (w2.alloc (.cells #[.int .u64 0, .slice none 0 0, .slice none 0 0, .int .i64 0, .int .i64 0, .int .i64 0, .int .u64 0, .slice none 0 0, .slice none 0 0, .int .i64 0, .int .i64 0, .int .i64 0] 77)).cell? ⟨w.heap.size, o, none⟩ = w0.cell? ⟨w.heap.size, o, none⟩ := fun o => HB3.out.cell (p := ⟨w.heap.size, o, none⟩) HS.out
  have hz : ∀ o, (w2.alloc (.cells #[.int .u64 0, .slice none 0 0, .slice none 0 0, .int .i64 0, .int .i64 0, .int .i64 0, .int .u64 0, .slice none 0 0, .slice none 0 0, .int .i64 0, .int .i64 0, .int .i64 0] 77)).frozen? ⟨w.heap.size, o, none⟩ = false := fun o => (HB3.out.frozen (p := ⟨w.heap.size, o, none⟩) HS.out).trans (HZ.out o)
  have k0 := (hc 0).trans (HK.out 0 _ rfl)
  have k1 := (hc 1).trans (HK.out 1 _ rfl)
  have k2 := (hc 2).trans (HK.out 2 _ rfl)
  have k3 := (hc 3).trans (HK.out 3 _ rfl)
  have HN : Hid (b ≠ w.heap.size) := fun e => by have := HF.out.1; rw [e, k0] at this; simp at this
  clear hF hB hc hw0
  go_wp2_with fail
  have hle : w.heap.size ≤ w0.heap.size := by have := HS.out; omega
  refine bodyPost_ret (v := .tuple #[.pointer none, .agg #[.int .u64 0, .slice none 0 0, .slice none 0 0, .int .i64 0], .iface 87 (.pointer (some ⟨b, 0, none⟩))]) (by simp [results, Tryd.results8, go_sem, k0, k1, k2, k3]) rfl ⟨_, rfl, b, rfl, ?_, ?_⟩
  · obtain ⟨f0, f1, f2, f3⟩ := HF.out
    refine ⟨?_, ?_, ?_, ?_⟩ <;> (repeat rw [World.cell?_setCell_other _ _ _ _ (by intro e; have e2 := congrArg Addr.block e; exact HN.out (by simp at e2; omega))]) <;> assumption
  · exact H0.out.trans (((((HB3.out.mono hle).setCell (Nat.le_refl _) _).setCell (Nat.le_refl _) _).setCell (Nat.le_refl _) _).setCell (Nat.le_refl _) _)
end Go.Proofs.YtgemlifpfffebaaDoor
