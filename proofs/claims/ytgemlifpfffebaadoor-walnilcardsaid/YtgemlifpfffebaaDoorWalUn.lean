/-
  The log's calls at a disk that nobody made, and at a log that nobody opened.
-/
import Derived.Test.YtgemlifpfffebaaDoorWalErr
namespace Go.Proofs.YtgemlifpfffebaaDoor
open Go.RowKit

theorem FaultAt.below {w w' : World} {b : Nat} {a c : Int} (h : FaultAt w b a c) (hb : Below w.heap.size w w') : FaultAt w' b a c := by
  have hl : b < w.heap.size := cell_lt h.1
  have hc : ∀ o, w'.cell? ⟨b, o, none⟩ = w.cell? ⟨b, o, none⟩ := fun o => hb.cell (p := ⟨b, o, none⟩) hl
  exact ⟨by rw [hc]; exact h.1, by rw [hc]; exact h.2.1, by rw [hc]; exact h.2.2.1, by rw [hc]; exact h.2.2.2⟩
theorem below_step {w w1 w2 : World} {o : Obj} (h1 : Below w.heap.size w w1) (h2 : Below (w1.alloc o).heap.size (w1.alloc o) w2) : Below w.heap.size w w2 :=
  below_then (h1.alloc h1.size o) h2
theorem WErr.after {w0 w w' : World} {c : Int} {v : Value} (h : WErr w c v w') (hb : Below w0.heap.size w0 w) : WErr w0 c v w' := by
  obtain ⟨b, e, f, g⟩ := h
  exact ⟨b, e, f, below_then hb g⟩
set_option maxHeartbeats 400000 in
theorem Format_un {v s : Value} (w : World) (hE : ErrType w) (hU : Un w v) : Calls Tryd.prog 10 #[v, s] w fun e w' => ∃ x, e = .returned x ∧ WErr w 3 x w' := by
  have HE : Hid (ErrType w) := hE
  have HU : Hid (Un w v) := hU
  clear hE hU
  go_enter Tryd.func10, Tryd.ntmps10
  go_wp2_with fail
  refine (Len_un _ _ HU.out).mono ?_
  rintro e w1 ⟨b, rfl, hF, hB⟩
  have HF : Hid (FaultAt w1 b 0 3 ∧ Below w.heap.size w w1) := ⟨hF, hB⟩
  clear hF hB
  go_wp2_with fail
  refine (unread_zero _ (errType_below HE.out HF.out.2) HF.out.1).mono ?_
  rintro e w2 ⟨x, rfl, hW⟩
  have HW : Hid (WErr w 3 x w2) := hW.after HF.out.2
  clear hW
  go_wp2_with fail
  go_ret
  exact ⟨_, rfl, HW.out⟩
set_option maxHeartbeats 400000 in
theorem scanArea_un {v a : Value} (w : World) (hU : Un w v) : Calls Tryd.prog 45 #[v, a] w fun e w' => ∃ b, e = .returned (.tuple #[.agg #[.int .u64 0, .slice none 0 0, .slice none 0 0, .int .i64 0, .int .i64 0, .int .i64 0], .iface 87 (.pointer (some ⟨b, 0, none⟩))]) ∧ FaultAt w' b 0 3 ∧ Below w.heap.size w w' := by
  obtain ⟨w0, hw0⟩ : ∃ w0, w.alloc (.cells #[.int .u64 0, .slice none 0 0, .slice none 0 0, .int .i64 0, .int .i64 0, .int .i64 0] 76) = w0 := ⟨_, rfl⟩
  have HU : Hid (Un w0 v) := by unfold Hid; rw [← hw0]; exact hU.alloc _
  have H0 : Hid (Below w.heap.size w w0) := by unfold Hid; rw [← hw0]; exact (Below.refl _ _).alloc (Nat.le_refl _) _
  have k : ∀ j x, (#[(.int .u64 0 : Value), .slice none 0 0, .slice none 0 0, .int .i64 0, .int .i64 0, .int .i64 0])[j]? = some x → w0.cell? ⟨w.heap.size, j, none⟩ = some x := fun j x h => by rw [← hw0]; simpa using h
  have HK : Hid (∀ j x, (#[(.int .u64 0 : Value), .slice none 0 0, .slice none 0 0, .int .i64 0, .int .i64 0, .int .i64 0])[j]? = some x → w0.cell? ⟨w.heap.size, j, none⟩ = some x) := k
  have HS : Hid (w0.heap.size = w.heap.size + 1) := by unfold Hid; rw [← hw0]; simp
  clear hU k
  go_enter Tryd.func45, Tryd.ntmps45
  go_wp2_with fail
  refine (Len_un _ _ HU.out).mono ?_
  rintro e w1 ⟨b, rfl, hF, hB⟩
  have hc : ∀ o, w1.cell? ⟨w.heap.size, o, none⟩ = w0.cell? ⟨w.heap.size, o, none⟩ := fun o => hB.cell (p := ⟨w.heap.size, o, none⟩) (by show w.heap.size < _; have := HS.out; omega)
  have hz : ∀ o, w1.frozen? ⟨w.heap.size, o, none⟩ = false := fun o => (hB.frozen (p := ⟨w.heap.size, o, none⟩) (by show w.heap.size < _; have := HS.out; omega)).trans (by rw [← hw0]; simp)
  have k0 := (hc 0).trans (HK.out 0 _ rfl)
  have k1 := (hc 1).trans (HK.out 1 _ rfl)
  have k2 := (hc 2).trans (HK.out 2 _ rfl)
  have k3 := (hc 3).trans (HK.out 3 _ rfl)
  have k4 := (hc 4).trans (HK.out 4 _ rfl)
  have k5 := (hc 5).trans (HK.out 5 _ rfl)
  have HN : Hid (b ≠ w.heap.size) := fun e => by have := hF.1; rw [e, k0] at this; simp at this
  have HF : Hid (FaultAt w1 b 0 3 ∧ Below w0.heap.size w0 w1) := ⟨hF, hB⟩
  clear hF hB hc hw0
  go_wp2_with fail
  refine bodyPost_ret (v := .tuple #[.agg #[.int .u64 0, .slice none 0 0, .slice none 0 0, .int .i64 0, .int .i64 0, .int .i64 0], .iface 87 (.pointer (some ⟨b, 0, none⟩))]) (by simp [results, Tryd.results45, go_sem, k0, k1, k2, k3, k4, k5]) rfl ⟨b, rfl, ?_, ?_⟩
  · obtain ⟨f0, f1, f2, f3⟩ := HF.out.1
    refine ⟨?_, ?_, ?_, ?_⟩ <;> (repeat rw [World.cell?_setCell_other _ _ _ _ (by intro e; have e2 := congrArg Addr.block e; exact HN.out (by simp at e2; omega))]) <;> assumption
  · have hle : w.heap.size ≤ w0.heap.size := by have := HS.out; omega
    exact H0.out.trans (((((((HF.out.2.mono hle).setCell (Nat.le_refl _) _).setCell (Nat.le_refl _) _).setCell (Nat.le_refl _) _).setCell (Nat.le_refl _) _).setCell (Nat.le_refl _) _).setCell (Nat.le_refl _) _)
set_option maxHeartbeats 1000000 in
theorem scan_un {v : Value} (w : World) (hE : ErrType w) (hU : Un w v) : Calls Tryd.prog 23 #[v] w fun e w' => ∃ x, e = .returned (.tuple #[.agg #[.int .u64 0, .slice none 0 0, .slice none 0 0, .int .i64 0, .int .i64 0, .int .i64 0, .int .u64 0, .slice none 0 0, .slice none 0 0, .int .i64 0, .int .i64 0, .int .i64 0], x]) ∧ WErr w 3 x w' := by
  obtain ⟨w0, hw0⟩ : ∃ w0, (w.alloc (.cells #[.int .u64 0, .slice none 0 0, .slice none 0 0, .int .i64 0, .int .i64 0, .int .i64 0, .int .u64 0, .slice none 0 0, .slice none 0 0, .int .i64 0, .int .i64 0, .int .i64 0] 77)).alloc (.cells #[.int .u64 0, .slice none 0 0, .slice none 0 0, .int .i64 0, .int .i64 0, .int .i64 0, .int .u64 0, .slice none 0 0, .slice none 0 0, .int .i64 0, .int .i64 0, .int .i64 0] 77) = w0 := ⟨_, rfl⟩
  have H0 : Hid (Below w.heap.size w w0) := by unfold Hid; rw [← hw0]; exact ((Below.refl _ _).alloc (Nat.le_refl _) _).alloc (by simp) _
  have HU : Hid (Un w0 v) := hU.below H0.out
  have HE : Hid (ErrType w0) := errType_below hE H0.out
  have HK : Hid (∀ j x, (#[(.int .u64 0 : Value), .slice none 0 0, .slice none 0 0, .int .i64 0, .int .i64 0, .int .i64 0, .int .u64 0, .slice none 0 0, .slice none 0 0, .int .i64 0, .int .i64 0, .int .i64 0])[j]? = some x → w0.cell? ⟨w.heap.size, j, none⟩ = some x) := fun j x h => by rw [← hw0, World.cell?_alloc_lt _ _ ⟨w.heap.size, j, none⟩ (by simp)]; simpa using h
  have HS : Hid (w.heap.size < w0.heap.size) := by unfold Hid; rw [← hw0]; simp; omega
  have HZ : Hid (∀ o, w0.frozen? ⟨w.heap.size, o, none⟩ = false) := fun o => by rw [← hw0]; simp
  clear hU hE
  go_enter Tryd.func23, Tryd.ntmps23
  go_wp2_with fail
  refine wp_loop_rounds 1 ?_
  rw [rounds_succ]
  go_wp2_with fail
  refine (scanArea_un _ HU.out).mono ?_
  rintro e w1 ⟨b, rfl, hF, hB⟩
  have HF : Hid (FaultAt w1 b 0 3 ∧ Below w0.heap.size w0 w1) := ⟨hF, hB⟩
  clear hF hB hw0
  go_wp2_with fail
  refine (unread_zero (b := b) _ (errType_below HE.out (HF.out.2.alloc HF.out.2.size _)) (FaultAt.below HF.out.1 ((Below.refl _ _).alloc (Nat.le_refl _) _))).mono ?_
  rintro e w2 ⟨x, rfl, b2, rfl, hF2, hB2⟩
  have HB2 : Hid (Below w0.heap.size w0 w2) := below_step HF.out.2 hB2
  have hc : ∀ o, w2.cell? ⟨w.heap.size, o, none⟩ = w0.cell? ⟨w.heap.size, o, none⟩ := fun o => HB2.out.cell (p := ⟨w.heap.size, o, none⟩) HS.out
  have hz : ∀ o, w2.frozen? ⟨w.heap.size, o, none⟩ = false := fun o => (HB2.out.frozen (p := ⟨w.heap.size, o, none⟩) HS.out).trans (HZ.out o)
  have k0 := (hc 0).trans (HK.out 0 _ rfl)
  have k1 := (hc 1).trans (HK.out 1 _ rfl)
  have k2 := (hc 2).trans (HK.out 2 _ rfl)
  have k3 := (hc 3).trans (HK.out 3 _ rfl)
  have k4 := (hc 4).trans (HK.out 4 _ rfl)
  have k5 := (hc 5).trans (HK.out 5 _ rfl)
  have k6 := (hc 6).trans (HK.out 6 _ rfl)
  have k7 := (hc 7).trans (HK.out 7 _ rfl)
  have k8 := (hc 8).trans (HK.out 8 _ rfl)
  have k9 := (hc 9).trans (HK.out 9 _ rfl)
  have k10 := (hc 10).trans (HK.out 10 _ rfl)
  have k11 := (hc 11).trans (HK.out 11 _ rfl)
  have HN : Hid (b2 ≠ w.heap.size) := fun e => by have := hF2.1; rw [e, k0] at this; simp at this
  have HG : Hid (WFault w2 b2 3 ∧ True ∧ Below w0.heap.size w0 w2) := ⟨hF2, trivial, HB2.out⟩
  clear hF2 hB2 hc
  go_wp2_with fail
  refine bodyPost_ret (v := .tuple #[.agg #[.int .u64 0, .slice none 0 0, .slice none 0 0, .int .i64 0, .int .i64 0, .int .i64 0, .int .u64 0, .slice none 0 0, .slice none 0 0, .int .i64 0, .int .i64 0, .int .i64 0], .iface 87 (.pointer (some ⟨b2, 0, none⟩))]) (by simp [results, Tryd.results23, go_sem, k0, k1, k2, k3, k4, k5, k6, k7, k8, k9, k10, k11]) rfl ⟨_, rfl, b2, rfl, ?_, ?_⟩
  · obtain ⟨f0, f1, f2, f3⟩ := HG.out.1
    refine ⟨?_, ?_, ?_, ?_⟩ <;> (repeat rw [World.cell?_setCell_other _ _ _ _ (by intro e; have e2 := congrArg Addr.block e; exact HN.out (by simp at e2; omega))]) <;> assumption
  · have hle : w.heap.size ≤ w0.heap.size := by have := HS.out; omega
    exact H0.out.trans (((((((((((((HG.out.2.2.mono hle).setCell (Nat.le_refl _) _).setCell (Nat.le_refl _) _).setCell (Nat.le_refl _) _).setCell (Nat.le_refl _) _).setCell (Nat.le_refl _) _).setCell (Nat.le_refl _) _).setCell (Nat.le_refl _) _).setCell (Nat.le_refl _) _).setCell (Nat.le_refl _) _).setCell (Nat.le_refl _) _).setCell (Nat.le_refl _) _).setCell (Nat.le_refl _) _)
end Go.Proofs.YtgemlifpfffebaaDoor
