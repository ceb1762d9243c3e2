/-
  A turn: what an act does to its message.
-/
import Derived.Test.YtigmgbnfiiobeaaDoorOxGet
import Derived.Deep.WholeRow
import Derived.Laws.Tables
import Derived.Laws.EntriesVeiled
import Derived.Shelf.Abstract
namespace Go.Proofs.YtigmgbnfiiobeaaDoor
open Go.RowKit

section
variable {w w' : World} {tb : Nat}
set_option maxHeartbeats 400000 in
theorem ef1 {u : Value} (h : w.cell? ⟨tb, 6, none⟩ = some u) (hf : w.frozen? ⟨tb, 6, none⟩ = false) : Calls Tryd.prog 59 #[.pointer (some ⟨tb, 0, none⟩)] w fun e w' => e = .returned (.tuple #[]) ∧ w' = w.setCell ⟨tb, 6, none⟩ (.bool true) := by
  go_enter Tryd.func59, Tryd.ntmps59
  go_wp2
  go_end0
  exact ⟨rfl, rfl⟩
set_option maxHeartbeats 400000 in
theorem ef2 {u : Value} {x : Int} (h : w.cell? ⟨tb, 5, none⟩ = some u) (hf : w.frozen? ⟨tb, 5, none⟩ = false) (hx : w.cell? ⟨tb, 10, none⟩ = some (.int .i64 x)) : Calls Tryd.prog 60 #[.pointer (some ⟨tb, 0, none⟩)] w fun e w' => e = .returned (.tuple #[]) ∧ w' = w.setCell ⟨tb, 5, none⟩ (.int .i64 x) := by
  go_enter Tryd.func60, Tryd.ntmps60
  go_wp2
  go_end0
  exact ⟨rfl, rfl⟩
set_option maxHeartbeats 400000 in
theorem ef3 {u : Value} (h : w.cell? ⟨tb, 11, none⟩ = some u) (hf : w.frozen? ⟨tb, 11, none⟩ = false) : Calls Tryd.prog 61 #[.pointer (some ⟨tb, 0, none⟩)] w fun e w' => e = .returned (.tuple #[]) ∧ w' = w.setCell ⟨tb, 11, none⟩ (.bool true) := by
  go_enter Tryd.func61, Tryd.ntmps61
  go_wp2
  go_end0
  exact ⟨rfl, rfl⟩
end
abbrev efA : Array Value := #[.int .i64 3, .func (.func 59) #[] #[], .int .i64 5, .func (.func 60) #[] #[], .int .i64 4, .func (.func 61) #[] #[]]
set_option maxRecDepth 100000 in
set_option maxHeartbeats 2000000 in
theorem effects_any (w : World) : Calls Tryd.prog 56 #[] w fun r w' => r = .returned (.agg efA) ∧ Below w.heap.size w w' := by
  have hl := run_loadVar_new (P := Tryd.prog) w 133 efA 3 132 Tryd.underlying133 (by kernel_rfl)
  have hs : ∀ c, (c : Array Value).size = 6 → (w.alloc (.cells c 133)).setRow w.heap.size efA = w.alloc (.cells efA 133) := fun c _ => World.setRow_alloc_new w c efA _
  go_enter Tryd.func56, Tryd.ntmps56
  go_wp2_with (refine wpList_store_row rfl 133 (.tmp 0) (.tmp 4) rfl w.heap.size efA rfl rfl 133 _ (heap_alloc_last w _) ?_ ?_ ?_ ?_; kernel_rfl; kernel_rfl; kernel_rfl; rw [hs _ rfl])
  refine bodyPost_ret (v := .agg efA) ?_ rfl ⟨rfl, ?_⟩
  · simp [results, Tryd.results56, asAddr]
    exact hl
  · exact (Below.refl _ _).alloc (Nat.le_refl _) _
theorem eix0 (w : World) : (Instr.index 133 (.agg efA) (.int .i64 0)).run Tryd.prog w = .ok (.agg #[.int .i64 3, .func (.func 59) #[] #[]]) w := by kernel_rfl
theorem eix1 (w : World) : (Instr.index 133 (.agg efA) (.int .i64 1)).run Tryd.prog w = .ok (.agg #[.int .i64 5, .func (.func 60) #[] #[]]) w := by kernel_rfl
theorem eix2 (w : World) : (Instr.index 133 (.agg efA) (.int .i64 2)).run Tryd.prog w = .ok (.agg #[.int .i64 4, .func (.func 61) #[] #[]]) w := by kernel_rfl
/-- A turn in memory. -/
def Tn (w : World) (tb : Nat) (t : Msg × Bool) (x : Int) : Prop := Box w tb #[.string t.1.ct, .slice t.1.tp t.1.tn t.1.tc, .bool t.1.e, .int .i64 t.1.a, .int .i64 t.1.p, .int .i64 t.1.nu, .bool t.1.nt, .int .i64 t.1.st, .int .i64 t.1.lf, .bool t.1.un, .int .i64 x, .bool t.2]
theorem Tn.note {w : World} {tb : Nat} {t : Msg × Bool} {x : Int} (h : Tn w tb t x) : Tn (w.setCell ⟨tb, 6, none⟩ (.bool true)) tb ({ t.1 with nt := true }, t.2) x := by
  have := Box.pPut h (j := 6) (by simp) (.bool true)
  simpa [Tn] using this
theorem Tn.numb {w : World} {tb : Nat} {t : Msg × Bool} {x : Int} (h : Tn w tb t x) : Tn (w.setCell ⟨tb, 5, none⟩ (.int .i64 x)) tb ({ t.1 with nu := x }, t.2) x := by
  have := Box.pPut h (j := 5) (by simp) (.int .i64 x)
  simpa [Tn] using this
theorem Tn.over {w : World} {tb : Nat} {t : Msg × Bool} {x : Int} (h : Tn w tb t x) : Tn (w.setCell ⟨tb, 11, none⟩ (.bool true)) tb (t.1, true) x := by
  have := Box.pPut h (j := 11) (by simp) (.bool true)
  simpa [Tn] using this
theorem Tn.off {P : Nat → Prop} {w w' : World} {tb : Nat} {t : Msg × Bool} {x : Int} (h : Tn w tb t x) (o : Off P w w') (hP : ¬ P tb) : Tn w' tb t x := Box.off h o hP
/-- What the first i of the effects have done. -/
def efS (x : Int) (t : Msg × Bool) (k : Int) (i : Nat) : Msg × Bool :=
  if k = 3 then (if 0 < i then ({ t.1 with nt := true }, t.2) else t) else if k = 5 then (if 1 < i then ({ t.1 with nu := x }, t.2) else t) else if k = 4 then (if 2 < i then (t.1, true) else t) else t
theorem efS_0 (x : Int) (t : Msg × Bool) (k : Int) : efS x t k 0 = t := by
  unfold efS
  repeat' split
  all_goals first | rfl | omega
theorem efS_3 (x : Int) (t : Msg × Bool) (k : Int) : efS x t k 3 = tkS x t k := by
  unfold efS tkS
  repeat' split
  all_goals first | rfl | omega
theorem efS_step (x : Int) (t : Msg × Bool) (k : Int) (i : Nat) (h : ¬ (i = 0 ∧ k = 3)) (h1 : ¬ (i = 1 ∧ k = 5)) (h2 : ¬ (i = 2 ∧ k = 4)) : efS x t k (i + 1) = efS x t k i := by
  unfold efS
  repeat' split
  all_goals first | rfl | omega
set_option maxRecDepth 100000 in
set_option maxHeartbeats 4000000 in
theorem take_any {w : World} {tb : Nat} {t : Msg × Bool} {x : Int} (h : Tn w tb t x) (k : Int) (cd : ByteArray) : Calls Tryd.prog 46 #[.pointer (some ⟨tb, 0, none⟩), .agg #[.int .i64 k, .string cd]] w fun e w' => e = .returned (.tuple #[]) ∧ Tn w' tb (tkS x t k) x ∧ Off (fun q => q = tb) w w' := by
  have hb0 : Below w.heap.size w (w.alloc (.cells #[.int .i64 k, .string cd] 57)) := (Below.refl _ _).alloc (Nat.le_refl _) _
  have hx0 := Box.new w #[.int .i64 k, .string cd] 57
  have hef := effects_any (w.alloc (.cells #[.int .i64 k, .string cd] 57))
  have hlt := Box.lt h
  have HT : Hid (Tn w tb t x) := h
  clear h
  go_enter Tryd.func46, Tryd.ntmps46
  go_wp2_with fail
  refine hef.mono ?_
  rintro _ w1 ⟨rfl, hb1⟩
  have HB1 : Hid (Below w.heap.size w w1 ∧ Box w1 w.heap.size #[.int .i64 k, .string cd]) := ⟨below_then hb0 hb1, hx0.below hb1⟩
  have HT1 : Hid (Tn w1 tb (efS x t k 0) x) := by
    unfold Hid; rw [efS_0]; exact HT.out.off (P := fun _ => False) (Off.of_below HB1.out.1) id
  clear hef hb1 hb0 hx0 HT
  have i0 := eix0
  have i1 := eix1
  have i2 := eix2
  obtain ⟨E, hE⟩ : ∃ E, efA = E := ⟨_, rfl⟩
  rw [hE] at i0 i1 i2 ⊢
  clear hE
  go_wp2_with fail
  go_loopw [7] (fun t7 wx => ∃ i : Nat, i ≤ 3 ∧ t7 = .int .i64 i ∧ Hid (Tn wx tb (efS x t k i) x ∧ Off (fun q => q = tb) w1 wx)) (fun t7 _ => 3 - (intOf t7).toNat)
  case atStart => exact ⟨0, by omega, rfl, HT1.out, Off.refl _ _⟩
  case round =>
    obtain ⟨i, hi, rfl, HR⟩ := hrel
    have hltr : tb < wr.heap.size := Box.lt HR.out.1
    have hxr : Box wr w.heap.size #[.int .i64 k, .string cd] := HB1.out.2.off HR.out.2 (by omega)
    have kr : wr.cell? ⟨w.heap.size, 0, none⟩ = some (.int .i64 k) := hxr.cell 0
    have hlx := hxr.lt
    have HA : Hid (∀ o, Tn (wr.alloc o) tb (efS x t k i) x ∧ Off (fun q => q = tb) w1 (wr.alloc o)) := fun o => ⟨Box.alloc HR.out.1 o, HR.out.2.alloc o⟩
    clear hxr
    by_cases h3 : i = 3
    · subst h3
      go_wp2_with fail
      go_end0
      refine ⟨rfl, ?_, (Off.of_below HB1.out.1).trans HR.out.2⟩
      rw [← efS_3]; exact HR.out.1
    rcases (by omega : i = 0 ∨ i = 1 ∨ i = 2) with rfl | rfl | rfl
    · by_cases hk : k = 3
      · subst hk
        have c6 : ∀ o, (wr.alloc o).cell? ⟨tb, 6, none⟩ = some (.bool (efS x t 3 0).1.nt) := fun o => (HA.out o).1.cell 6
        have f6 : ∀ o, (wr.alloc o).frozen? ⟨tb, 6, none⟩ = false := fun o => (HA.out o).1.free 6
        go_wp2_with fail
        refine (ef1 (c6 _) (f6 _)).mono ?_
        rintro _ w2 ⟨rfl, hw2⟩
        have HZ : Hid (Tn w2 tb (efS x t 3 1) x ∧ Off (fun q => q = tb) w1 w2) := by
          rw [hw2]
          refine ⟨?_, (HA.out _).2.setCell (p := ⟨tb, 6, none⟩) rfl _⟩
          have := (HA.out (.cells #[.int .i64 3, .func (.func 59) #[] #[]] 132)).1.note
          rw [efS_0] at this
          exact this
        clear hw2 c6 f6
        go_wp2_with fail
        go_roundw
        case rel => exact ⟨1, by omega, rfl, HZ⟩
        case measure => simp [intOf]
      · have g : (3 == k) = false := by rw [beq_eq_false_iff_ne]; omega
        have HZ : Hid (∀ o, Tn (wr.alloc o) tb (efS x t k 1) x ∧ Off (fun q => q = tb) w1 (wr.alloc o)) := fun o => by
          rw [efS_step x t k 0 (by omega) (by omega) (by omega)]; exact HA.out o
        go_wp2_with fail
        go_roundw
        case rel => exact ⟨1, by omega, rfl, HZ.out _⟩
        case measure => simp [intOf]
    · by_cases hk : k = 5
      · subst hk
        have c5 : ∀ o, (wr.alloc o).cell? ⟨tb, 5, none⟩ = some (.int .i64 (efS x t 5 1).1.nu) := fun o => (HA.out o).1.cell 5
        have c10 : ∀ o, (wr.alloc o).cell? ⟨tb, 10, none⟩ = some (.int .i64 x) := fun o => (HA.out o).1.cell 10
        have f5 : ∀ o, (wr.alloc o).frozen? ⟨tb, 5, none⟩ = false := fun o => (HA.out o).1.free 5
        go_wp2_with fail
        refine (ef2 (c5 _) (f5 _) (c10 _)).mono ?_
        rintro _ w2 ⟨rfl, hw2⟩
        have HZ : Hid (Tn w2 tb (efS x t 5 2) x ∧ Off (fun q => q = tb) w1 w2) := by
          rw [hw2]
          refine ⟨?_, (HA.out _).2.setCell (p := ⟨tb, 5, none⟩) rfl _⟩
          have := (HA.out (.cells #[.int .i64 5, .func (.func 60) #[] #[]] 132)).1.numb
          exact this
        clear hw2 c5 c10 f5
        go_wp2_with fail
        go_roundw
        case rel => exact ⟨2, by omega, rfl, HZ⟩
        case measure => simp [intOf]
      · have g : (5 == k) = false := by rw [beq_eq_false_iff_ne]; omega
        have HZ : Hid (∀ o, Tn (wr.alloc o) tb (efS x t k 2) x ∧ Off (fun q => q = tb) w1 (wr.alloc o)) := fun o => by
          rw [efS_step x t k 1 (by omega) (by omega) (by omega)]; exact HA.out o
        go_wp2_with fail
        go_roundw
        case rel => exact ⟨2, by omega, rfl, HZ.out _⟩
        case measure => simp [intOf]
    · by_cases hk : k = 4
      · subst hk
        have c11 : ∀ o, (wr.alloc o).cell? ⟨tb, 11, none⟩ = some (.bool (efS x t 4 2).2) := fun o => (HA.out o).1.cell 11
        have f11 : ∀ o, (wr.alloc o).frozen? ⟨tb, 11, none⟩ = false := fun o => (HA.out o).1.free 11
        go_wp2_with fail
        refine (ef3 (c11 _) (f11 _)).mono ?_
        rintro _ w2 ⟨rfl, hw2⟩
        have HZ : Hid (Tn w2 tb (efS x t 4 3) x ∧ Off (fun q => q = tb) w1 w2) := by
          rw [hw2]
          refine ⟨?_, (HA.out _).2.setCell (p := ⟨tb, 11, none⟩) rfl _⟩
          have := (HA.out (.cells #[.int .i64 4, .func (.func 61) #[] #[]] 132)).1.over
          exact this
        clear hw2 c11 f11
        go_wp2_with fail
        go_roundw
        case rel => exact ⟨3, by omega, rfl, HZ⟩
        case measure => simp [intOf]
      · have g : (4 == k) = false := by rw [beq_eq_false_iff_ne]; omega
        have HZ : Hid (∀ o, Tn (wr.alloc o) tb (efS x t k 3) x ∧ Off (fun q => q = tb) w1 (wr.alloc o)) := fun o => by
          rw [efS_step x t k 2 (by omega) (by omega) (by omega)]; exact HA.out o
        go_wp2_with fail
        go_roundw
        case rel => exact ⟨3, by omega, rfl, HZ.out _⟩
        case measure => simp [intOf]
end Go.Proofs.YtigmgbnfiiobeaaDoor
