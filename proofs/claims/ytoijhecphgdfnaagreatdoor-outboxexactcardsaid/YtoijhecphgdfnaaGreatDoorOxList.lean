import Derived.Test.YtoijhecphgdfnaaGreatDoorOxGet
import Derived.Deep.WholeRow
import Derived.Laws.Tables
import Derived.Laws.EntriesVeiled
import Derived.Shelf.Abstract
import Derived.Test.YtoijhecphgdfnaaGreatDoorDcPd
/-
  A turn: what an act does to its message.
-/
namespace Go.Proofs.YtoijhecphgdfnaaGreatDoor
open Go.RowKit

section
variable {w w' : World} {tb : Nat}
set_option maxHeartbeats 400000 in
theorem ef1 {u : Value} (h : w.cell? ⟨tb, 6, none⟩ = some u) (hf : w.frozen? ⟨tb, 6, none⟩ = false) : Calls Tryz.prog 109 #[.pointer (some ⟨tb, 0, none⟩)] w fun e w' => e = .returned (.tuple #[]) ∧ w' = w.setCell ⟨tb, 6, none⟩ (.bool true) := by
  go_enter Tryz.func109, Tryz.ntmps109
  go_wp2
  go_end0
  exact ⟨rfl, rfl⟩
set_option maxHeartbeats 400000 in
theorem ef2 {u : Value} {x : Int} (h : w.cell? ⟨tb, 5, none⟩ = some u) (hf : w.frozen? ⟨tb, 5, none⟩ = false) (hx : w.cell? ⟨tb, 10, none⟩ = some (.int .i64 x)) : Calls Tryz.prog 110 #[.pointer (some ⟨tb, 0, none⟩)] w fun e w' => e = .returned (.tuple #[]) ∧ w' = w.setCell ⟨tb, 5, none⟩ (.int .i64 x) := by
  go_enter Tryz.func110, Tryz.ntmps110
  go_wp2
  go_end0
  exact ⟨rfl, rfl⟩
set_option maxHeartbeats 400000 in
theorem ef3 {u : Value} (h : w.cell? ⟨tb, 11, none⟩ = some u) (hf : w.frozen? ⟨tb, 11, none⟩ = false) : Calls Tryz.prog 111 #[.pointer (some ⟨tb, 0, none⟩)] w fun e w' => e = .returned (.tuple #[]) ∧ w' = w.setCell ⟨tb, 11, none⟩ (.bool true) := by
  go_enter Tryz.func111, Tryz.ntmps111
  go_wp2
  go_end0
  exact ⟨rfl, rfl⟩
end
abbrev efA : Array Value := #[.int .i64 3, .func (.func 109) #[] #[], .int .i64 5, .func (.func 110) #[] #[], .int .i64 4, .func (.func 111) #[] #[]]
set_option maxRecDepth 100000 in
set_option maxHeartbeats 2000000 in
theorem effects_any (w : World) : Calls Tryz.prog 106 #[] w fun r w' => r = .returned (.agg efA) ∧ Below w.heap.size w w' := by
  have hl := run_loadVar_new (P := Tryz.prog) w 193 efA 3 192 Tryz.underlying193 (by kernel_rfl)
  have hs : ∀ c, (c : Array Value).size = 6 → (w.alloc (.cells c 193)).setRow w.heap.size efA = w.alloc (.cells efA 193) := fun c _ => World.setRow_alloc_new w c efA _
  go_enter Tryz.func106, Tryz.ntmps106
  go_wp2_with (refine wpList_store_row rfl 193 (.tmp 0) (.tmp 4) rfl w.heap.size efA rfl rfl 193 _ (heap_alloc_last w _) ?_ ?_ ?_ ?_; kernel_rfl; kernel_rfl; kernel_rfl; rw [hs _ rfl])
  refine bodyPost_ret (v := .agg efA) ?_ rfl ⟨rfl, ?_⟩
  · simp [results, Tryz.results106, asAddr]
    exact hl
  · exact (Below.refl _ _).alloc (Nat.le_refl _) _
theorem eix0 (w : World) : (Instr.index 193 (.agg efA) (.int .i64 0)).run Tryz.prog w = .ok (.agg #[.int .i64 3, .func (.func 109) #[] #[]]) w := by kernel_rfl
theorem eix1 (w : World) : (Instr.index 193 (.agg efA) (.int .i64 1)).run Tryz.prog w = .ok (.agg #[.int .i64 5, .func (.func 110) #[] #[]]) w := by kernel_rfl
theorem eix2 (w : World) : (Instr.index 193 (.agg efA) (.int .i64 2)).run Tryz.prog w = .ok (.agg #[.int .i64 4, .func (.func 111) #[] #[]]) w := by kernel_rfl
/-- A turn in memory. -/
def Tn (w : World) (tb : Nat) (t : Msg × Bool) (x : Int) : Prop := Box w tb #[.string t.1.ct, .slice t.1.tp t.1.tn t.1.tc, .bool t.1.e, .int .i64 t.1.a, .int .i64 t.1.p, .int .i64 t.1.nu, .bool t.1.nt, .int .i64 t.1.st, .int .i64 t.1.lf, .bool t.1.un, .int .i64 x, .bool t.2]
theorem Tn.note {w : World} {tb : Nat} {t : Msg × Bool} {x : Int} (h : Tn w tb t x) : Tn (w.setCell ⟨tb, 6, none⟩ (.bool true)) tb ({ t.1 with nt := true }, t.2) x := by
  have := Box.pPut h (j := 6) (by simp) (.bool true)
  simpa [Tn] using this
theorem Tn.numb {w : World} {tb : Nat} {t : Msg × Bool} {x : Int} (h : Tn w tb t x) : Tn (w.setCell ⟨tb, 5, none⟩ (.int .i64 x)) tb ({ t.1 with nu := x }, t.2) x := by
  have := Box.pPut h (j := 5) (by simp) (.int .i64 x)
  simpa [Tn] using this
theorem Tn.over {w : World} {tb : Nat} {t : Msg × Bool} {x : Int} (h : Tn w tb t x) : Tn (w.setCell ⟨tb, 11, none⟩ (.bool true)) tb (t.1, true) x := by
  have := Box.pPut h (j := 11) (by simp) (.bool true)
  simpa [Tn] using this
theorem Tn.off {P : Nat → Prop} {w w' : World} {tb : Nat} {t : Msg × Bool} {x : Int} (h : Tn w tb t x) (o : Off P w w') (hP : ¬ P tb) : Tn w' tb t x := Box.off h o hP
/-- What the first i of the effects have done. -/
def efS (x : Int) (t : Msg × Bool) (k : Int) (i : Nat) : Msg × Bool :=
  if k = 3 then (if 0 < i then ({ t.1 with nt := true }, t.2) else t) else if k = 5 then (if 1 < i then ({ t.1 with nu := x }, t.2) else t) else if k = 4 then (if 2 < i then (t.1, true) else t) else t
theorem efS_0 (x : Int) (t : Msg × Bool) (k : Int) : efS x t k 0 = t := by
  unfold efS
  repeat' split
  all_goals first | rfl | omega
theorem efS_3 (x : Int) (t : Msg × Bool) (k : Int) : efS x t k 3 = tkS x t k := by
  unfold efS tkS
  repeat' split
  all_goals first | rfl | omega
theorem efS_step (x : Int) (t : Msg × Bool) (k : Int) (i : Nat) (h : ¬ (i = 0 ∧ k = 3)) (h1 : ¬ (i = 1 ∧ k = 5)) (h2 : ¬ (i = 2 ∧ k = 4)) : efS x t k (i + 1) = efS x t k i := by
  unfold efS
  repeat' split
  all_goals first | rfl | omega
set_option maxRecDepth 100000 in
set_option maxHeartbeats 4000000 in
theorem take_any {w : World} {tb : Nat} {t : Msg × Bool} {x : Int} (h : Tn w tb t x) (k : Int) (cd : ByteArray) : Calls Tryz.prog 89 #[.pointer (some ⟨tb, 0, none⟩), .agg #[.int .i64 k, .string cd]] w fun e w' => e = .returned (.tuple #[]) ∧ Tn w' tb (tkS x t k) x ∧ Off (fun q => q = tb) w w' := by
  have hb0 : Below w.heap.size w (w.alloc (.cells #[.int .i64 k, .string cd] 103)) := (Below.refl _ _).alloc (Nat.le_refl _) _
  have hx0 := Box.new w #[.int .i64 k, .string cd] 103
  have hef := effects_any (w.alloc (.cells #[.int .i64 k, .string cd] 103))
  have hlt := Box.lt h
  have HT : Hid (Tn w tb t x) := h
  clear h
  go_enter Tryz.func89, Tryz.ntmps89
  go_wp2_with fail
  refine hef.mono ?_
  rintro _ w1 ⟨rfl, hb1⟩
  have HB1 : Hid (Below w.heap.size w w1 ∧ Box w1 w.heap.size #[.int .i64 k, .string cd]) := ⟨below_then hb0 hb1, hx0.below hb1⟩
  have HT1 : Hid (Tn w1 tb (efS x t k 0) x) := by
    unfold Hid; rw [efS_0]; exact HT.out.off (P := fun _ => False) (Off.of_below HB1.out.1) id
  clear hef hb1 hb0 hx0 HT
  have i0 := eix0
  have i1 := eix1
  have i2 := eix2
  obtain ⟨E, hE⟩ : ∃ E, efA = E := ⟨_, rfl⟩
  rw [hE] at i0 i1 i2 ⊢
  clear hE
  go_wp2_with fail
  go_loopw [7] (fun t7 wx => ∃ i : Nat, i ≤ 3 ∧ t7 = .int .i64 i ∧ Hid (Tn wx tb (efS x t k i) x ∧ Off (fun q => q = tb) w1 wx)) (fun t7 _ => 3 - (intOf t7).toNat)
  case atStart => exact ⟨0, by omega, rfl, HT1.out, Off.refl _ _⟩
  case round =>
    obtain ⟨i, hi, rfl, HR⟩ := hrel
    have hltr : tb < wr.heap.size := Box.lt HR.out.1
    have hxr : Box wr w.heap.size #[.int .i64 k, .string cd] := HB1.out.2.off HR.out.2 (by omega)
    have kr : wr.cell? ⟨w.heap.size, 0, none⟩ = some (.int .i64 k) := hxr.cell 0
    have hlx := hxr.lt
    have HA : Hid (∀ o, Tn (wr.alloc o) tb (efS x t k i) x ∧ Off (fun q => q = tb) w1 (wr.alloc o)) := fun o => ⟨Box.alloc HR.out.1 o, HR.out.2.alloc o⟩
    clear hxr
    by_cases h3 : i = 3
    · subst h3
      go_wp2_with fail
      go_end0
      refine ⟨rfl, ?_, (Off.of_below HB1.out.1).trans HR.out.2⟩
      rw [← efS_3]; exact HR.out.1
    rcases (by omega : i = 0 ∨ i = 1 ∨ i = 2) with rfl | rfl | rfl
    · by_cases hk : k = 3
      · subst hk
        have c6 : ∀ o, (wr.alloc o).cell? ⟨tb, 6, none⟩ = some (.bool (efS x t 3 0).1.nt) := fun o => (HA.out o).1.cell 6
        have f6 : ∀ o, (wr.alloc o).frozen? ⟨tb, 6, none⟩ = false := fun o => (HA.out o).1.free 6
        go_wp2_with fail
        refine (ef1 (c6 _) (f6 _)).mono ?_
        rintro _ w2 ⟨rfl, hw2⟩
        have HZ : Hid (Tn w2 tb (efS x t 3 1) x ∧ Off (fun q => q = tb) w1 w2) := by
          rw [hw2]
          refine ⟨?_, (HA.out _).2.setCell (p := ⟨tb, 6, none⟩) rfl _⟩
          have := (HA.out (.cells #[.int .i64 3, .func (.func 109) #[] #[]] 192)).1.note
          rw [efS_0] at this
          exact this
        clear hw2 c6 f6
        go_wp2_with fail
        go_roundw
        case rel => exact ⟨1, by omega, rfl, HZ⟩
        case measure => simp [intOf]
      · have g : (3 == k) = false := by rw [beq_eq_false_iff_ne]; omega
        have HZ : Hid (∀ o, Tn (wr.alloc o) tb (efS x t k 1) x ∧ Off (fun q => q = tb) w1 (wr.alloc o)) := fun o => by
          rw [efS_step x t k 0 (by omega) (by omega) (by omega)]; exact HA.out o
        go_wp2_with fail
        go_roundw
        case rel => exact ⟨1, by omega, rfl, HZ.out _⟩
        case measure => simp [intOf]
    · by_cases hk : k = 5
      · subst hk
        have c5 : ∀ o, (wr.alloc o).cell? ⟨tb, 5, none⟩ = some (.int .i64 (efS x t 5 1).1.nu) := fun o => (HA.out o).1.cell 5
        have c10 : ∀ o, (wr.alloc o).cell? ⟨tb, 10, none⟩ = some (.int .i64 x) := fun o => (HA.out o).1.cell 10
        have f5 : ∀ o, (wr.alloc o).frozen? ⟨tb, 5, none⟩ = false := fun o => (HA.out o).1.free 5
        go_wp2_with fail
        refine (ef2 (c5 _) (f5 _) (c10 _)).mono ?_
        rintro _ w2 ⟨rfl, hw2⟩
        have HZ : Hid (Tn w2 tb (efS x t 5 2) x ∧ Off (fun q => q = tb) w1 w2) := by
          rw [hw2]
          refine ⟨?_, (HA.out _).2.setCell (p := ⟨tb, 5, none⟩) rfl _⟩
          have := (HA.out (.cells #[.int .i64 5, .func (.func 110) #[] #[]] 192)).1.numb
          exact this
        clear hw2 c5 c10 f5
        go_wp2_with fail
        go_roundw
        case rel => exact ⟨2, by omega, rfl, HZ⟩
        case measure => simp [intOf]
      · have g : (5 == k) = false := by rw [beq_eq_false_iff_ne]; omega
        have HZ : Hid (∀ o, Tn (wr.alloc o) tb (efS x t k 2) x ∧ Off (fun q => q = tb) w1 (wr.alloc o)) := fun o => by
          rw [efS_step x t k 1 (by omega) (by omega) (by omega)]; exact HA.out o
        go_wp2_with fail
        go_roundw
        case rel => exact ⟨2, by omega, rfl, HZ.out _⟩
        case measure => simp [intOf]
    · by_cases hk : k = 4
      · subst hk
        have c11 : ∀ o, (wr.alloc o).cell? ⟨tb, 11, none⟩ = some (.bool (efS x t 4 2).2) := fun o => (HA.out o).1.cell 11
        have f11 : ∀ o, (wr.alloc o).frozen? ⟨tb, 11, none⟩ = false := fun o => (HA.out o).1.free 11
        go_wp2_with fail
        refine (ef3 (c11 _) (f11 _)).mono ?_
        rintro _ w2 ⟨rfl, hw2⟩
        have HZ : Hid (Tn w2 tb (efS x t 4 3) x ∧ Off (fun q => q = tb) w1 w2) := by
          rw [hw2]
          refine ⟨?_, (HA.out _).2.setCell (p := ⟨tb, 11, none⟩) rfl _⟩
          have := (HA.out (.cells #[.int .i64 4, .func (.func 111) #[] #[]] 192)).1.over
          exact this
        clear hw2 c11 f11
        go_wp2_with fail
        go_roundw
        case rel => exact ⟨3, by omega, rfl, HZ⟩
        case measure => simp [intOf]
      · have g : (4 == k) = false := by rw [beq_eq_false_iff_ne]; omega
        have HZ : Hid (∀ o, Tn (wr.alloc o) tb (efS x t k 3) x ∧ Off (fun q => q = tb) w1 (wr.alloc o)) := fun o => by
          rw [efS_step x t k 2 (by omega) (by omega) (by omega)]; exact HA.out o
        go_wp2_with fail
        go_roundw
        case rel => exact ⟨3, by omega, rfl, HZ.out _⟩
        case measure => simp [intOf]
end Go.Proofs.YtoijhecphgdfnaaGreatDoor

/-
  do: acts done to a message of the box.
-/
namespace Go.Proofs.YtoijhecphgdfnaaGreatDoor
open Go.RowKit

theorem encD_len (d : Deed) : (encD d).length = 3 := rfl
theorem celD : Cel Tryz.prog 105 3 40 := cel_of (by kernel_rfl)
theorem made_flat {α : Type} {enc : α → List Value} {k : Nat} (hk : ∀ x, (enc x).length = k) (h0 : 0 < k) (x : α) (n : Nat) : (madeCells (enc x).toArray (n * k)).toList = (List.replicate n x).flatMap enc := by
  apply List.ext_getElem?
  intro j
  by_cases hj : j < n * k
  · have hm : j % k < k := Nat.mod_lt _ h0
    have hd : j / k < n := Nat.div_lt_of_lt_mul (by rw [Nat.mul_comm]; exact hj)
    have := flat_get hk (List.replicate n x) (j / k) x (j % k) (by rw [List.getElem?_replicate, if_pos hd]) hm
    rw [show j / k * k + j % k = j by rw [Nat.mul_comm]; exact Nat.div_add_mod j k] at this
    rw [this]
    have hl : j % k < (enc x).length := by rw [hk]; exact hm
    unfold madeCells
    rw [Array.getElem?_toList, Array.getElem?_map, Array.getElem?_range, if_pos hj, Option.map_some, List.size_toArray, hk, List.getElem?_eq_getElem hl]
    congr 1
    simp [hl]
  · rw [List.getElem?_eq_none (by simp [size_madeCells]; omega), List.getElem?_eq_none (by rw [flat_len hk]; simp; omega)]
abbrev zD : Deed := (⟨#[]⟩, 0, ⟨#[]⟩)
/-- A list of deeds of one's own. -/
def DRow (w : World) (B : Nat) (v : Value) (ds : List Deed) : Prop := ERow w B 105 3 encD v ds
theorem run_make_deeds {w : World} (n : Nat) (hn : n ≤ 1000) : ∃ w', (Instr.makeSlice 77 (.int .i64 (n : Int)) (.int .i64 (n : Int))).run Tryz.prog w = .ok (.slice (some ⟨w.heap.size, 0, none⟩) n n) w' ∧ DRow w' w.heap.size (.slice (some ⟨w.heap.size, 0, none⟩) n n) (List.replicate n zD) ∧ Below w.heap.size w w' := by
  have h : (Tryz.prog.info? 105).map (fun i => (i.zero, i.size, i.bytes)) = some (some (.agg #[.string ⟨#[]⟩, .int .i64 0, .string ⟨#[]⟩]), 3, 40) := by kernel_rfl
  obtain ⟨i, hi, e⟩ := Option.map_eq_some_iff.1 h
  simp only [Prod.mk.injEq] at e
  obtain ⟨hz, hs, hby⟩ := e
  obtain ⟨w', h1, h2, h3⟩ := run_make_full (P := Tryz.prog) w w.heap.size 77 105 i _ 3 Tryz.underlying77 hi hz hs .i64 .i64 n (by rw [hby]; omega) (by unfold maxLen; omega) (Nat.le_refl _)
  refine ⟨w', h1, ?_, (Off.of_grown h3).below (Nat.le_refl _) (fun k e => by cases e)⟩
  unfold DRow ERow
  rw [List.length_replicate]
  have e : (madeCells (Value.agg #[.string ⟨#[]⟩, .int .i64 0, .string ⟨#[]⟩]).cells (n * 3)).toList = (List.replicate n zD).flatMap encD := made_flat encD_len (by decide) zD n
  rw [← e]
  exact h2
end Go.Proofs.YtoijhecphgdfnaaGreatDoor

/-
  do: the acts gone through.
-/
namespace Go.Proofs.YtoijhecphgdfnaaGreatDoor
open Go.RowKit

theorem flat_setG {α : Type} {enc : α → List Value} {k : Nat} (hk : ∀ x, (enc x).length = k) : ∀ (xs : List α) (i : Nat) (x : α), i < xs.length → setAll (xs.flatMap enc) (i * k) (enc x) = (xs.set i x).flatMap enc
  | [], i, x, h => by simp at h
  | y :: r, 0, x, _ => by
    rw [List.flatMap_cons, List.set_cons_zero, List.flatMap_cons, Nat.zero_mul]
    have := setAll_pre (enc x) (enc y) (r.flatMap enc) [] (by rw [hk, hk])
    simpa using this
  | y :: r, i + 1, x, h => by
    rw [List.flatMap_cons, List.set_cons_succ, List.flatMap_cons, show (i + 1) * k = (enc y).length + i * k by rw [hk, Nat.succ_mul]; omega, setAll_app, flat_setG hk r i x (by simpa using h)]
theorem erow_setG {α : Type} {enc : α → List Value} {k : Nat} (hk : ∀ x, (enc x).length = k) {w : World} {B n cap g i : Nat} {e : TypeId} {xs : List α} (h : ERow w B e k enc (.slice (some ⟨g, 0, none⟩) n cap) xs) (x : α) (hi : i < xs.length) : ERow (w.setCells g (i * k) (enc x)) B e k enc (.slice (some ⟨g, 0, none⟩) n cap) (xs.set i x) := by
  have hn : n = xs.length := h.len
  subst hn
  have := own_setCells (enc x) (i * k) w _ h
  unfold ERow
  rw [← flat_setG hk xs i x hi, List.length_set]
  exact this
/-- The deeds as far as they are laid down. -/
def dPart (c : ByteArray) (l : ActL) (i : Nat) : List Deed := deedsS c (l.take i) ++ List.replicate (l.length - i) zD
theorem dPart_len (c : ByteArray) (l : ActL) (i : Nat) (h : i ≤ l.length) : (dPart c l i).length = l.length := by
  unfold dPart deedsS; simp; omega
theorem dPart_set {c : ByteArray} {l : ActL} {i : Nat} {y : Int × ByteArray} (h : l[i]? = some y) : (dPart c l i).set i (c, y.1, y.2) = dPart c l (i + 1) := by
  obtain ⟨hi, hy⟩ := List.getElem?_eq_some_iff.1 h
  unfold dPart deedsS
  rw [List.take_succ_eq_append_getElem hi, List.map_append, hy]
  obtain ⟨k, hk⟩ : ∃ k, l.length - i = k + 1 := ⟨l.length - i - 1, by omega⟩
  have hl : ((l.take i).map fun y => (c, y.1, y.2)).length = i := by simp; omega
  rw [hk, List.replicate_succ, List.set_append_right _ _ (by omega), hl, Nat.sub_self, List.set_cons_zero, show l.length - (i + 1) = k by omega]
  simp
theorem dPart_all (c : ByteArray) (l : ActL) : dPart c l l.length = deedsS c l := by unfold dPart; simp
theorem tks_next {x : Int} {t : Msg × Bool} {l : ActL} {i : Nat} {y : Int × ByteArray} (h : l[i]? = some y) : tksS x t (l.take (i + 1)) = tkS x (tksS x t (l.take i)) y.1 := by
  obtain ⟨hi, hy⟩ := List.getElem?_eq_some_iff.1 h
  unfold tksS
  rw [List.take_succ_eq_append_getElem hi, List.foldl_append, hy]
  rfl
/-- In the midst of do: the turn at tb, the deeds at dg. -/
structure DoI (w : World) (tb dg : Nat) (m : Msg) (x : Int) (l : ActL) (i : Nat) (wx : World) : Prop where
  tn : Tn wx tb (tksS x (m, false) (l.take i)) x
  row : DRow wx w.heap.size (.slice (some ⟨dg, 0, none⟩) l.length l.length) (dPart m.ct l i)
  bel : Below w.heap.size w wx
/-- How do leaves the box. -/
def BxQ (w : World) (b kb : Nat) (v : Value) (sq : Bool) (tr : Int) (ms' : List Msg) (w' : World) : Prop :=
  ∃ v', Bx w' b kb v' sq tr ms' ∧ Off (fun q => q = kb ∨ v.ownBlock = some q) w w' ∧ ∀ q, v'.ownBlock = some q → v.ownBlock = some q ∨ w.heap.size ≤ q
theorem Tx.row_ne {w : World} {kb : Nat} {v : Value} {ms : List Msg} {m : Msg} (h : Tx w m) (hk : Kd w kb v ms) : ∀ g, (Value.slice m.tp m.tn m.tc).ownBlock = some g → ¬ (g = kb ∨ v.ownBlock = some g) := fun g hg hor => by
  rcases hor with rfl | hv
  · rcases h.1.2 with ⟨e, _⟩ | ⟨g', cap, cur, e, _, hb, _⟩
    · rw [e] at hg; cases hg
    · rw [e] at hg
      simp only [Value.ownBlock, Option.some.injEq] at hg
      subst hg
      rw [hk.1] at hb
      simp at hb
  · exact own_ne h.1 hk.2.1 (by decide) g hg hv
theorem Tx.off {w w' : World} {P : Nat → Prop} {m : Msg} (h : Tx w m) (o : Off P w w') (hP : ∀ g, (Value.slice m.tp m.tn m.tc).ownBlock = some g → ¬ P g) : Tx w' m := ⟨ERow.off h.1 o hP, h.2⟩
theorem Tx.same {w : World} {m m' : Msg} (h : Tx w m) (e1 : m'.tp = m.tp) (e2 : m'.tn = m.tn) (e3 : m'.tc = m.tc) (e4 : m'.tx = m.tx) : Tx w m' := by
  unfold Tx; rw [e1, e2, e3, e4]; exact h
/-- put and remove, told of the box. -/
theorem bxq_of {w w1 w' : World} {b kb : Nat} {v : Value} {sq : Bool} {tr : Int} {ms ms' : List Msg} (h : Bx w1 b kb v sq tr ms) (hb : Below w.heap.size w w1) (hk : KdQ w1 kb v ms' w') (hm : ∀ m ∈ ms', Tx w1 m) : BxQ w b kb v sq tr ms' w' := by
  obtain ⟨v', h1, h2, h3⟩ := hk
  have hbk : ¬ (b = kb ∨ v.ownBlock = some b) := fun e => by
    rcases e with rfl | e
    · have := h.1; rw [h.2.1.1] at this; simp at this
    · rcases h.2.1.2.1.2 with ⟨rfl, _⟩ | ⟨g', cap, cur, rfl, _, hg, _⟩
      · cases e
      · simp only [Value.ownBlock, Option.some.injEq] at e
        subst e
        rw [h.1] at hg
        simp at hg
  exact ⟨v', ⟨(h2.block b h.lt hbk).trans h.1, h1, fun m hmm => (hm m hmm).off h2 ((hm m hmm).row_ne h.2.1)⟩, (Off.of_below hb).trans h2, fun q e => (h3 q e).imp id fun g => Nat.le_trans hb.size g⟩
end Go.Proofs.YtoijhecphgdfnaaGreatDoor

/-
  List, Len.
-/
namespace Go.Proofs.YtoijhecphgdfnaaGreatDoor
open Go.RowKit

/-- A text that lies by itself. -/
def Tb (w : World) (m : Msg) : Prop := BRow w 0 (.slice m.tp m.tn m.tc) m.tx
/-- Copies of messages: their texts elsewhere. -/
def Cps (w : World) (ls ms : List Msg) : Prop := ls.length = ms.length ∧ ∀ (i : Nat) (l m : Msg), ls[i]? = some l → ms[i]? = some m → (∃ a c, l = m.wi a c) ∧ Tb w l
theorem Cps.nil (w : World) : Cps w [] [] := ⟨rfl, fun i l m h => by simp at h⟩
theorem Cps.snoc {w : World} {ls ms : List Msg} {l m : Msg} (h : Cps w ls ms) (h1 : ∃ a c, l = m.wi a c) (h2 : Tb w l) : Cps w (ls ++ [l]) (ms ++ [m]) := by
  refine ⟨by simp [h.1], fun i x y hx hy => ?_⟩
  by_cases hi : i < ls.length
  · rw [List.getElem?_append_left hi] at hx
    rw [List.getElem?_append_left (by rw [← h.1]; exact hi)] at hy
    exact h.2 i x y hx hy
  · have hxi := (List.getElem?_eq_some_iff.1 hx).1
    simp only [List.length_append, List.length_singleton] at hxi
    obtain rfl : i = ls.length := by omega
    rw [List.getElem?_append_right (Nat.le_refl _), Nat.sub_self] at hx
    rw [List.getElem?_append_right (by rw [h.1]; exact Nat.le_refl _), h.1, Nat.sub_self] at hy
    simp only [List.getElem?_cons_zero, Option.some.injEq] at hx hy
    subst hx; subst hy
    exact ⟨h1, h2⟩
theorem Cps.keep {w w' : World} {ls ms : List Msg} (h : Cps w ls ms) (hk : ∀ l ∈ ls, Tb w l → Tb w' l) : Cps w' ls ms := ⟨h.1, fun i l m hl hm => ⟨(h.2 i l m hl hm).1, hk l (List.mem_of_getElem? hl) (h.2 i l m hl hm).2⟩⟩
theorem Cps.below {w w' : World} {ls ms : List Msg} (h : Cps w ls ms) (hb : Below w.heap.size w w') : Cps w' ls ms := h.keep fun _ _ ht => ERow.below ht hb
theorem run_make_sents {w : World} (n : Nat) (hn : n ≤ 1000) : ∃ w', (Instr.makeSlice 97 (.int .i64 (n : Int)) (.int .i64 (n : Int))).run Tryz.prog w = .ok (.slice (some ⟨w.heap.size, 0, none⟩) n n) w' ∧ ERow w' w.heap.size 91 10 encM (.slice (some ⟨w.heap.size, 0, none⟩) n n) (List.replicate n zM) ∧ Below w.heap.size w w' := by
  have h : (Tryz.prog.info? 91).map (fun i => (i.zero, i.size, i.bytes)) = some (some (.agg #[.string ⟨#[]⟩, .slice none 0 0, .bool false, .int .i64 0, .int .i64 0, .int .i64 0, .bool false, .int .i64 0, .int .i64 0, .bool false]), 10, 104) := by kernel_rfl
  obtain ⟨i, hi, e⟩ := Option.map_eq_some_iff.1 h
  simp only [Prod.mk.injEq] at e
  obtain ⟨hz, hs, hby⟩ := e
  obtain ⟨w', h1, h2, h3⟩ := run_make_full (P := Tryz.prog) w w.heap.size 97 91 i _ 10 Tryz.underlying97 hi hz hs .i64 .i64 n (by rw [hby]; omega) (by unfold maxLen; omega) (Nat.le_refl _)
  refine ⟨w', h1, ?_, (Off.of_grown h3).below (Nat.le_refl _) (fun k e => by cases e)⟩
  unfold ERow
  rw [List.length_replicate]
  have e : (madeCells (Value.agg #[.string ⟨#[]⟩, .slice none 0 0, .bool false, .int .i64 0, .int .i64 0, .int .i64 0, .bool false, .int .i64 0, .int .i64 0, .bool false]).cells (n * 10)).toList = (List.replicate n zM).flatMap encM := made_flat encM_len (by decide) zM n
  rw [← e]
  exact h2
section
variable {w w' : World} {b kb : Nat} {v : Value} {sq : Bool} {tr : Int} {ms : List Msg}
set_option maxHeartbeats 1000000 in
theorem len_any (h : Bx w b kb v sq tr ms) : Calls Tryz.prog 38 #[.pointer (some ⟨b, 0, none⟩)] w fun e w' => e = .returned (.int .i64 (ms.length : Int)) ∧ w' = w := by
  have hmk := made_yes h
  have hct := count_any h.2.1
  have c0 := hcell h.1 0
  clear h
  go_enter Tryz.func38, Tryz.ntmps38
  go_wp2_with (first | (go_at_call 52; refine hmk.mono ?_; rintro _ w9 ⟨rfl, h9⟩; subst w9) | (go_at_call 53; refine hct.mono ?_; rintro _ w9 ⟨rfl, h9⟩; subst w9))
  go_ret
  exact ⟨rfl, rfl⟩
end
end Go.Proofs.YtoijhecphgdfnaaGreatDoor
