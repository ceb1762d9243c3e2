/-
  Counts of a disk that was made; the law's fill and beyond.
-/
import Derived.Test.YtlgjjemfckmidaaDkMem
import Derived.Deep.OwnRows
namespace Go.Proofs.Ytlgjjemfckmidaa
open Go.RowKit

set_option maxRecDepth 100000 in
set_option maxHeartbeats 2000000 in
theorem Counts_ok {w : World} {B K : Nat} {v0 v1 : Value} {x0 x1 : List Int} {s0 s1 : Nat} {st fu na ns nc : Int} (h : Dsk w B K v0 v1 x0 x1 s0 s1 st fu na ns nc) (hst : st = 1 ∨ st = 2) :
    Calls Try.prog 46 #[.pointer (some ⟨K, 0, none⟩)] w fun e w' => e = .returned (.agg #[.int .i64 na, .int .i64 ns, .int .i64 nc]) ∧ Below w.heap.size w w' := by
  have HA : Hid (Dsk (w.alloc (.cells #[.int .i64 0, .int .i64 0, .int .i64 0] 73)) B K v0 v1 x0 x1 s0 s1 st fu na ns nc) := h.off (P := fun _ => False) ((Off.refl _ _).alloc _) (fun _ _ => id)
  have HS : Hid (st = 1 ∨ st = 2) := hst
  have c6 := HA.out.c6
  have c7 := HA.out.c7
  have c8 := HA.out.c8
  clear h hst
  go_enter Try.func46, Try.ntmps46
  go_wp2_with fail
  refine (made_ok HA.out HS.out).mono ?_
  rintro e w1 ⟨rfl, rfl⟩
  go_wp2_with fail
  exact bodyPost_ret (v := .agg #[.int .i64 na, .int .i64 ns, .int .i64 nc]) (by simp [results, Try.results46, go_sem]) rfl ⟨rfl, (Below.refl _ _).alloc (Nat.le_refl _) _⟩
/-- What fill answers: a list no longer than that. -/
def FOut (e : Ending) : Prop := ∃ (a : Option Addr) (m c : Nat), e = .returned (.slice a m c) ∧ m ≤ 16777217
/-- What beyond answers. -/
def BOut (xs : List Opv) (e : Ending) : Prop := ∃ b, e = .returned (.bool b) ∧ (b = false → ∀ y ∈ xs, y.pl ≤ 2147483647)
theorem u8make : (Try.prog.info? 5).map (fun i => (i.zero, i.size, i.bytes)) = some (some (.int .u8 0), 1, 1) := by kernel_rfl
set_option maxRecDepth 100000 in
set_option maxHeartbeats 2000000 in
theorem fill_any (n : Int) (w : World) : Calls Try.prog 25 #[.int .i64 n] w fun e w' => FOut e ∧ Below w.heap.size w w' := by
  have hmk := fun (k : Nat) (hk : k ≤ 16777217) => run_make_row' (P := Try.prog) 25 5 (.int .u8 0) 1 Try.underlying25 u8make rfl .i64 .i64 k (by omega) (by omega) w
  by_cases h1 : n < 0
  · have hm0 : (Instr.makeSlice 25 (.int .i64 0) (.int .i64 0)).run Try.prog w = .ok (.slice (some ⟨w.heap.size, 0, none⟩) 0 0) (w.alloc (.cells (madeCells #[.int .u8 0] 0) 5)) := hmk 0 (by omega)
    clear hmk
    go_enter Try.func25, Try.ntmps25
    go_wp2
    go_ret
    exact ⟨⟨_, _, _, rfl, by omega⟩, (Below.refl _ _).alloc (Nat.le_refl _) _⟩
  · by_cases h2 : 16777217 < n
    · have hm0 : (Instr.makeSlice 25 (.int .i64 16777217) (.int .i64 16777217)).run Try.prog w = .ok (.slice (some ⟨w.heap.size, 0, none⟩) 16777217 16777217) (w.alloc (.cells (madeCells #[.int .u8 0] 16777217) 5)) := hmk 16777217 (by omega)
      clear hmk
      go_enter Try.func25, Try.ntmps25
      go_wp2
      go_ret
      exact ⟨⟨_, _, _, rfl, by omega⟩, (Below.refl _ _).alloc (Nat.le_refl _) _⟩
    · obtain ⟨k, rfl⟩ : ∃ k : Nat, n = k := ⟨n.toNat, by omega⟩
      have hm0 := hmk k (by omega)
      clear hmk
      go_enter Try.func25, Try.ntmps25
      go_wp2
      go_ret
      exact ⟨⟨_, _, _, rfl, by omega⟩, (Below.refl _ _).alloc (Nat.le_refl _) _⟩
set_option maxRecDepth 100000 in
set_option maxHeartbeats 4000000 in
theorem beyond_any {ao : Option Addr} {xs : List Opv} {cap : Nat} (w : World) (hO : Ops w ao xs) (hl : xs.length ≤ maxLen) (hp : ∀ y ∈ xs, y.pl ≤ 140737488355328) :
    Calls Try.prog 8 #[.agg #[.slice none 0 0, .slice none 0 0], .slice ao xs.length cap] w fun e w' => BOut xs e ∧ Below w.heap.size w w' := by
  have HO : Hid (Ops (w.alloc (.cells #[.slice none 0 0, .slice none 0 0] 26)) ao xs) := hO.below ((Below.refl _ _).alloc (Nat.le_refl _) _)
  have HP : Hid (∀ y ∈ xs, y.pl ≤ 140737488355328) := hp
  unfold maxLen at hl
  clear hO hp
  go_enter Try.func8, Try.ntmps8
  go_wp2_with fail
  refine wp_loop_rounds 3 ?_
  rw [rounds_succ]
  go_wp2_with fail
  rw [rounds_succ]
  go_wp2_with fail
  rw [rounds_succ]
  go_wp2_with fail
  obtain ⟨W0, hW0⟩ : ∃ W0, (w.alloc (.cells #[.slice none 0 0, .slice none 0 0] 26)) = W0 := ⟨_, rfl⟩
  have HW : Hid (Below w.heap.size w W0) := by unfold Hid; rw [← hW0]; exact (Below.refl _ _).alloc (Nat.le_refl _) _
  rw [hW0] at HO ⊢
  clear hW0
  go_loopw [5, 7] (fun tn ti wx => ∃ k m : Nat, k ≤ xs.length ∧ ti = .int .i64 k ∧ tn = .int .i64 m ∧ m ≤ 2147483647 ∧ Hid ((∀ (j : Nat) (y : Opv), j < k → xs[j]? = some y → y.pl ≤ 2147483647) ∧ Below W0.heap.size W0 wx)) (fun _ ti _ => xs.length - (intOf ti).toNat)
  case atStart => exact ⟨0, 0, Nat.zero_le _, rfl, rfl, by omega, fun j y hj => by omega, Below.refl _ _⟩
  case round =>
    obtain ⟨k, m, hk, rfl, rfl, hm, HB⟩ := hrel
    by_cases hlt : k < xs.length
    · obtain ⟨x, hx⟩ : ∃ x, xs[k]? = some x := ⟨_, List.getElem?_eq_getElem hlt⟩
      obtain ⟨b, off, rfl, hat⟩ := HO.out k x hx
      have hat := hat.below HB.out.2
      have hpl := HP.out x (List.mem_of_getElem? hx)
      have HX : Hid (xs[k]? = some x) := hx
      have c0 := hat.c0
      have c3 := hat.c3
      have c4 := hat.c4
      clear hx hat
      have hlt1 : (k : Int) < xs.length := by omega
      by_cases g1 : x.kd = 9
      · have g1b : (x.kd == 9) = true := by simpa using g1
        go_wp2_with fail
        refine (fill_any _ _).mono ?_
        rintro e w1 ⟨⟨fa, fm, fc, rfl, hfm⟩, b1⟩
        have HB1 : Hid (Below W0.heap.size W0 w1) := below_then HB.out.2 b1
        clear b1
        by_cases g2 : 2147483647 < (m : Int) + x.pl + fm
        · go_wp2_with fail
          go_ret
          exact ⟨⟨true, rfl, fun e => (by cases e)⟩, HW.out.trans (HB1.out.mono HW.out.size)⟩
        · go_wp2_with fail
          go_roundw
          case rel =>
            refine ⟨k + 1, m + x.pl + fm, hlt, by go_num, by go_num, by omega, fun j y hj hy => ?_, HB1.out⟩
            rcases Nat.lt_or_ge j k with h | h
            · exact HB.out.1 j y h hy
            · obtain rfl : j = k := by omega
              rw [HX.out] at hy
              obtain rfl : x = y := by simpa using hy
              omega
          case measure => simp [intOf]; omega
      · have g1b : (x.kd == 9) = false := by simpa using g1
        by_cases g2 : 2147483647 < (m : Int) + x.pl
        · go_wp2_with fail
          go_ret
          exact ⟨⟨true, rfl, fun e => (by cases e)⟩, HW.out.trans (HB.out.2.mono HW.out.size)⟩
        · go_wp2_with fail
          go_roundw
          case rel =>
            refine ⟨k + 1, m + x.pl, hlt, by go_num, by go_num, by omega, fun j y hj hy => ?_, HB.out.2⟩
            rcases Nat.lt_or_ge j k with h | h
            · exact HB.out.1 j y h hy
            · obtain rfl : j = k := by omega
              rw [HX.out] at hy
              obtain rfl : x = y := by simpa using hy
              omega
          case measure => simp [intOf]; omega
    · have hk2 : k = xs.length := by omega
      have hlt1 : ¬ ((k : Int) < xs.length) := by omega
      have hm2 : ¬ (2147483647 < (m : Int)) := by omega
      go_wp2_with fail
      go_ret
      refine ⟨⟨false, rfl, fun _ y hy => ?_⟩, HW.out.trans (HB.out.2.mono HW.out.size)⟩
      obtain ⟨j, hj, rfl⟩ := List.getElem_of_mem hy
      exact HB.out.1 j _ (by omega) (List.getElem?_eq_getElem hj)
end Go.Proofs.Ytlgjjemfckmidaa
