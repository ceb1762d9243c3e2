/-
  The document's table of fields: Named.
-/
import Derived.Test.YtdjjologpodnkaaGreatDoorLgNum
namespace Go.Proofs.YtdjjologpodnkaaGreatDoor
open Go.RowKit

def rowsN : Nat → List Nat
  | 1 => [2, 3, 4]
  | 2 => [2, 5]
  | 3 => [2]
  | 4 => [2, 7, 8]
  | 5 => [2, 3, 5, 6, 9]
  | 6 => [2, 8, 10]
  | 7 => [5]
  | 8 => [2]
  | _ => []
def nmB (k f : Nat) : Bool := (rowsN k).contains f
/-- The world in which the table lies. -/
def nW (w : World) : World := ((((((((((w.alloc (.cells #[] 3)).alloc (.cells #[.int .i64 2, .int .i64 3, .int .i64 4] 3)).alloc (.cells #[.int .i64 2, .int .i64 5] 3)).alloc (.cells #[.int .i64 2] 3)).alloc (.cells #[.int .i64 2, .int .i64 7, .int .i64 8] 3)).alloc (.cells #[.int .i64 2, .int .i64 3, .int .i64 5, .int .i64 6, .int .i64 9] 3)).alloc (.cells #[.int .i64 2, .int .i64 8, .int .i64 10] 3)).alloc (.cells #[.int .i64 5] 3)).alloc (.cells #[.int .i64 2] 3)).alloc (.cells #[.slice (some ⟨w.heap.size, 0, none⟩) 0 0, .slice (some ⟨w.heap.size + 1, 0, none⟩) 3 3, .slice (some ⟨w.heap.size + 1 + 1, 0, none⟩) 2 2, .slice (some ⟨w.heap.size + 1 + 1 + 1, 0, none⟩) 1 1, .slice (some ⟨w.heap.size + 1 + 1 + 1 + 1, 0, none⟩) 3 3, .slice (some ⟨w.heap.size + 1 + 1 + 1 + 1 + 1, 0, none⟩) 5 5, .slice (some ⟨w.heap.size + 1 + 1 + 1 + 1 + 1 + 1, 0, none⟩) 3 3, .slice (some ⟨w.heap.size + 1 + 1 + 1 + 1 + 1 + 1 + 1, 0, none⟩) 1 1, .slice (some ⟨w.heap.size + 1 + 1 + 1 + 1 + 1 + 1 + 1 + 1, 0, none⟩) 1 1] 82))
theorem nW_heap (w : World) : (nW w).heap = ((((((((((w.heap.push (.cells #[] 3)).push (.cells #[.int .i64 2, .int .i64 3, .int .i64 4] 3)).push (.cells #[.int .i64 2, .int .i64 5] 3)).push (.cells #[.int .i64 2] 3)).push (.cells #[.int .i64 2, .int .i64 7, .int .i64 8] 3)).push (.cells #[.int .i64 2, .int .i64 3, .int .i64 5, .int .i64 6, .int .i64 9] 3)).push (.cells #[.int .i64 2, .int .i64 8, .int .i64 10] 3)).push (.cells #[.int .i64 5] 3)).push (.cells #[.int .i64 2] 3)).push (.cells #[.slice (some ⟨w.heap.size, 0, none⟩) 0 0, .slice (some ⟨w.heap.size + 1, 0, none⟩) 3 3, .slice (some ⟨w.heap.size + 1 + 1, 0, none⟩) 2 2, .slice (some ⟨w.heap.size + 1 + 1 + 1, 0, none⟩) 1 1, .slice (some ⟨w.heap.size + 1 + 1 + 1 + 1, 0, none⟩) 3 3, .slice (some ⟨w.heap.size + 1 + 1 + 1 + 1 + 1, 0, none⟩) 5 5, .slice (some ⟨w.heap.size + 1 + 1 + 1 + 1 + 1 + 1, 0, none⟩) 3 3, .slice (some ⟨w.heap.size + 1 + 1 + 1 + 1 + 1 + 1 + 1, 0, none⟩) 1 1, .slice (some ⟨w.heap.size + 1 + 1 + 1 + 1 + 1 + 1 + 1 + 1, 0, none⟩) 1 1] 82)) := rfl
theorem nine {k : Nat} (h : k ≤ 8) : k = 0 ∨ k = 1 ∨ k = 2 ∨ k = 3 ∨ k = 4 ∨ k = 5 ∨ k = 6 ∨ k = 7 ∨ k = 8 := by omega
theorem nW_tab (w : World) {k : Nat} (hk : k ≤ 8) : (nW w).cell? ⟨w.heap.size + 1 + 1 + 1 + 1 + 1 + 1 + 1 + 1 + 1, k, none⟩ = some (.slice (some ⟨w.heap.size + k, 0, none⟩) (rowsN k).length (rowsN k).length) := by
  rcases nine hk with rfl | rfl | rfl | rfl | rfl | rfl | rfl | rfl | rfl
  all_goals (unfold World.cell?; rw [nW_heap]; simp only [Array.getElem?_push, Array.size_push]; simp [rowsN])
theorem nW_row (w : World) {k : Nat} (hk : k ≤ 8) {i f : Nat} (hi : (rowsN k)[i]? = some f) : (nW w).cell? ⟨w.heap.size + k, i, none⟩ = some (.int .i64 f) := by
  have hl := (List.getElem?_eq_some_iff.1 hi).1
  rcases nine hk with rfl | rfl | rfl | rfl | rfl | rfl | rfl | rfl | rfl
  all_goals (simp only [rowsN, List.length_cons, List.length_nil] at hl)
  all_goals (rcases (by omega : i = 0 ∨ i = 1 ∨ i = 2 ∨ i = 3 ∨ i = 4) with rfl | rfl | rfl | rfl | rfl)
  all_goals (first | (exfalso; omega) | (simp [rowsN] at hi; subst hi; unfold World.cell?; rw [nW_heap]; simp only [Array.getElem?_push, Array.size_push]; simp))
theorem nW_below (w : World) : Below w.heap.size w (nW w) := by
  unfold nW
  repeat (refine bl_alloc ?_ _)
  exact Below.refl _ _
set_option maxRecDepth 100000 in
set_option maxHeartbeats 2000000 in
theorem rNamed_any (k f : Nat) (hk : k ≤ 8) (w : World) : Calls Tryz.prog 20 #[.int .i64 k, .int .i64 f] w fun e w' => e = .returned (.bool (nmB k f)) ∧ Below w.heap.size w w' := by
  have HT := nW_tab w hk
  have HR : Hid (∀ i f : Nat, (rowsN k)[i]? = some f → (nW w).cell? ⟨w.heap.size + k, i, none⟩ = some (.int .i64 f)) := fun i f h => nW_row w hk h
  have HB : Hid (Below w.heap.size w (nW w)) := nW_below w
  have hn5 : (rowsN k).length ≤ 5 := by rcases nine hk with rfl | rfl | rfl | rfl | rfl | rfl | rfl | rfl | rfl <;> decide
  have hV : nW w = ((((((((((w.alloc (.cells #[] 3)).alloc (.cells #[.int .i64 2, .int .i64 3, .int .i64 4] 3)).alloc (.cells #[.int .i64 2, .int .i64 5] 3)).alloc (.cells #[.int .i64 2] 3)).alloc (.cells #[.int .i64 2, .int .i64 7, .int .i64 8] 3)).alloc (.cells #[.int .i64 2, .int .i64 3, .int .i64 5, .int .i64 6, .int .i64 9] 3)).alloc (.cells #[.int .i64 2, .int .i64 8, .int .i64 10] 3)).alloc (.cells #[.int .i64 5] 3)).alloc (.cells #[.int .i64 2] 3)).alloc (.cells #[.slice (some ⟨w.heap.size, 0, none⟩) 0 0, .slice (some ⟨w.heap.size + 1, 0, none⟩) 3 3, .slice (some ⟨w.heap.size + 1 + 1, 0, none⟩) 2 2, .slice (some ⟨w.heap.size + 1 + 1 + 1, 0, none⟩) 1 1, .slice (some ⟨w.heap.size + 1 + 1 + 1 + 1, 0, none⟩) 3 3, .slice (some ⟨w.heap.size + 1 + 1 + 1 + 1 + 1, 0, none⟩) 5 5, .slice (some ⟨w.heap.size + 1 + 1 + 1 + 1 + 1 + 1, 0, none⟩) 3 3, .slice (some ⟨w.heap.size + 1 + 1 + 1 + 1 + 1 + 1 + 1, 0, none⟩) 1 1, .slice (some ⟨w.heap.size + 1 + 1 + 1 + 1 + 1 + 1 + 1 + 1, 0, none⟩) 1 1] 82)) := rfl
  have hk9 : (k : Int) < 9 := by omega
  go_enter Tryz.func20, Tryz.ntmps20
  go_wp2_with fail
  rw [← hV]
  obtain ⟨tb, htb⟩ : ∃ tb, w.heap.size + 1 + 1 + 1 + 1 + 1 + 1 + 1 + 1 + 1 = tb := ⟨_, rfl⟩
  rw [htb] at HT ⊢
  obtain ⟨rb, hrb⟩ : ∃ rb, w.heap.size + k = rb := ⟨_, rfl⟩
  rw [hrb] at HT HR
  obtain ⟨n, hn⟩ : ∃ n, (rowsN k).length = n := ⟨_, rfl⟩
  rw [hn] at HT hn5
  have HN : Hid ((rowsN k).length = n) := hn
  clear hV htb hrb hn
  generalize nW w = V at HT HR HB ⊢
  go_loopw [6] (fun t wx => ∃ i : Nat, i ≤ n ∧ t = .int .i64 i ∧ wx = V ∧ Hid (∀ j g : Nat, j < i → (rowsN k)[j]? = some g → g ≠ f)) (fun t _ => n - (intOf t).toNat)
  case atStart => exact ⟨0, Nat.zero_le _, rfl, rfl, fun j g hj => by omega⟩
  case round =>
    obtain ⟨i, hi, rfl, rfl, HI⟩ := hrel
    by_cases hlt : i < n
    · have hlt1 : (i : Int) < n := by omega
      obtain ⟨g, hg⟩ : ∃ g, (rowsN k)[i]? = some g := ⟨_, List.getElem?_eq_getElem (by rw [HN.out]; exact hlt)⟩
      have ci := HR.out i g hg
      by_cases he : g = f
      · have he1 : ((g : Int) == (f : Int)) = true := by simp [he]
        have HF : Hid (nmB k f = true) := by
          unfold Hid nmB
          rw [List.contains_iff_mem, ← he]
          exact List.mem_of_getElem? hg
        clear he hg HI
        go_wp2_with fail
        go_ret
        exact ⟨ret_bool HF.out.symm, HB.out⟩
      · have he1 : ((g : Int) == (f : Int)) = false := by simp; omega
        have HI2 : Hid (∀ j g : Nat, j < i + 1 → (rowsN k)[j]? = some g → g ≠ f) := fun j g' hj hg' => by
          rcases Nat.lt_or_ge j i with h | h
          · exact HI.out j g' h hg'
          · obtain rfl : j = i := by omega
            rw [hg] at hg'; obtain rfl := Option.some.inj hg'; exact he
        clear he hg HI
        go_wp2_with fail
        go_roundw
        case rel => exact ⟨i + 1, hlt, by go_num, by trivial, HI2⟩
        case measure => simp [intOf]; omega
    · have hlt1 : ¬ (i : Int) < n := by omega
      have HF : Hid (nmB k f = false) := by
        unfold Hid nmB
        rw [← Bool.not_eq_true, List.contains_iff_mem]
        intro hm
        obtain ⟨j, hj⟩ := List.getElem?_of_mem hm
        exact HI.out j f (by have := (List.getElem?_eq_some_iff.1 hj).1; rw [HN.out] at this; omega) hj rfl
      clear HI
      go_wp2_with fail
      go_ret
      exact ⟨ret_bool HF.out.symm, HB.out⟩
end Go.Proofs.YtdjjologpodnkaaGreatDoor
