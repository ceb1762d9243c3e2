/-
  Lists of byte strings that came in; the law's short.
-/
import Derived.Test.YtgminfbhaclbbaaDoorWLog
namespace Go.Proofs.YtgminfbhaclbbaaDoor
open Go.RowKit Go.BigFrame

structure Blv where
  po : Option Addr
  pl : Nat
  pc : Nat
  bs : List Int
/-- A list of byte strings that came in. -/
def Bls (w : World) (ao : Option Addr) (xs : List Blv) : Prop := ∀ k y, xs[k]? = some y → ∃ b off, ao = some ⟨b, off, none⟩ ∧ b < w.heap.size ∧ w.cell? ⟨b, off + k, none⟩ = some (.slice y.po y.pl y.pc) ∧ Byts w y.po y.pl y.bs
theorem Bls.below {w w' : World} {ao : Option Addr} {xs : List Blv} (h : Bls w ao xs) (hb : Below w.heap.size w w') : Bls w' ao xs := fun k y hk => by
  obtain ⟨b, off, e, hl, hc, hy⟩ := h k y hk
  exact ⟨b, off, e, Nat.lt_of_lt_of_le hl hb.size, (hb.cell (p := ⟨b, off + k, none⟩) hl).trans hc, hy.below hb⟩
def tot (xs : List Blv) : Nat := (xs.map fun y => y.pl + 13).sum
theorem tot_snoc {xs : List Blv} {k : Nat} {y : Blv} (h : xs[k]? = some y) : tot (xs.take (k + 1)) = tot (xs.take k) + y.pl + 13 := by
  unfold tot
  rw [List.take_add_one, h]
  simp [List.sum_append]
  omega
theorem tot_le (xs : List Blv) (k : Nat) : tot (xs.take k) ≤ tot xs := by
  have : tot xs = tot (xs.take k) + tot (xs.drop k) := by
    unfold tot; rw [← List.sum_append, ← List.map_append, List.take_append_drop]
  omega
theorem tot_thirteen : ∀ (xs : List Blv) (k : Nat), k ≤ xs.length → k * 13 ≤ tot (xs.take k)
  | _, 0, _ => by omega
  | [], k + 1, h => by simp at h
  | x :: xs, k + 1, h => by
    have := tot_thirteen xs k (by simpa using h)
    unfold tot at this ⊢
    simp only [List.take_succ_cons, List.map_cons, List.sum_cons]
    omega
theorem Halves.under' {w w' : World} (h : Halves w) (hb : Below w.heap.size w w') : Halves w' := fun j hj => (hb.cell (p := ⟨1, j, none⟩) (cell_lt (h j hj))).trans (h j hj)
/-- What short answers. -/
def ShQ (xs : List Blv) (w : World) (e : Ending) (w' : World) : Prop := ∃ q, e = .returned (.bool q) ∧ (q = true → tot xs ≤ 4194304) ∧ w' = w
set_option maxRecDepth 100000 in
set_option maxHeartbeats 2000000 in
theorem short_any {ao : Option Addr} {cap : Nat} {xs : List Blv} (w : World) (h : Bls w ao xs) (hn : xs.length ≤ maxLen) (hp : ∀ y ∈ xs, y.pl ≤ 140737488355328) :
    Calls Tryd.prog 9 #[.slice ao xs.length cap] w (ShQ xs w) := by
  have HB : Hid (Bls w ao xs ∧ ∀ y ∈ xs, y.pl ≤ 140737488355328) := ⟨h, hp⟩
  obtain ⟨n, hN⟩ : ∃ n, xs.length = n := ⟨_, rfl⟩
  have HN : Hid (xs.length = n) := hN
  rw [hN] at hn ⊢
  unfold maxLen at hn
  clear h hp hN
  go_enter Tryd.func9, Tryd.ntmps9
  go_wp2_with fail
  go_loopw [3, 4] (fun t3 t4 wx => ∃ k s : Nat, k ≤ n ∧ s ≤ 4194304 ∧ t3 = .int .i64 s ∧ t4 = .int .i64 k ∧ Hid (tot (xs.take k) = s ∧ wx = w)) (fun _ t4 _ => n - (intOf t4).toNat)
  case atStart => exact ⟨0, 0, Nat.zero_le _, Nat.zero_le _, rfl, rfl, rfl, rfl⟩
  case round =>
    obtain ⟨k, s, hk, hs, rfl, rfl, HK⟩ := hrel
    obtain ⟨HT, hw⟩ := HK
    have HT' : Hid (tot (xs.take k) = s) := HT
    clear HT
    subst hw
    by_cases hlt : k < n
    · have hlti : (k : Int) < n := by omega
      obtain ⟨y, hy⟩ : ∃ y, xs[k]? = some y := ⟨_, List.getElem?_eq_getElem (by have := HN.out; omega)⟩
      obtain ⟨b, off, rfl, hl, hc, _⟩ := HB.out.1 k y hy
      have hpl : y.pl ≤ 140737488355328 := HB.out.2 y (List.mem_of_getElem? hy)
      have HS : Hid (tot (xs.take (k + 1)) = s + y.pl + 13) := by unfold Hid; rw [tot_snoc hy, HT'.out]
      obtain ⟨po, pl, pc, bs⟩ := y
      simp only at hc hpl HS
      clear hy hl
      have hsi : (s : Int) ≤ 4194304 := by omega
      have hpi : (pl : Int) ≤ 140737488355328 := by omega
      clear hs hpl
      by_cases hg : (s : Int) + pl + 13 ≤ 4194304
      · have hgb : decide ((4194304 : Int) < s + pl + 13) = false := decide_eq_false (by omega)
        go_wp2_with fail
        go_roundw
        case rel => exact ⟨k + 1, s + pl + 13, hlt, by omega, by go_num, by go_num, HS.out, trivial⟩
        case measure => simp [intOf]; omega
      · have hgb : decide ((4194304 : Int) < s + pl + 13) = true := decide_eq_true (by omega)
        have hgc : (4194304 : Int) < s + pl + 13 := by omega
        clear hg
        go_wp2_with fail
        go_ret
        exact ⟨false, rfl, (fun h => by cases h), rfl⟩
    · have hlti : ¬ (k : Int) < n := by omega
      have HE : Hid (tot xs ≤ 4194304) := by
        have e1 := HT'.out
        have e2 := HN.out
        rw [List.take_of_length_le (by omega)] at e1
        unfold Hid; omega
      go_wp2_with fail
      go_ret
      exact ⟨true, rfl, fun _ => HE.out, rfl⟩
end Go.Proofs.YtgminfbhaclbbaaDoor
