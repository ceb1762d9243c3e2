/-
  couriermem.markText of the first four numbers; SameTexts, sameBools of lists that hold the same.
-/
import Derived.Test.YtjdpjielpbiedaaGreatDoorKTake
import Derived.Laws.BytesString
import Derived.Lib.SlBytesConst
namespace Go.Proofs.YtjdpjielpbiedaaGreatDoor.Td
open Go.RowKit

/-- The mark of the list of number i. -/
def mkT (i : Nat) : Value := .string (mkS [109, 97, 114, 107, 32, UInt8.ofNat (33 + i), 33])
def mk (i n : Nat) : List Value := List.replicate n (mkT i)
theorem mk_length (i n : Nat) : (mk i n).length = n := by simp [mk]
theorem mk_succ (i n : Nat) : mk i (n + 1) = mk i n ++ [mkT i] := by simp [mk, List.replicate_succ']
theorem mk_get (i n k : Nat) (h : k < n) : (mk i n)[k]? = some (mkT i) := by simp [mk, h]
theorem mk_take (i n k : Nat) (h : k ≤ n) : (mk i n).take k = mk i k := by simp [mk, List.take_replicate, Nat.min_eq_left h]
theorem conv_two (w : World) (x y : Int) : (convert 62 9 (.slice (some ⟨w.heap.size, 0, none⟩) 2 2)).run Tryz.prog (w.alloc (.cells #[.int .u8 x, .int .u8 y] 5)) = .ok (.string ((ByteArray.empty.push (UInt8.ofNat x.toNat)).push (UInt8.ofNat y.toNat))) (w.alloc (.cells #[.int .u8 x, .int .u8 y] 5)) := by
  rw [run_convert_bytes_string _ _ _ _ _ _ _ Tryz.underlying62 Tryz.underlying5 Tryz.underlying9]
  have h := run_loadCells_list (P := Tryz.prog) (w.alloc (.cells #[.int .u8 x, .int .u8 y] 5)) ⟨w.heap.size, 0, none⟩ ([x, y].map (Value.int .u8)) (fun j u hu => by
    rw [show (⟨w.heap.size, 0, none⟩ : Addr).add j = ⟨w.heap.size, j, none⟩ by rw [Addr.add_lit, Nat.zero_add], cell_new]
    simpa using hu)
  exact run_bytesToString _ _ _ _ [x, y] h
set_option maxRecDepth 100000 in
set_option maxHeartbeats 1000000 in
theorem mark_any (i : Nat) (hi : i < 4) (w : World) : Calls Tryz.prog 29 #[.int .i64 (i : Int)] w fun e w' => e = .returned (mkT i) ∧ Below w.heap.size w w' := by
  rcases (by omega : i = 0 ∨ i = 1 ∨ i = 2 ∨ i = 3) with rfl | rfl | rfl | rfl
  · have hc := conv_two w 33 33
    go_enter Tryz.func29, Tryz.ntmps29
    go_wp2_with fail
    go_ret
    exact ⟨rfl, (Below.refl _ _).alloc (Nat.le_refl _) _⟩
  · have hc := conv_two w 34 33
    go_enter Tryz.func29, Tryz.ntmps29
    go_wp2_with fail
    go_ret
    exact ⟨rfl, (Below.refl _ _).alloc (Nat.le_refl _) _⟩
  · have hc := conv_two w 35 33
    go_enter Tryz.func29, Tryz.ntmps29
    go_wp2_with fail
    go_ret
    exact ⟨rfl, (Below.refl _ _).alloc (Nat.le_refl _) _⟩
  · have hc := conv_two w 36 33
    go_enter Tryz.func29, Tryz.ntmps29
    go_wp2_with fail
    go_ret
    exact ⟨rfl, (Below.refl _ _).alloc (Nat.le_refl _) _⟩
set_option maxRecDepth 100000 in
set_option maxHeartbeats 2000000 in
theorem sameT_true {w : World} {B B' n c c' : Nat} {a a' : Option Addr} {xs : List Value} (ha : TRow w B (.slice a n c) xs) (hb : TRow w B' (.slice a' n c') xs) (hT : ∀ u ∈ xs, ∃ s, u = .string s) (hn : n ≤ 1000) :
    Calls Tryz.prog 12 #[.slice a n c, .slice a' n c'] w fun e w' => e = .returned (.bool true) ∧ ∃ m, w' = w.drewN m := by
  have HA : Hid (TRow w B (.slice a n c) xs ∧ TRow w B' (.slice a' n c') xs ∧ (∀ u ∈ xs, ∃ s, u = .string s) ∧ xs.length = n) := ⟨ha, hb, hT, VRow.len ha⟩
  clear ha hb hT
  go_enter Tryz.func12, Tryz.ntmps12
  go_wp2_with fail
  go_loopw [5] (fun ti wx => ∃ j m : Nat, j ≤ n ∧ ti = .int .i64 j ∧ wx = w.drewN m) (fun ti _ => n - (intOf ti).toNat)
  case atStart => exact ⟨0, 0, Nat.zero_le _, rfl, rfl⟩
  case round =>
    obtain ⟨j, m, hj, rfl, rfl⟩ := hrel
    by_cases hlt : j < n
    · have hlt1 : (j : Int) < n := by omega
      obtain ⟨h1, h2, h3, h4⟩ := HA.out
      obtain ⟨u, hu⟩ : ∃ u, xs[j]? = some u := ⟨_, List.getElem?_eq_getElem (by omega)⟩
      obtain ⟨s, rfl⟩ := h3 u (List.mem_of_getElem? hu)
      obtain ⟨g, rfl, k1⟩ := VRow.at_ h1 hu
      obtain ⟨g', rfl, k2⟩ := VRow.at_ h2 hu
      clear h1 h2 h3 h4 hu
      go_wp2_with fail
      go_quiet (fail)
      go_wp2_with fail
      go_roundw
      case rel => exact ⟨j + 1, _, hlt, by go_num, rfl⟩
      case measure => simp [intOf]; omega
    · have hlt1 : ¬ ((j : Int) < n) := by omega
      go_wp2_with fail
      go_ret
      exact ⟨rfl, _, rfl⟩
end Go.Proofs.YtjdpjielpbiedaaGreatDoor.Td
