/-
  The words that stand for themselves; a piece's body; a piece on the wire.
-/
import Derived.Test.YtkpebmhokdckfaaDoorEsPairs
import Derived.Deep.MidRow
namespace Go.Proofs.YtkpebmhokdckfaaDoor
open Go.RowKit

/-- The words in their variable. -/
def WL : List Value := [.string ⟨#[70]⟩, .int .i64 2, .string ⟨#[70]⟩, .int .i64 0, .string ⟨#[83]⟩, .int .i64 2, .string ⟨#[83]⟩, .int .i64 0, .string ⟨#[84]⟩, .int .i64 2, .string ⟨#[84]⟩, .int .i64 0, .string ⟨#[82]⟩, .int .i64 2, .string ⟨#[82]⟩, .int .i64 0, .string ⟨#[69]⟩, .int .i64 2, .string ⟨#[69]⟩, .int .i64 0, .string ⟨#[72]⟩, .int .i64 4, .string ⟨#[]⟩, .int .i64 1, .string ⟨#[78]⟩, .int .i64 4, .string ⟨#[]⟩, .int .i64 0, .string ⟨#[46, 98, 114]⟩, .int .i64 6, .string ⟨#[98, 114]⟩, .int .i64 0, .string ⟨#[46, 99, 101]⟩, .int .i64 6, .string ⟨#[99, 101]⟩, .int .i64 0, .string ⟨#[46, 102, 105]⟩, .int .i64 6, .string ⟨#[102, 105]⟩, .int .i64 0, .string ⟨#[46, 110, 102]⟩, .int .i64 6, .string ⟨#[110, 102]⟩, .int .i64 0, .string ⟨#[46, 115, 112]⟩, .int .i64 6, .string ⟨#[115, 112]⟩, .int .i64 0]
def Words (w : World) : Prop := ∀ j u, WL[j]? = some u → w.cell? ⟨0, j, none⟩ = some u
theorem Words.below {w w' : World} (h : Words w) (hb : Below w.heap.size w w') : Words w' := fun j u hu => by
  have hl : 0 < w.heap.size := cell_lt (h 0 _ rfl)
  rw [hb.cell (p := ⟨0, j, none⟩) hl]; exact h j u hu
def wB : Nat → ByteArray
  | 0 => ⟨#[70]⟩
  | 1 => ⟨#[83]⟩
  | 2 => ⟨#[84]⟩
  | 3 => ⟨#[82]⟩
  | 4 => ⟨#[69]⟩
  | 5 => ⟨#[72]⟩
  | 6 => ⟨#[78]⟩
  | 7 => ⟨#[46, 98, 114]⟩
  | 8 => ⟨#[46, 99, 101]⟩
  | 9 => ⟨#[46, 102, 105]⟩
  | 10 => ⟨#[46, 110, 102]⟩
  | 11 => ⟨#[46, 115, 112]⟩
  | _ => ⟨#[]⟩
def wK : Nat → Int
  | 0 => 2
  | 1 => 2
  | 2 => 2
  | 3 => 2
  | 4 => 2
  | 5 => 4
  | 6 => 4
  | 7 => 6
  | 8 => 6
  | 9 => 6
  | 10 => 6
  | 11 => 6
  | _ => 0
def wT : Nat → ByteArray
  | 0 => ⟨#[70]⟩
  | 1 => ⟨#[83]⟩
  | 2 => ⟨#[84]⟩
  | 3 => ⟨#[82]⟩
  | 4 => ⟨#[69]⟩
  | 5 => ⟨#[]⟩
  | 6 => ⟨#[]⟩
  | 7 => ⟨#[98, 114]⟩
  | 8 => ⟨#[99, 101]⟩
  | 9 => ⟨#[102, 105]⟩
  | 10 => ⟨#[110, 102]⟩
  | 11 => ⟨#[115, 112]⟩
  | _ => ⟨#[]⟩
def wN : Nat → Int
  | 0 => 0
  | 1 => 0
  | 2 => 0
  | 3 => 0
  | 4 => 0
  | 5 => 1
  | 6 => 0
  | 7 => 0
  | 8 => 0
  | 9 => 0
  | 10 => 0
  | 11 => 0
  | _ => 0
theorem index12 (i : Nat) (hi : i < 12) (w : World) : (Instr.index 72 (.agg #[.string ⟨#[70]⟩, .int .i64 2, .string ⟨#[70]⟩, .int .i64 0, .string ⟨#[83]⟩, .int .i64 2, .string ⟨#[83]⟩, .int .i64 0, .string ⟨#[84]⟩, .int .i64 2, .string ⟨#[84]⟩, .int .i64 0, .string ⟨#[82]⟩, .int .i64 2, .string ⟨#[82]⟩, .int .i64 0, .string ⟨#[69]⟩, .int .i64 2, .string ⟨#[69]⟩, .int .i64 0, .string ⟨#[72]⟩, .int .i64 4, .string ⟨#[]⟩, .int .i64 1, .string ⟨#[78]⟩, .int .i64 4, .string ⟨#[]⟩, .int .i64 0, .string ⟨#[46, 98, 114]⟩, .int .i64 6, .string ⟨#[98, 114]⟩, .int .i64 0, .string ⟨#[46, 99, 101]⟩, .int .i64 6, .string ⟨#[99, 101]⟩, .int .i64 0, .string ⟨#[46, 102, 105]⟩, .int .i64 6, .string ⟨#[102, 105]⟩, .int .i64 0, .string ⟨#[46, 110, 102]⟩, .int .i64 6, .string ⟨#[110, 102]⟩, .int .i64 0, .string ⟨#[46, 115, 112]⟩, .int .i64 6, .string ⟨#[115, 112]⟩, .int .i64 0]) (.int .i64 (i : Int))).run Tryd.prog w = .ok (.agg #[.string (wB i), .int .i64 (wK i), .string (wT i), .int .i64 (wN i)]) w := by
  rcases (by omega : i = 0 ∨ i = 1 ∨ i = 2 ∨ i = 3 ∨ i = 4 ∨ i = 5 ∨ i = 6 ∨ i = 7 ∨ i = 8 ∨ i = 9 ∨ i = 10 ∨ i = 11) with rfl | rfl | rfl | rfl | rfl | rfl | rfl | rfl | rfl | rfl | rfl | rfl <;> kernel_rfl
theorem words_hex (i : Nat) (hi : i < 12) : ¬ wK i = 3 := by
  rcases (by omega : i = 0 ∨ i = 1 ∨ i = 2 ∨ i = 3 ∨ i = 4 ∨ i = 5 ∨ i = 6 ∨ i = 7 ∨ i = 8 ∨ i = 9 ∨ i = 10 ∨ i = 11) with rfl | rfl | rfl | rfl | rfl | rfl | rfl | rfl | rfl | rfl | rfl | rfl <;> decide
theorem words_mark (j : Nat) (hj : j < 5) : wK j = 2 ∧ wN j = 0 ∧ wB j = wT j := by
  rcases (by omega : j = 0 ∨ j = 1 ∨ j = 2 ∨ j = 3 ∨ j = 4) with rfl | rfl | rfl | rfl | rfl <;> exact ⟨rfl, rfl, rfl⟩
theorem words_less (i j : Nat) (hj : j < 5) (hi : i < j) : ¬ (wT i).toList = (wT j).toList := by
  rcases (by omega : j = 0 ∨ j = 1 ∨ j = 2 ∨ j = 3 ∨ j = 4) with rfl | rfl | rfl | rfl | rfl <;> rcases (by omega : i = 0 ∨ i = 1 ∨ i = 2 ∨ i = 3) with rfl | rfl | rfl | rfl <;> first | omega | (rw [ByteArray.toList_eq, ByteArray.toList_eq]; decide)
set_option maxRecDepth 100000 in
set_option maxHeartbeats 4000000 in
theorem body_hex (x : ByteArray) (w : World) (hW : Words w) (hx : x.size ≤ 64) : Calls Tryd.prog 30 #[.agg #[.int .i64 3, .string x, .int .i64 0]] w fun e w' => (∃ Y : ByteArray, e = .returned (.string Y) ∧ Hid (Y.data.toList = 88 :: prB x.data.toList)) ∧ Below w.heap.size w w' := by
  have hW' := hW.below ((Below.refl _ w).alloc (Nat.le_refl _) (.cells #[.int .i64 3, .string x, .int .i64 0] 53))
  have b1 : Below w.heap.size w (w.alloc (.cells #[.int .i64 3, .string x, .int .i64 0] 53)) := (Below.refl _ w).alloc (Nat.le_refl _) _
  have q0 : (w.alloc (.cells #[.int .i64 3, .string x, .int .i64 0] 53)).cell? ⟨w.heap.size, 0, none⟩ = some (.int .i64 3) := by rw [cell_new]; rfl
  have q1 : (w.alloc (.cells #[.int .i64 3, .string x, .int .i64 0] 53)).cell? ⟨w.heap.size, 1, none⟩ = some (.string x) := by rw [cell_new]; rfl
  have q2 : (w.alloc (.cells #[.int .i64 3, .string x, .int .i64 0] 53)).cell? ⟨w.heap.size, 2, none⟩ = some (.int .i64 0) := by rw [cell_new]; rfl
  have z1 : (w.alloc (.cells #[.int .i64 3, .string x, .int .i64 0] 53)).heap.size = w.heap.size + 1 := by simp
  obtain ⟨W1, hW1⟩ : ∃ W, w.alloc (.cells #[.int .i64 3, .string x, .int .i64 0] 53) = W := ⟨_, rfl⟩
  rw [hW1] at hW' b1 q0 q1 q2 z1
  have hr : W1.rangeAt 0 0 WL := fun j v hv => by rw [Nat.zero_add]; exact hW' j v hv
  have HQ : Hid (Below w.heap.size w W1 ∧ W1.cell? ⟨w.heap.size, 0, none⟩ = some (.int .i64 3) ∧ W1.cell? ⟨w.heap.size, 1, none⟩ = some (.string x) ∧ W1.cell? ⟨w.heap.size, 2, none⟩ = some (.int .i64 0) ∧ W1.heap.size = w.heap.size + 1) := ⟨b1, q0, q1, q2, z1⟩
  have hix := index12
  rw [show (#[.string ⟨#[70]⟩, .int .i64 2, .string ⟨#[70]⟩, .int .i64 0, .string ⟨#[83]⟩, .int .i64 2, .string ⟨#[83]⟩, .int .i64 0, .string ⟨#[84]⟩, .int .i64 2, .string ⟨#[84]⟩, .int .i64 0, .string ⟨#[82]⟩, .int .i64 2, .string ⟨#[82]⟩, .int .i64 0, .string ⟨#[69]⟩, .int .i64 2, .string ⟨#[69]⟩, .int .i64 0, .string ⟨#[72]⟩, .int .i64 4, .string ⟨#[]⟩, .int .i64 1, .string ⟨#[78]⟩, .int .i64 4, .string ⟨#[]⟩, .int .i64 0, .string ⟨#[46, 98, 114]⟩, .int .i64 6, .string ⟨#[98, 114]⟩, .int .i64 0, .string ⟨#[46, 99, 101]⟩, .int .i64 6, .string ⟨#[99, 101]⟩, .int .i64 0, .string ⟨#[46, 102, 105]⟩, .int .i64 6, .string ⟨#[102, 105]⟩, .int .i64 0, .string ⟨#[46, 110, 102]⟩, .int .i64 6, .string ⟨#[110, 102]⟩, .int .i64 0, .string ⟨#[46, 115, 112]⟩, .int .i64 6, .string ⟨#[115, 112]⟩, .int .i64 0] : Array Value) = WL.toArray from rfl] at hix
  clear hW hW' b1 q0 q1 q2 z1
  go_enter Tryd.func30, Tryd.ntmps30
  go_wp2_with (refine wpList_load_mid rfl 72 (.global 0) rfl 0 0 rfl WL _ hr Tryd.underlying72 rfl (by kernel_rfl) ?_)
  obtain ⟨A, hA⟩ : ∃ A, WL.toArray = A := ⟨_, rfl⟩
  rw [hA] at hix ⊢
  clear hA hr
  go_wp2_with fail
  go_loopw [6] (fun t6 wx => ∃ i : Nat, i ≤ 12 ∧ t6 = .int .i64 i ∧ Hid (Below W1.heap.size W1 wx)) (fun t6 _ => 12 - (intOf t6).toNat)
  case atStart => exact ⟨0, Nat.zero_le _, rfl, Below.refl _ _⟩
  case round =>
    obtain ⟨i, hi, rfl, HI⟩ := hrel
    have hq : ∀ o, wr.cell? ⟨w.heap.size, o, none⟩ = W1.cell? ⟨w.heap.size, o, none⟩ := fun o => HI.out.cell (p := ⟨w.heap.size, o, none⟩) (by have := HQ.out.2.2.2.2; simp; omega)
    have p0 := (hq 0).trans HQ.out.2.1
    have p1 := (hq 1).trans HQ.out.2.2.1
    have p2 := (hq 2).trans HQ.out.2.2.2.1
    have hl : w.heap.size < wr.heap.size := by have := HI.out.size; have := HQ.out.2.2.2.2; omega
    have HBw : Hid (Below w.heap.size w wr) := below_then HQ.out.1 HI.out
    clear hq
    by_cases hlt : i < 12
    · have hlti : (i : Int) < 12 := by omega
      have hxi := hix i hlt
      have hk := words_hex i hlt
      clear hix
      go_wp2_with fail
      go_roundw
      case rel => exact ⟨i + 1, by omega, by go_num, below_then HI.out ((Below.refl _ _).alloc (Nat.le_refl _) _)⟩
      case measure => simp [intOf]; omega
    · obtain rfl : i = 12 := by omega
      clear hix
      go_wp2_with fail
      refine (pairs_any x _ hx).mono ?_
      rintro e w' ⟨rfl, hb⟩
      have HB2 : Hid (Below w.heap.size w w') := below_then HBw.out hb
      obtain ⟨P, hP⟩ : ∃ P, (⟨(prB x.data.toList).toArray⟩ : ByteArray) = P := ⟨_, rfl⟩
      have HP : Hid (P.data.toList = prB x.data.toList) := by unfold Hid; rw [← hP]
      have hPs : P.size = 2 * x.size := by rw [← hP]; show (prB x.data.toList).toArray.size = _; rw [List.size_toArray, prB_len]; rfl
      rw [hP]
      clear hP hb
      go_wp2_with fail
      go_ret
      refine ⟨⟨_, rfl, ?_⟩, HB2.out⟩
      unfold Hid
      rw [ByteArray.data_append, Array.toList_append, HP.out]; rfl
set_option maxRecDepth 100000 in
set_option maxHeartbeats 4000000 in
theorem body_mark (j : Nat) (hj : j < 5) (w : World) (hW : Words w) : Calls Tryd.prog 30 #[.agg #[.int .i64 2, .string (wT j), .int .i64 0]] w fun e w' => e = .returned (.string (wT j)) ∧ Below w.heap.size w w' := by
  have hW' := hW.below ((Below.refl _ w).alloc (Nat.le_refl _) (.cells #[.int .i64 2, .string (wT j), .int .i64 0] 53))
  have b1 : Below w.heap.size w (w.alloc (.cells #[.int .i64 2, .string (wT j), .int .i64 0] 53)) := (Below.refl _ w).alloc (Nat.le_refl _) _
  have q0 : (w.alloc (.cells #[.int .i64 2, .string (wT j), .int .i64 0] 53)).cell? ⟨w.heap.size, 0, none⟩ = some (.int .i64 2) := by rw [cell_new]; rfl
  have q1 : (w.alloc (.cells #[.int .i64 2, .string (wT j), .int .i64 0] 53)).cell? ⟨w.heap.size, 1, none⟩ = some (.string (wT j)) := by rw [cell_new]; rfl
  have q2 : (w.alloc (.cells #[.int .i64 2, .string (wT j), .int .i64 0] 53)).cell? ⟨w.heap.size, 2, none⟩ = some (.int .i64 0) := by rw [cell_new]; rfl
  have z1 : (w.alloc (.cells #[.int .i64 2, .string (wT j), .int .i64 0] 53)).heap.size = w.heap.size + 1 := by simp
  obtain ⟨W1, hW1⟩ : ∃ W, w.alloc (.cells #[.int .i64 2, .string (wT j), .int .i64 0] 53) = W := ⟨_, rfl⟩
  rw [hW1] at hW' b1 q0 q1 q2 z1
  have hr : W1.rangeAt 0 0 WL := fun j v hv => by rw [Nat.zero_add]; exact hW' j v hv
  have HQ : Hid (Below w.heap.size w W1 ∧ W1.cell? ⟨w.heap.size, 0, none⟩ = some (.int .i64 2) ∧ W1.cell? ⟨w.heap.size, 1, none⟩ = some (.string (wT j)) ∧ W1.cell? ⟨w.heap.size, 2, none⟩ = some (.int .i64 0) ∧ W1.heap.size = w.heap.size + 1) := ⟨b1, q0, q1, q2, z1⟩
  have hix := index12
  rw [show (#[.string ⟨#[70]⟩, .int .i64 2, .string ⟨#[70]⟩, .int .i64 0, .string ⟨#[83]⟩, .int .i64 2, .string ⟨#[83]⟩, .int .i64 0, .string ⟨#[84]⟩, .int .i64 2, .string ⟨#[84]⟩, .int .i64 0, .string ⟨#[82]⟩, .int .i64 2, .string ⟨#[82]⟩, .int .i64 0, .string ⟨#[69]⟩, .int .i64 2, .string ⟨#[69]⟩, .int .i64 0, .string ⟨#[72]⟩, .int .i64 4, .string ⟨#[]⟩, .int .i64 1, .string ⟨#[78]⟩, .int .i64 4, .string ⟨#[]⟩, .int .i64 0, .string ⟨#[46, 98, 114]⟩, .int .i64 6, .string ⟨#[98, 114]⟩, .int .i64 0, .string ⟨#[46, 99, 101]⟩, .int .i64 6, .string ⟨#[99, 101]⟩, .int .i64 0, .string ⟨#[46, 102, 105]⟩, .int .i64 6, .string ⟨#[102, 105]⟩, .int .i64 0, .string ⟨#[46, 110, 102]⟩, .int .i64 6, .string ⟨#[110, 102]⟩, .int .i64 0, .string ⟨#[46, 115, 112]⟩, .int .i64 6, .string ⟨#[115, 112]⟩, .int .i64 0] : Array Value) = WL.toArray from rfl] at hix
  clear hW hW' b1 q0 q1 q2 z1
  go_enter Tryd.func30, Tryd.ntmps30
  go_wp2_with (refine wpList_load_mid rfl 72 (.global 0) rfl 0 0 rfl WL _ hr Tryd.underlying72 rfl (by kernel_rfl) ?_)
  obtain ⟨A, hA⟩ : ∃ A, WL.toArray = A := ⟨_, rfl⟩
  rw [hA] at hix ⊢
  clear hA hr
  go_wp2_with fail
  go_loopw [6] (fun t6 wx => ∃ i : Nat, i ≤ j ∧ t6 = .int .i64 i ∧ Hid (Below W1.heap.size W1 wx)) (fun t6 _ => 12 - (intOf t6).toNat)
  case atStart => exact ⟨0, Nat.zero_le _, rfl, Below.refl _ _⟩
  case round =>
    obtain ⟨i, hi, rfl, HI⟩ := hrel
    have hq : ∀ o, wr.cell? ⟨w.heap.size, o, none⟩ = W1.cell? ⟨w.heap.size, o, none⟩ := fun o => HI.out.cell (p := ⟨w.heap.size, o, none⟩) (by have := HQ.out.2.2.2.2; simp; omega)
    have p0 := (hq 0).trans HQ.out.2.1
    have p1 := (hq 1).trans HQ.out.2.2.1
    have p2 := (hq 2).trans HQ.out.2.2.2.1
    have hl : w.heap.size < wr.heap.size := by have := HI.out.size; have := HQ.out.2.2.2.2; omega
    have HBw : Hid (Below w.heap.size w wr) := below_then HQ.out.1 HI.out
    clear hq
    have hlti : (i : Int) < 12 := by omega
    have hxi := hix i (by omega)
    clear hix
    by_cases hlt : i < j
    · have hk := (words_mark i (by omega)).1
      have ht := words_less i j hj hlt
      go_wp2_with fail
      go_roundw
      case rel => exact ⟨i + 1, by omega, by go_num, below_then HI.out ((Below.refl _ _).alloc (Nat.le_refl _) _)⟩
      case measure => simp [intOf]; omega
    · obtain rfl : i = j := by omega
      obtain ⟨hk, hn, hb⟩ := words_mark i hj
      have HBB : Hid (wB i = wT i) := hb
      clear hb
      go_wp2_with fail
      go_ret
      exact ⟨by rw [← HBB.out]; rfl, HBw.out.alloc (by omega) _⟩
end Go.Proofs.YtkpebmhokdckfaaDoor
