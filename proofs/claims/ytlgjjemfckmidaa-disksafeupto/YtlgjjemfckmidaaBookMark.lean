/-
  couriermem.markByte: some byte of the two numbers.
-/
import Derived.Test.YtlgjjemfckmidaaBookStill
namespace Go.Proofs.Ytlgjjemfckmidaa
open Go.RowKit

/-- The mark of place k in the list of number i. -/
def markI (i k : Nat) : Int := bits BinOp.xor IntKind.u8 ((i : Int) / 2 ^ (8 * (k % 3)) % 256) (53 * ((k : Int) % 3) + 1)
def mk (i n : Nat) : List Int := (List.range n).map (markI i)
theorem mk_length (i n : Nat) : (mk i n).length = n := by simp [mk]
theorem mk_succ (i n : Nat) : mk i (n + 1) = mk i n ++ [markI i n] := by simp [mk, List.range_succ]
theorem mk_getD (i n k : Nat) (h : k < n) : (mk i n).getD k 0 = markI i k := by
  rw [List.getD_eq_getElem?_getD, mk, List.getElem?_map, List.getElem?_range h]; rfl
theorem mk_take (i n k : Nat) (h : k ≤ n) : (mk i n).take k = mk i k := by
  rw [mk, mk, ← List.map_take, List.take_range, Nat.min_eq_left h]
set_option maxHeartbeats 1000000 in
theorem mark_any (i k : Nat) (hk : k ≤ 4611686018427387904) (w : World) : Calls Try.prog 52 #[.int .i64 (i : Int), .int .i64 (k : Int)] w fun e w' => e = .returned (.int .u8 (markI i k)) ∧ w' = w := by
  go_enter Try.func52, Try.ntmps52
  go_wp2
  go_ret
  exact ⟨rfl, rfl⟩
end Go.Proofs.Ytlgjjemfckmidaa
