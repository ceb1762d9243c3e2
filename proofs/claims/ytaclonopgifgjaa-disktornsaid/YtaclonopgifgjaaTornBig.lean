/-
  The law DiskTorn: bytes beyond an area; the last bit of a number.
-/
import Derived.Test.YtaclonopgifgjaaTornBase
import Derived.Laws.BitsLemmas
namespace Go.Proofs.Ytaclonopgifgjaa
open Go.RowKit

theorem i64_and1 (n : Int) : bits .and .i64 n 1 = n % 2 := by
  have h1 : (BitVec.ofInt 64 1).toNat = 2 ^ 1 - 1 := by decide
  have key : (BitVec.ofInt 64 n &&& BitVec.ofInt 64 1).toNat = (n % ((2 ^ 64 : Nat) : Int)).toNat % 2 ^ 1 := by
    rw [BitVec.toNat_and, BitVec.toNat_ofInt, h1, Nat.and_two_pow_sub_one_eq_mod]
  show IntKind.i64.wrap ((BitVec.ofInt 64 n &&& BitVec.ofInt 64 1).toNat : Nat) = n % 2
  rw [key, IntKind.wrap_i64]
  omega
set_option maxRecDepth 100000 in
set_option maxHeartbeats 4000000 in
theorem torn_long {sa ta : Option Addr} {sl sc tl tc : Nat} {tk tz fu ar : Int} (w : World) (h1 : sl ≤ 140737488355328) (h2 : tl ≤ 140737488355328) (hlen : 16777216 < sl + tl) :
    Calls Try.prog 4 #[.slice sa sl sc, .slice ta tl tc, .agg #[.int .i64 tk, .int .i64 tz], .int .i64 fu, .int .i64 ar] w fun e w' => e = .returned (.bool true) ∧ Below w.heap.size w w' := by
  go_enter Try.func4, Try.ntmps4
  go_wp2_with fail
  refine (heads_true _).mono ?_
  rintro e w0 ⟨rfl, b0⟩
  have HB0 : Hid (Below w.heap.size w w0) := (((Below.refl _ _).alloc (Nat.le_refl _) _)).trans (b0.mono (by simp))
  clear b0
  have hl2 : 16777216 < (sl : Int) + tl := by omega
  go_wp2_with fail
  refine (heads_true _).mono ?_
  rintro e w1 ⟨rfl, b1⟩
  have HB1 : Hid (Below w.heap.size w w1) := below_then HB0.out b1
  clear b1
  go_wp2_with fail
  go_ret
  exact ⟨rfl, HB1.out⟩
end Go.Proofs.Ytaclonopgifgjaa
