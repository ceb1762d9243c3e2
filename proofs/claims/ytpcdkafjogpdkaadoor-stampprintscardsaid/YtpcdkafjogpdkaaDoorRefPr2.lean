/-
  The reference's Print, by level.
-/
import Derived.Test.YtpcdkafjogpdkaaDoorRefPr
namespace Go.Proofs.YtpcdkafjogpdkaaDoor
open Go.RowKit

theorem digits_is {x y : Int} {n k : Nat} (hx : x = n) (hy : y = k) (hn : n < 100000) (hk : k ≤ 4) (w : World) : Calls Tryd.prog 25 #[.int .i64 x, .int .i64 y] w fun e w' => ∃ T, e = .returned (.string T) ∧ T.size = k ∧ Hid (Txt T (digs k n)) ∧ Below w.heap.size w w' := by
  subst hx hy
  exact digits_any n k hn hk w
theorem ref_neg {zn : Int} (h1 : -840 ≤ zn) (h2 : zn < 0) : wrap64 (-zn.tdiv 60) = ((zn.natAbs / 60 : Nat) : Int) ∧ -zn.tmod 60 = ((zn.natAbs % 60 : Nat) : Int) := by
  obtain ⟨k, rfl⟩ : ∃ k : Nat, zn = -(k : Int) := ⟨zn.natAbs, by omega⟩
  rw [Int.natAbs_neg, Int.natAbs_natCast]
  have key : ∀ k : Nat, k < 841 → wrap64 (-(-(k : Int)).tdiv 60) = ((k / 60 : Nat) : Int) ∧ -(-(k : Int)).tmod 60 = ((k % 60 : Nat) : Int) := by decide +kernel
  exact key k (by omega)
theorem ref_pos {zn : Int} (h2 : ¬ zn < 0) : zn / 60 = ((zn.natAbs / 60 : Nat) : Int) ∧ zn % 60 = ((zn.natAbs % 60 : Nat) : Int) := by
  obtain ⟨k, rfl⟩ : ∃ k : Nat, zn = (k : Int) := ⟨zn.natAbs, by omega⟩
  rw [Int.natAbs_natCast]
  omega
theorem txt_eq {T : ByteArray} {l m : List UInt8} (h : Txt T l) (e : l = m) : Hid (Txt T m) := e ▸ h
theorem dotT : Txt ⟨#[46]⟩ [46] := rfl
theorem sg45T : Txt ⟨#[45]⟩ [45] := rfl
theorem sg43T : Txt ⟨#[43]⟩ [43] := rfl
end Go.Proofs.YtpcdkafjogpdkaaDoor
