/-
  The document's reader of places: number, right.
-/
import Derived.Test.YtiihdhajmcfhaaaDoorPRef
import Derived.BigRegion
namespace Go.Proofs.YtiihdhajmcfhaaaDoor
open Go.RowKit

theorem digit_val' {s : ByteArray} {a : Nat} (h : a < s.size) (hd : isD (bt s a) = true) : 48 ≤ (s[a].toNat : Int) ∧ (s[a].toNat : Int) ≤ 57 := by
  have := isD_iff.1 hd; rw [bt_in h] at this; omega
/-- Behind right. -/
def rgtB (q : Bool) (from_ : Nat) : Option Nat → Option Nat
  | none => if q then none else some from_
  | some p => some p
theorem rgtB_t (p : Nat) : rgtB true p none = none := by simp [rgtB]
theorem rgtB_f (p : Nat) : rgtB false p none = some p := by simp [rgtB]
end Go.Proofs.YtiihdhajmcfhaaaDoor
