/-
  Numbers, and signs, that came in.
-/
import Derived.Test.YtnabpjfdpelejaaDoorSqBegun
namespace Go.Proofs.YtnabpjfdpelejaaDoor
open Go.RowKit

def Nums (w : World) (ao : Option Addr) (xs : List Int) : Prop := ∀ (j : Nat) (y : Int), xs[j]? = some y → ∃ b o, ao = some ⟨b, o, none⟩ ∧ b < w.heap.size ∧ w.cell? ⟨b, o + j, none⟩ = some (.int .i64 y)
def Flags (w : World) (ao : Option Addr) (xs : List Bool) : Prop := ∀ (j : Nat) (y : Bool), xs[j]? = some y → ∃ b o, ao = some ⟨b, o, none⟩ ∧ b < w.heap.size ∧ w.cell? ⟨b, o + j, none⟩ = some (.bool y)
end Go.Proofs.YtnabpjfdpelejaaDoor
