/-
  What the library's listed tables give: the powers of ten.
-/
import Derived.Test.YtpcdkafjogpdkaaDoorLaid
import Derived.Test.YtpcdkafjogpdkaaDoorWr
namespace Go.Proofs.YtpcdkafjogpdkaaDoor
open Go.ChangeShapes Go.WideShapes Go.ChangeAt Go.RowKit

def Tables (w : World) : Prop := Pow w
theorem tPow : (Tryd.prog.globals[2]?).map (·.type) = some 143 := by kernel_rfl
theorem cellsPow : Tryd.prog.cellsOf 143 = 20 := by kernel_rfl
theorem cellsU64 : Tryd.prog.cellsOf 131 = 1 := by kernel_rfl
theorem pow_lits : Rows.laid_internal_strconv_uint64pow10 (H := Unit) = .agg (Lib.pow10Tab.map fun z => .lit (.int .u64 z)) := by kernel_rfl
theorem tables_of {W : World} {x y : String × DataW Unit} {rest : List (String × DataW Unit)} (h : laidMet Tryd.prog (x :: y :: ("internal/strconv.uint64pow10", Rows.laid_internal_strconv_uint64pow10) :: rest) W) : Tables W := by
  have h2 := laidMet_tail (laidMet_tail h)
  rw [pow_lits] at h2
  exact Lib.tabIs_of_head (rest := rest) gPow tPow Tryd.underlying143 Tryd.underlying131 cellsU64 cellsPow h2
end Go.Proofs.YtpcdkafjogpdkaaDoor
