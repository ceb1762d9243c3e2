/-
  What the listed package-level variables give the walks: the handle of 'error', the table of the months.
-/
import Derived.Test.YtpcdkafjogpdkaaDoorCards
import Derived.Test.YtpcdkafjogpdkaaDoorTie
import Derived.Test.YtpcdkafjogpdkaaDoorLawIs
import Derived.ProofKit
import Derived.OpenShut
import Derived.Deep.DeepHandedRow
import Derived.Lib.LaidTab
import Derived.LaidHandle
import Derived.LaidMore
namespace Go.Proofs.YtpcdkafjogpdkaaDoor
open Go.ChangeShapes Go.WideShapes Go.ChangeAt Go.RowKit

theorem own : ownKnob Tryd.prog.godebug = none := by kernel_rfl
theorem gMonths : Tryd.prog.globalNamed "courier/stamp.monthDays" = some 1 := by kernel_rfl
theorem tMonths : (Tryd.prog.globals[1]?).map (·.type) = some 117 := by kernel_rfl
theorem cellsMonths : Tryd.prog.cellsOf 117 = 12 := by kernel_rfl
theorem cellsI64 : Tryd.prog.cellsOf 2 = 1 := by kernel_rfl
theorem gErr : Tryd.prog.globalNamed "errors.errorType" = some 0 := by kernel_rfl
theorem rtypeAt : (Tryd.prog.cutTypes.find? (·.1 == "internal/reflectlite.rtype")).map (·.2) = some 103 := by kernel_rfl
theorem errorRow : ((List.range 175).filter fun t => Tryd.prog.rowNamed t [101, 114, 114, 111, 114]) = [25] := by kernel_rfl
theorem typesSize : Tryd.prog.types.size = 175 := by kernel_rfl

theorem laidMet_tail {P : Program} {W : World} {x : String × DataW Unit} {r : List (String × DataW Unit)} (h : laidMet P (x :: r) W) : laidMet P r W := by
  obtain ⟨ps, ⟨g, t, cs, fuel, p, q, hg, ht, hv, hd, hr, rfl⟩, hnd, hall⟩ := h
  exact ⟨q, hr, (List.nodup_append.1 hnd).2.1, fun b off hm => hall b off (List.mem_append_right _ hm)⟩

theorem months_of {W : World} {rest : List (String × DataW Unit)} (h : laidMet Tryd.prog (("courier/stamp.monthDays", Rows.laid_courier_stamp_monthDays) :: rest) W) : Months W := by
  have ht : Lib.TabIs Tryd.prog W "courier/stamp.monthDays" .i64 [31, 28, 31, 30, 31, 30, 31, 31, 30, 31, 30, 31] :=
    Lib.tabIs_of_head (rest := rest) gMonths tMonths Tryd.underlying117 Tryd.underlying2 cellsI64 cellsMonths h
  exact ⟨ht.cell gMonths 0 (by decide), ht.cell gMonths 1 (by decide), ht.cell gMonths 2 (by decide), ht.cell gMonths 3 (by decide), ht.cell gMonths 4 (by decide), ht.cell gMonths 5 (by decide), ht.cell gMonths 6 (by decide), ht.cell gMonths 7 (by decide), ht.cell gMonths 8 (by decide), ht.cell gMonths 9 (by decide), ht.cell gMonths 10 (by decide), ht.cell gMonths 11 (by decide)⟩

theorem errType_of {W : World} (h : handlesMet Tryd.prog [("errors.errorType", Rows.laid_errors_errorType)] W) : ErrType W := by
  obtain ⟨name, u, ty, e1, e2, e3, e4, e5⟩ := h _ (List.mem_singleton.2 rfl)
  have en : name = [101, 114, 114, 111, 114] := (Option.some.inj e1).symm
  subst en
  obtain rfl := Option.some.inj (rtypeAt.symm.trans e2)
  have hm : ty ∈ (List.range 175).filter fun t => Tryd.prog.rowNamed t [101, 114, 114, 111, 114] := List.mem_filter.2 ⟨List.mem_range.2 (by rw [← typesSize]; exact e3), e4⟩
  rw [errorRow] at hm
  obtain rfl := List.mem_singleton.1 hm
  have hh : typeHandle Tryd.prog 25 = .pointer (some ⟨6, 25, none⟩) := by kernel_rfl
  rw [hh] at e5
  simpa [ErrType] using World.var?_cell gErr e5 0
end Go.Proofs.YtpcdkafjogpdkaaDoor
