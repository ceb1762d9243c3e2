/-
  What a plain row's proof asks (no package variable is listed).
-/
import Derived.Test.YtnabpjfdpelejaaRows
import Derived.Test.YtnabpjfdpelejaaSqBegun
import Derived.ProofKit
import Derived.OpenShut
import Derived.Deep.DeepHandedRow
import Derived.Deep.Slices
import Derived.LaidMore
namespace Go.Proofs.Ytnabpjfdpelejaa
open Go.ChangeShapes Go.WideShapes Go.ChangeAt Go.RowKit Go.Deep

theorem own : ownKnob Try.prog.godebug = none := by kernel_rfl
theorem typesSize : Try.prog.types.size = 78 := by kernel_rfl
end Go.Proofs.Ytnabpjfdpelejaa
