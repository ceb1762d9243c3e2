/-
  The law's plays, of a wheel that nobody made, whatever the call.
-/
import Derived.Test.YtknbfkmiedifdaaDoorWhNonO
import Derived.Test.YtknbfkmiedifdaaDoorWhNon1
import Derived.Test.YtknbfkmiedifdaaDoorWhNon2
import Derived.Test.YtknbfkmiedifdaaDoorWhNon3
import Derived.Test.YtknbfkmiedifdaaDoorWhNon4
import Derived.Test.YtknbfkmiedifdaaDoorWhNon5
import Derived.Test.YtknbfkmiedifdaaDoorWhNon6
import Derived.Test.YtknbfkmiedifdaaDoorWhNon7
namespace Go.Proofs.YtknbfkmiedifdaaDoor
open Go.RowKit

theorem plays_any {w : World} {v : Value} {rb : Nat} (kd ky : Int) (s : ByteArray) (tk : Int) (hu : UnW w v) (hr : RPl w rb) (hE : ErrType w) : Calls Tryd.prog 4 #[v, .pointer (some ⟨rb, 0, none⟩), .agg #[.int .i64 kd, .int .i64 ky, .string s, .int .i64 tk]] w fun e w' => e = .returned (.bool true) ∧ Below w.heap.size w w' := by
  by_cases q1 : kd = 1
  · subst q1; exact plays_1 ky s tk hu hr hE
  by_cases q2 : kd = 2
  · subst q2; exact plays_2 ky s tk hu hr hE
  by_cases q3 : kd = 3
  · subst q3; exact plays_3 ky s tk hu hr hE
  by_cases q4 : kd = 4
  · subst q4; exact plays_4 ky s tk hu hr hE
  by_cases q5 : kd = 5
  · subst q5; exact plays_5 ky s tk hu hr hE
  by_cases q6 : kd = 6
  · subst q6; exact plays_6 ky s tk hu hr hE
  by_cases q7 : kd = 7
  · subst q7; exact plays_7 ky s tk hu hr hE
  exact plays_other kd ky s tk (by simpa using q1) (by simpa using q2) (by simpa using q3) (by simpa using q4) (by simpa using q5) (by simpa using q6) (by simpa using q7) hu hr hE
end Go.Proofs.YtknbfkmiedifdaaDoor
