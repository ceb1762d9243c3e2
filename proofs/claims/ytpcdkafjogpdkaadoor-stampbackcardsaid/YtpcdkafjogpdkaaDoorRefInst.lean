/-
  The reference's instant and span: least, before, long, Instant.
-/
import Derived.Test.YtpcdkafjogpdkaaDoorInst2
namespace Go.Proofs.YtpcdkafjogpdkaaDoor
open Go.RowKit

theorem ret_pair {a b : Int} {v : Value} (h : a = b) : Ending.returned (.tuple #[.int .i64 a, v]) = .returned (.tuple #[.int .i64 b, v]) := by rw [h]

end Go.Proofs.YtpcdkafjogpdkaaDoor
