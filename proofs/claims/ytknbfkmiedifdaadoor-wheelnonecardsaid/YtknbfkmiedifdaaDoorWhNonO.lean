/-
  The law's plays, of a wheel that nobody made: one kind.
-/
import Derived.Test.YtknbfkmiedifdaaDoorWhNonP
namespace Go.Proofs.YtknbfkmiedifdaaDoor
open Go.RowKit

set_option maxRecDepth 100000 in
set_option maxHeartbeats 1000000 in
theorem plays_other {w : World} {v : Value} {rb : Nat} (kd : Int) (ky : Int) (s : ByteArray) (tk : Int) (q1 : (kd == 1) = false) (q2 : (kd == 2) = false) (q3 : (kd == 3) = false) (q4 : (kd == 4) = false) (q5 : (kd == 5) = false) (q6 : (kd == 6) = false) (q7 : (kd == 7) = false) (hu : UnW w v) (hr : RPl w rb) (hE : ErrType w) : Calls Tryd.prog 4 #[v, .pointer (some ⟨rb, 0, none⟩), .agg #[.int .i64 kd, .int .i64 ky, .string s, .int .i64 tk]] w fun e w' => e = .returned (.bool true) ∧ Below w.heap.size w w' := by
  have HI : Hid (type_of% (PlI.start kd ky s tk hu hr hE)) := PlI.start kd ky s tk hu hr hE
  have co := HI.out.o
  have ck := HI.out.k
  clear hu hr hE
  go_enter Tryd.func4, Tryd.ntmps4
  go_wp2_with fail
  go_ret
  exact ⟨rfl, HI.out.b⟩
end Go.Proofs.YtknbfkmiedifdaaDoor
