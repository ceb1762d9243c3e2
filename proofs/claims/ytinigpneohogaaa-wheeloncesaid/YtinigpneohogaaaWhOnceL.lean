/-
  The law WheelOnce.
-/
import Derived.Test.YtinigpneohogaaaWhOnceA
import Derived.Test.YtinigpneohogaaaWhOnceB
namespace Go.Proofs.Ytinigpneohogaaa
open Go.RowKit
theorem once_law {now : Int} {ao lo : Option Addr} {cap lc : Nat} {ys : List Opv} {zs : List Int} (w : World) (h : Opl w ao ys) (hk : OpsI ys) (hl : ys.length ≤ maxLen) (hz : Intl w lo zs) (hzl : zs.length ≤ maxLen) :
    Calls Try.prog 3 #[.int .i64 now, .slice ao ys.length cap, .slice lo zs.length lc] w fun e w' => e = .returned (.bool true) ∧ Below w.heap.size w w' := by
  rcases Nat.lt_or_ge 1000 ys.length with g | g
  · exact once_lawB w h hk hl g hz hzl
  · exact once_lawA w h hk g hz hzl
end Go.Proofs.Ytinigpneohogaaa
