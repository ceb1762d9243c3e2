/-
  The law WalCuts, as its row hands the arguments.
-/
import Derived.Test.YtgminfbhaclbbaaDoorWCutsL
import Derived.ChangeShapes
namespace Go.Proofs.YtgminfbhaclbbaaDoor
open Go.RowKit Go.BigFrame

theorem lit_le {z : Int} (h : (Lit.int .i64 z).wf = true) : z ≤ 9223372036854775807 := by
  simp [Lit.wf, IntKind.min, IntKind.max, IntKind.signed, IntKind.bits] at h
  omega
theorem cuts_row {ao : Option Addr} {cap : Nat} {xs : List Blv} {keep zeros : Int} (w : World) (h : Bls w ao xs) (hn : xs.length ≤ maxLen) (hp : ∀ y ∈ xs, y.pl ≤ 140737488355328 ∧ (y.po = none → y.pc = 0) ∧ ∀ z ∈ y.bs, 0 ≤ z ∧ z ≤ 255) (hkw : (Lit.int .i64 keep).wf = true) (hzw : (Lit.int .i64 zeros).wf = true) (hH : Halves w) :
    Calls Tryd.prog 5 #[.slice ao xs.length cap, .int .i64 keep, .int .i64 zeros] w fun e w' => e = .returned (.bool true) ∧ Below w.heap.size w w' :=
  cuts_law w h hn hp (lit_le hkw) (lit_le hzw) hH
end Go.Proofs.YtgminfbhaclbbaaDoor
