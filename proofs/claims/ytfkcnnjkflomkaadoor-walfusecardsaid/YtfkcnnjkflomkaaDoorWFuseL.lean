/-
  The law WalFuse, as its row hands the arguments.
-/
import Derived.Test.YtfkcnnjkflomkaaDoorWFuseNa
import Derived.Test.YtfkcnnjkflomkaaDoorWFuseNb
import Derived.Test.YtfkcnnjkflomkaaDoorWFuseN0
import Derived.Test.YtfkcnnjkflomkaaDoorWFuseN1
import Derived.Test.YtfkcnnjkflomkaaDoorWFuseN2
import Derived.Test.YtfkcnnjkflomkaaDoorWFuseN3
import Derived.Test.YtfkcnnjkflomkaaDoorWFuseN4
import Derived.ChangeShapes
namespace Go.Proofs.YtfkcnnjkflomkaaDoor
open Go.RowKit Go.BigFrame

theorem fuse_lit {z : Int} (h : (Lit.int .i64 z).wf = true) : z ≤ 9223372036854775807 := by
  simp [Lit.wf, IntKind.min, IntKind.max, IntKind.signed, IntKind.bits] at h
  omega
theorem fuse_row {ao : Option Addr} {cap : Nat} {xs : List Blv} {sy n : Int} {po : Option Addr} {pl pc : Nat} {sn : List Int} {tk0 tz0 tk1 tz1 : Int} (w : World) (h : Bls w ao xs) (hn : xs.length ≤ maxLen) (hp : ∀ y ∈ xs, y.pl ≤ 140737488355328 ∧ (y.po = none → y.pc = 0) ∧ ∀ z ∈ y.bs, 0 ≤ z ∧ z ≤ 255) (_ : (Lit.int .i64 sy).wf = true) (hS : Byts w po pl sn) (_ : pl ≤ maxLen) (hSo : po = none → pc = 0) (_ : pl ≤ pc) (hSl : pl ≤ 140737488355328) (hSr : ∀ z ∈ sn, 0 ≤ z ∧ z ≤ 255) (hnw : (Lit.int .i64 n).wf = true) (hL : Halves w ∧ ErrType w) :
    Calls Tryd.prog 6 #[.slice ao xs.length cap, .int .i64 sy, .slice po pl pc, .int .i64 n, .agg #[.int .i64 tk0, .int .i64 tz0, .int .i64 tk1, .int .i64 tz1]] w fun e w' => e = .returned (.bool true) ∧ Below w.heap.size w w' := by
  have hn' := fuse_lit hnw
  by_cases h0 : n < 0
  · exact fuse_a w h hn hp hS hSo hSl hSr hn' hL.1 hL.2 h0
  by_cases h5 : 5 ≤ n
  · exact fuse_b w h hn hp hS hSo hSl hSr hn' hL.1 hL.2 h5
  by_cases e0 : n = 0
  · exact fuse_0 w h hn hp hS hSo hSl hSr hn' hL.1 hL.2 e0
  by_cases e1 : n = 1
  · exact fuse_1 w h hn hp hS hSo hSl hSr hn' hL.1 hL.2 e1
  by_cases e2 : n = 2
  · exact fuse_2 w h hn hp hS hSo hSl hSr hn' hL.1 hL.2 e2
  by_cases e3 : n = 3
  · exact fuse_3 w h hn hp hS hSo hSl hSr hn' hL.1 hL.2 e3
  · exact fuse_4 w h hn hp hS hSo hSl hSr hn' hL.1 hL.2 (by omega)
end Go.Proofs.YtfkcnnjkflomkaaDoor
