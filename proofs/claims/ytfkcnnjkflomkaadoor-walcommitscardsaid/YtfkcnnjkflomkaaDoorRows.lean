/-
  NARROWER THAN 'FOR EVERY INPUT', by the rows' own cells (each row's printed sentence says how): WalSizes: laid · WalGens: laid · WalCuts: laid · WalFuse: laid · WalCommits: laid.
  DERIVED. THE GIVEN ROWS OF THIS SEAT. 5 by the template 'for every input the law returns true; each argument reads behind the call as it read before'; 0 by the template 'total and deterministic' (their statements: YtfkcnnjkflomkaaDoorTotals.lean).
  GIVEN WITH THE SEED: the statements are not yours to turn. If you find one false, say at which input.
  Laid BY PROGRAM, IN A SANDBOX (cutbox-rows.mjs): the forced cells as the released guide's own fill.sh prints them over the translation e7ca984ec68cde1c… (all of the seat's roots in one cut). By AI agents, Wed Nov 11 2026. No macro, syntax, notation, axiom, sorry.
-/
import Derived.Test.YtfkcnnjkflomkaaDoorChecked
import GoSem.Claim
import GoSem.ClaimJoined
import GoSem.ClaimMapViews
import Derived.JoinedTies
import Derived.KernelRfl
namespace Go.Proofs.YtfkcnnjkflomkaaDoor
/- THE CELL 'sum', in the pinned program and in every row, IS THE sha256 OF THE DUMP (.gsa) THAT YtfkcnnjkflomkaaDoorProg.lean LOADS. Nothing in Lean hashes anything: it is a label: what it is worth is what the hold of that sum in a sandbox is worth. -/
noncomputable def Tryd.pinned : Pinned := { name := "ytfkcnnjkflomkaadoor", sum := "e7ca984ec68cde1c3e760c780d8f20fa90bc01ed660adfebe5a8a458f12c5f6f", checked := Tryd.checked }
namespace Rows
def none {H : Type} : Left H := { results := [], args := [] }

/- WHAT THE LISTED PACKAGE-LEVEL VARIABLES READ AS WHEN THE CALL BEGINS. Each datum BY PROGRAM (the guide's laid-datum.mjs) off the statement by which the dump's own 'gosem.cut.vars' lays the variable. In a bare row this is a premise. The card (YtfkcnnjkflomkaaDoorCards.lean) ties it to the program's text. -/
def laid_errors_errorType {H : Type} : DataW H := .iface "internal/reflectlite.rtype" (.agg [.ptr (.lit (.string [101, 114, 114, 111, 114]))])
def laid_courier_wal_halves {H : Type} : DataW H := .agg [.lit (.int .u32 0), .lit (.int .u32 498536548), .lit (.int .u32 997073096), .lit (.int .u32 651767980), .lit (.int .u32 1994146192), .lit (.int .u32 1802195444), .lit (.int .u32 1303535960), .lit (.int .u32 1342533948), .lit (.int .u32 3988292384), .lit (.int .u32 4027552580), .lit (.int .u32 3604390888), .lit (.int .u32 3412177804), .lit (.int .u32 2607071920), .lit (.int .u32 2262029012), .lit (.int .u32 2685067896), .lit (.int .u32 3183342108)]

/-- 'courierlaw03.WalSizes': WHATEVER THE INPUT: true; the input reads as it did. -/
def walSizesSpec : ChangeSpec := { name := "walSizes", fn := fun _ => fun
  | [d1, d2] => { results := [.lit (.bool true)], args := [d1, d2] }
  | _ => none }
def walSizesRow : OpenClaim := { program := "ytfkcnnjkflomkaadoor", sum := "e7ca984ec68cde1c3e760c780d8f20fa90bc01ed660adfebe5a8a458f12c5f6f", func := "courier/courierlaw03.WalSizes", spec := "walSizes", inPlace := ["internal/reflectlite.ValueOf", "(internal/reflectlite.Value).Type", "(internal/reflectlite.Value).IsNil", "internal/reflectlite.TypeOf", "(internal/reflectlite.Value).Elem", "(internal/reflectlite.Value).Set"], unfollowed := true, recurses := true, named := ["errors.errorType", "courier/wal.halves"], apart := false, laid := [("errors.errorType", laid_errors_errorType), ("courier/wal.halves", laid_courier_wal_halves)] }
def WalSizesSaid : Prop := walSizesRow.holds Tryd.pinned (OpenSpec.ofChange walSizesSpec)

/-- ITS FALSE NEIGHBOUR: 'it returns false'. Refute it at one input. -/
def walSizesWrong : ChangeSpec := { name := "walSizes", fn := fun _ => fun
  | [d1, d2] => { results := [.lit (.bool false)], args := [d1, d2] }
  | _ => none }
def WalSizesWrongFalsely : Prop := walSizesRow.holds Tryd.pinned (OpenSpec.ofChange walSizesWrong)

/-- 'courierlaw03.WalGens': WHATEVER THE INPUT: true; the input reads as it did. -/
def walGensSpec : ChangeSpec := { name := "walGens", fn := fun _ => fun
  | [d1, d2] => { results := [.lit (.bool true)], args := [d1, d2] }
  | _ => none }
def walGensRow : OpenClaim := { program := "ytfkcnnjkflomkaadoor", sum := "e7ca984ec68cde1c3e760c780d8f20fa90bc01ed660adfebe5a8a458f12c5f6f", func := "courier/courierlaw03.WalGens", spec := "walGens", inPlace := ["internal/reflectlite.ValueOf", "(internal/reflectlite.Value).Type", "(internal/reflectlite.Value).IsNil", "internal/reflectlite.TypeOf", "(internal/reflectlite.Value).Elem", "(internal/reflectlite.Value).Set"], unfollowed := true, recurses := true, named := ["errors.errorType", "courier/wal.halves"], apart := false, laid := [("errors.errorType", laid_errors_errorType), ("courier/wal.halves", laid_courier_wal_halves)] }
def WalGensSaid : Prop := walGensRow.holds Tryd.pinned (OpenSpec.ofChange walGensSpec)

/-- ITS FALSE NEIGHBOUR: 'it returns false'. Refute it at one input. -/
def walGensWrong : ChangeSpec := { name := "walGens", fn := fun _ => fun
  | [d1, d2] => { results := [.lit (.bool false)], args := [d1, d2] }
  | _ => none }
def WalGensWrongFalsely : Prop := walGensRow.holds Tryd.pinned (OpenSpec.ofChange walGensWrong)

/-- 'courierlaw03.WalCuts': WHATEVER THE INPUT: true; the input reads as it did. -/
def walCutsSpec : ChangeSpec := { name := "walCuts", fn := fun _ => fun
  | [d1, d2, d3] => { results := [.lit (.bool true)], args := [d1, d2, d3] }
  | _ => none }
def walCutsRow : OpenClaim := { program := "ytfkcnnjkflomkaadoor", sum := "e7ca984ec68cde1c3e760c780d8f20fa90bc01ed660adfebe5a8a458f12c5f6f", func := "courier/courierlaw03.WalCuts", spec := "walCuts", inPlace := ["internal/reflectlite.ValueOf", "(internal/reflectlite.Value).Type", "(internal/reflectlite.Value).IsNil", "internal/reflectlite.TypeOf", "(internal/reflectlite.Value).Elem", "(internal/reflectlite.Value).Set"], unfollowed := true, recurses := true, named := ["errors.errorType", "courier/wal.halves"], apart := false, laid := [("errors.errorType", laid_errors_errorType), ("courier/wal.halves", laid_courier_wal_halves)] }
def WalCutsSaid : Prop := walCutsRow.holds Tryd.pinned (OpenSpec.ofChange walCutsSpec)

/-- ITS FALSE NEIGHBOUR: 'it returns false'. Refute it at one input. -/
def walCutsWrong : ChangeSpec := { name := "walCuts", fn := fun _ => fun
  | [d1, d2, d3] => { results := [.lit (.bool false)], args := [d1, d2, d3] }
  | _ => none }
def WalCutsWrongFalsely : Prop := walCutsRow.holds Tryd.pinned (OpenSpec.ofChange walCutsWrong)

/-- 'courierlaw03.WalFuse': WHATEVER THE INPUT: true; the input reads as it did. -/
def walFuseSpec : ChangeSpec := { name := "walFuse", fn := fun _ => fun
  | [d1, d2, d3, d4, d5] => { results := [.lit (.bool true)], args := [d1, d2, d3, d4, d5] }
  | _ => none }
def walFuseRow : OpenClaim := { program := "ytfkcnnjkflomkaadoor", sum := "e7ca984ec68cde1c3e760c780d8f20fa90bc01ed660adfebe5a8a458f12c5f6f", func := "courier/courierlaw03.WalFuse", spec := "walFuse", inPlace := ["internal/reflectlite.ValueOf", "(internal/reflectlite.Value).Type", "(internal/reflectlite.Value).IsNil", "internal/reflectlite.TypeOf", "(internal/reflectlite.Value).Elem", "(internal/reflectlite.Value).Set"], unfollowed := true, recurses := true, named := ["errors.errorType", "courier/wal.halves"], apart := false, laid := [("errors.errorType", laid_errors_errorType), ("courier/wal.halves", laid_courier_wal_halves)] }
def WalFuseSaid : Prop := walFuseRow.holds Tryd.pinned (OpenSpec.ofChange walFuseSpec)

/-- ITS FALSE NEIGHBOUR: 'it returns false'. Refute it at one input. -/
def walFuseWrong : ChangeSpec := { name := "walFuse", fn := fun _ => fun
  | [d1, d2, d3, d4, d5] => { results := [.lit (.bool false)], args := [d1, d2, d3, d4, d5] }
  | _ => none }
def WalFuseWrongFalsely : Prop := walFuseRow.holds Tryd.pinned (OpenSpec.ofChange walFuseWrong)

/-- 'courierlaw03.WalCommits': WHATEVER THE INPUT: true; the input reads as it did. -/
def walCommitsSpec : ChangeSpec := { name := "walCommits", fn := fun _ => fun
  | [d] => { results := [.lit (.bool true)], args := [d] }
  | _ => none }
def walCommitsRow : OpenClaim := { program := "ytfkcnnjkflomkaadoor", sum := "e7ca984ec68cde1c3e760c780d8f20fa90bc01ed660adfebe5a8a458f12c5f6f", func := "courier/courierlaw03.WalCommits", spec := "walCommits", inPlace := ["internal/reflectlite.ValueOf", "(internal/reflectlite.Value).Type", "(internal/reflectlite.Value).IsNil", "internal/reflectlite.TypeOf", "(internal/reflectlite.Value).Elem", "(internal/reflectlite.Value).Set"], unfollowed := true, recurses := true, named := ["errors.errorType", "courier/wal.halves"], apart := false, laid := [("errors.errorType", laid_errors_errorType), ("courier/wal.halves", laid_courier_wal_halves)] }
def WalCommitsSaid : Prop := walCommitsRow.holds Tryd.pinned (OpenSpec.ofChange walCommitsSpec)

/-- ITS FALSE NEIGHBOUR: 'it returns false'. Refute it at one input. -/
def walCommitsWrong : ChangeSpec := { name := "walCommits", fn := fun _ => fun
  | [d] => { results := [.lit (.bool false)], args := [d] }
  | _ => none }
def WalCommitsWrongFalsely : Prop := walCommitsRow.holds Tryd.pinned (OpenSpec.ofChange walCommitsWrong)

/- THE SECOND FORM. 'bulk': how many values and letters a reading holds, each counted each time it is reached (what is shared counts as often as it is met; a slice's spare places count too). A statement '..UptoSaid' is the law's where the arguments, and the package variables that the reading takes, are together of bulk at most 1048576: NARROWER than '..Said'. Prove '..Said' where nothing that the law and all that it calls make is longer than what came in: it says more and counts as full. Else prove '..UptoSaid'. A law counts once. -/
mutual
def uptoBulk {H : Type} : DataW H → Nat
  | .lit (.string bytes) => bytes.length + 1
  | .lit _ => 1
  | .nil => 1
  | .ptr d => uptoBulk d + 1
  | .slice elems spare => uptoBulkAll elems + uptoBulkAll spare + 1
  | .agg parts => uptoBulkAll parts + 1
  | .iface _ d => uptoBulk d + 1
  | .map entries => uptoBulkEntries entries + 1
  | .held _ => 1
def uptoBulkAll {H : Type} : List (DataW H) → Nat
  | [] => 0
  | d :: r => uptoBulk d + uptoBulkAll r
def uptoBulkEntries {H : Type} : List (Lit × DataW H) → Nat
  | [] => 0
  | x :: r => uptoBulkEntry x + uptoBulkEntries r
def uptoBulkEntry {H : Type} : Lit × DataW H → Nat
  | (.string bytes, d) => bytes.length + uptoBulk d + 1
  | (_, d) => uptoBulk d + 1
 end
def uptoSmall : (H : Type) → List (DataW H) → Bool := fun _ ds => decide (uptoBulkAll ds ≤ 1048576)
def OpenSpec.upto (s : _root_.Go.ChangeSpec) : _root_.Go.OpenSpec := { _root_.Go.OpenSpec.ofChange s with cond := some uptoSmall }

/-- 'courierlaw03.WalSizes', WHERE WHAT IT READS IS OF BULK AT MOST 1048576: true; the input reads as it did. -/
def walSizesUptoRow : OpenClaim := { program := "ytfkcnnjkflomkaadoor", sum := "e7ca984ec68cde1c3e760c780d8f20fa90bc01ed660adfebe5a8a458f12c5f6f", func := "courier/courierlaw03.WalSizes", spec := "walSizes", inPlace := ["internal/reflectlite.ValueOf", "(internal/reflectlite.Value).Type", "(internal/reflectlite.Value).IsNil", "internal/reflectlite.TypeOf", "(internal/reflectlite.Value).Elem", "(internal/reflectlite.Value).Set"], unfollowed := true, recurses := true, named := ["errors.errorType", "courier/wal.halves"], apart := false, laid := [("errors.errorType", laid_errors_errorType), ("courier/wal.halves", laid_courier_wal_halves)], narrowed := true }
def WalSizesUptoSaid : Prop := walSizesUptoRow.holds Tryd.pinned (OpenSpec.upto walSizesSpec)

/-- 'courierlaw03.WalGens', WHERE WHAT IT READS IS OF BULK AT MOST 1048576: true; the input reads as it did. -/
def walGensUptoRow : OpenClaim := { program := "ytfkcnnjkflomkaadoor", sum := "e7ca984ec68cde1c3e760c780d8f20fa90bc01ed660adfebe5a8a458f12c5f6f", func := "courier/courierlaw03.WalGens", spec := "walGens", inPlace := ["internal/reflectlite.ValueOf", "(internal/reflectlite.Value).Type", "(internal/reflectlite.Value).IsNil", "internal/reflectlite.TypeOf", "(internal/reflectlite.Value).Elem", "(internal/reflectlite.Value).Set"], unfollowed := true, recurses := true, named := ["errors.errorType", "courier/wal.halves"], apart := false, laid := [("errors.errorType", laid_errors_errorType), ("courier/wal.halves", laid_courier_wal_halves)], narrowed := true }
def WalGensUptoSaid : Prop := walGensUptoRow.holds Tryd.pinned (OpenSpec.upto walGensSpec)

/-- 'courierlaw03.WalCuts', WHERE WHAT IT READS IS OF BULK AT MOST 1048576: true; the input reads as it did. -/
def walCutsUptoRow : OpenClaim := { program := "ytfkcnnjkflomkaadoor", sum := "e7ca984ec68cde1c3e760c780d8f20fa90bc01ed660adfebe5a8a458f12c5f6f", func := "courier/courierlaw03.WalCuts", spec := "walCuts", inPlace := ["internal/reflectlite.ValueOf", "(internal/reflectlite.Value).Type", "(internal/reflectlite.Value).IsNil", "internal/reflectlite.TypeOf", "(internal/reflectlite.Value).Elem", "(internal/reflectlite.Value).Set"], unfollowed := true, recurses := true, named := ["errors.errorType", "courier/wal.halves"], apart := false, laid := [("errors.errorType", laid_errors_errorType), ("courier/wal.halves", laid_courier_wal_halves)], narrowed := true }
def WalCutsUptoSaid : Prop := walCutsUptoRow.holds Tryd.pinned (OpenSpec.upto walCutsSpec)

/-- 'courierlaw03.WalFuse', WHERE WHAT IT READS IS OF BULK AT MOST 1048576: true; the input reads as it did. -/
def walFuseUptoRow : OpenClaim := { program := "ytfkcnnjkflomkaadoor", sum := "e7ca984ec68cde1c3e760c780d8f20fa90bc01ed660adfebe5a8a458f12c5f6f", func := "courier/courierlaw03.WalFuse", spec := "walFuse", inPlace := ["internal/reflectlite.ValueOf", "(internal/reflectlite.Value).Type", "(internal/reflectlite.Value).IsNil", "internal/reflectlite.TypeOf", "(internal/reflectlite.Value).Elem", "(internal/reflectlite.Value).Set"], unfollowed := true, recurses := true, named := ["errors.errorType", "courier/wal.halves"], apart := false, laid := [("errors.errorType", laid_errors_errorType), ("courier/wal.halves", laid_courier_wal_halves)], narrowed := true }
def WalFuseUptoSaid : Prop := walFuseUptoRow.holds Tryd.pinned (OpenSpec.upto walFuseSpec)

/-- 'courierlaw03.WalCommits', WHERE WHAT IT READS IS OF BULK AT MOST 1048576: true; the input reads as it did. -/
def walCommitsUptoRow : OpenClaim := { program := "ytfkcnnjkflomkaadoor", sum := "e7ca984ec68cde1c3e760c780d8f20fa90bc01ed660adfebe5a8a458f12c5f6f", func := "courier/courierlaw03.WalCommits", spec := "walCommits", inPlace := ["internal/reflectlite.ValueOf", "(internal/reflectlite.Value).Type", "(internal/reflectlite.Value).IsNil", "internal/reflectlite.TypeOf", "(internal/reflectlite.Value).Elem", "(internal/reflectlite.Value).Set"], unfollowed := true, recurses := true, named := ["errors.errorType", "courier/wal.halves"], apart := false, laid := [("errors.errorType", laid_errors_errorType), ("courier/wal.halves", laid_courier_wal_halves)], narrowed := true }
def WalCommitsUptoSaid : Prop := walCommitsUptoRow.holds Tryd.pinned (OpenSpec.upto walCommitsSpec)

end Rows
end Go.Proofs.YtfkcnnjkflomkaaDoor
