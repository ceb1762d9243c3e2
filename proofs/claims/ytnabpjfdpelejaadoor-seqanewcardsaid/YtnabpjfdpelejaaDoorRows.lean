/-
  NARROWER THAN 'FOR EVERY INPUT', by the rows' own cells (each row's printed sentence says how): SeqRising: laid · SeqAccepts: laid · SeqSends: laid · SeqAnew: laid · SeqReceives: laid.
  DERIVED. THE GIVEN ROWS OF THIS SEAT. 5 by the template 'for every input the law returns true; each argument reads behind the call as it read before'; 0 by the template 'total and deterministic' (their statements: YtnabpjfdpelejaaDoorTotals.lean).
  GIVEN WITH THE SEED: the statements are not yours to turn. If you find one false, say at which input.
  Laid BY PROGRAM, IN A SANDBOX (cutbox-rows.mjs): the forced cells as the released guide's own fill.sh prints them over the translation 9070f97710b46494… (all of the seat's roots in one cut). By AI agents, Wed Nov 11 2026. No macro, syntax, notation, axiom, sorry.
-/
import Derived.Test.YtnabpjfdpelejaaDoorChecked
import GoSem.Claim
import GoSem.ClaimJoined
import GoSem.ClaimMapViews
import Derived.JoinedTies
import Derived.KernelRfl
namespace Go.Proofs.YtnabpjfdpelejaaDoor
/- THE CELL 'sum', in the pinned program and in every row, IS THE sha256 OF THE DUMP (.gsa) THAT YtnabpjfdpelejaaDoorProg.lean LOADS. Nothing in Lean hashes anything: it is a label: what it is worth is what the hold of that sum in a sandbox is worth. -/
noncomputable def Tryd.pinned : Pinned := { name := "ytnabpjfdpelejaadoor", sum := "9070f97710b46494b9937f24b82b6f4e95af1b91b40255e0965bd41c0ef2eb42", checked := Tryd.checked }
namespace Rows
def none {H : Type} : Left H := { results := [], args := [] }

/- WHAT THE LISTED PACKAGE-LEVEL VARIABLES READ AS WHEN THE CALL BEGINS. Each datum BY PROGRAM (the guide's laid-datum.mjs) off the statement by which the dump's own 'gosem.cut.vars' lays the variable. In a bare row this is a premise. The card (YtnabpjfdpelejaaDoorCards.lean) ties it to the program's text. -/
def laid_errors_errorType {H : Type} : DataW H := .iface "internal/reflectlite.rtype" (.agg [.ptr (.lit (.string [101, 114, 114, 111, 114]))])

/-- 'courierlaw12.SeqRising': WHATEVER THE INPUT: true; the input reads as it did. -/
def seqRisingSpec : ChangeSpec := { name := "seqRising", fn := fun _ => fun
  | [d1, d2] => { results := [.lit (.bool true)], args := [d1, d2] }
  | _ => none }
def seqRisingRow : OpenClaim := { program := "ytnabpjfdpelejaadoor", sum := "9070f97710b46494b9937f24b82b6f4e95af1b91b40255e0965bd41c0ef2eb42", func := "courier/courierlaw12.SeqRising", spec := "seqRising", inPlace := ["internal/reflectlite.ValueOf", "(internal/reflectlite.Value).Type", "(internal/reflectlite.Value).IsNil", "internal/reflectlite.TypeOf", "(internal/reflectlite.Value).Elem", "(internal/reflectlite.Value).Set"], unfollowed := true, recurses := true, named := ["errors.errorType"], apart := false, laid := [("errors.errorType", laid_errors_errorType)] }
def SeqRisingSaid : Prop := seqRisingRow.holds Tryd.pinned (OpenSpec.ofChange seqRisingSpec)

/-- ITS FALSE NEIGHBOUR: 'it returns false'. Refute it at one input. -/
def seqRisingWrong : ChangeSpec := { name := "seqRising", fn := fun _ => fun
  | [d1, d2] => { results := [.lit (.bool false)], args := [d1, d2] }
  | _ => none }
def SeqRisingWrongFalsely : Prop := seqRisingRow.holds Tryd.pinned (OpenSpec.ofChange seqRisingWrong)

/-- 'courierlaw12.SeqAccepts': WHATEVER THE INPUT: true; the input reads as it did. -/
def seqAcceptsSpec : ChangeSpec := { name := "seqAccepts", fn := fun _ => fun
  | [d1, d2] => { results := [.lit (.bool true)], args := [d1, d2] }
  | _ => none }
def seqAcceptsRow : OpenClaim := { program := "ytnabpjfdpelejaadoor", sum := "9070f97710b46494b9937f24b82b6f4e95af1b91b40255e0965bd41c0ef2eb42", func := "courier/courierlaw12.SeqAccepts", spec := "seqAccepts", inPlace := ["internal/reflectlite.ValueOf", "(internal/reflectlite.Value).Type", "(internal/reflectlite.Value).IsNil", "internal/reflectlite.TypeOf", "(internal/reflectlite.Value).Elem", "(internal/reflectlite.Value).Set"], unfollowed := true, recurses := true, named := ["errors.errorType"], apart := false, laid := [("errors.errorType", laid_errors_errorType)] }
def SeqAcceptsSaid : Prop := seqAcceptsRow.holds Tryd.pinned (OpenSpec.ofChange seqAcceptsSpec)

/-- ITS FALSE NEIGHBOUR: 'it returns false'. Refute it at one input. -/
def seqAcceptsWrong : ChangeSpec := { name := "seqAccepts", fn := fun _ => fun
  | [d1, d2] => { results := [.lit (.bool false)], args := [d1, d2] }
  | _ => none }
def SeqAcceptsWrongFalsely : Prop := seqAcceptsRow.holds Tryd.pinned (OpenSpec.ofChange seqAcceptsWrong)

/-- 'courierlaw12.SeqSends': WHATEVER THE INPUT: true; the input reads as it did. -/
def seqSendsSpec : ChangeSpec := { name := "seqSends", fn := fun _ => fun
  | [d1, d2, d3] => { results := [.lit (.bool true)], args := [d1, d2, d3] }
  | _ => none }
def seqSendsRow : OpenClaim := { program := "ytnabpjfdpelejaadoor", sum := "9070f97710b46494b9937f24b82b6f4e95af1b91b40255e0965bd41c0ef2eb42", func := "courier/courierlaw12.SeqSends", spec := "seqSends", inPlace := ["internal/reflectlite.ValueOf", "(internal/reflectlite.Value).Type", "(internal/reflectlite.Value).IsNil", "internal/reflectlite.TypeOf", "(internal/reflectlite.Value).Elem", "(internal/reflectlite.Value).Set"], unfollowed := true, recurses := true, named := ["errors.errorType"], apart := false, laid := [("errors.errorType", laid_errors_errorType)] }
def SeqSendsSaid : Prop := seqSendsRow.holds Tryd.pinned (OpenSpec.ofChange seqSendsSpec)

/-- ITS FALSE NEIGHBOUR: 'it returns false'. Refute it at one input. -/
def seqSendsWrong : ChangeSpec := { name := "seqSends", fn := fun _ => fun
  | [d1, d2, d3] => { results := [.lit (.bool false)], args := [d1, d2, d3] }
  | _ => none }
def SeqSendsWrongFalsely : Prop := seqSendsRow.holds Tryd.pinned (OpenSpec.ofChange seqSendsWrong)

/-- 'courierlaw12.SeqAnew': WHATEVER THE INPUT: true; the input reads as it did. -/
def seqAnewSpec : ChangeSpec := { name := "seqAnew", fn := fun _ => fun
  | [d] => { results := [.lit (.bool true)], args := [d] }
  | _ => none }
def seqAnewRow : OpenClaim := { program := "ytnabpjfdpelejaadoor", sum := "9070f97710b46494b9937f24b82b6f4e95af1b91b40255e0965bd41c0ef2eb42", func := "courier/courierlaw12.SeqAnew", spec := "seqAnew", inPlace := ["internal/reflectlite.ValueOf", "(internal/reflectlite.Value).Type", "(internal/reflectlite.Value).IsNil", "internal/reflectlite.TypeOf", "(internal/reflectlite.Value).Elem", "(internal/reflectlite.Value).Set"], unfollowed := true, recurses := true, named := ["errors.errorType"], apart := false, laid := [("errors.errorType", laid_errors_errorType)] }
def SeqAnewSaid : Prop := seqAnewRow.holds Tryd.pinned (OpenSpec.ofChange seqAnewSpec)

/-- ITS FALSE NEIGHBOUR: 'it returns false'. Refute it at one input. -/
def seqAnewWrong : ChangeSpec := { name := "seqAnew", fn := fun _ => fun
  | [d] => { results := [.lit (.bool false)], args := [d] }
  | _ => none }
def SeqAnewWrongFalsely : Prop := seqAnewRow.holds Tryd.pinned (OpenSpec.ofChange seqAnewWrong)

/-- 'courierlaw12.SeqReceives': WHATEVER THE INPUT: true; the input reads as it did. -/
def seqReceivesSpec : ChangeSpec := { name := "seqReceives", fn := fun _ => fun
  | [d1, d2, d3, d4, d5] => { results := [.lit (.bool true)], args := [d1, d2, d3, d4, d5] }
  | _ => none }
def seqReceivesRow : OpenClaim := { program := "ytnabpjfdpelejaadoor", sum := "9070f97710b46494b9937f24b82b6f4e95af1b91b40255e0965bd41c0ef2eb42", func := "courier/courierlaw12.SeqReceives", spec := "seqReceives", inPlace := ["internal/reflectlite.ValueOf", "(internal/reflectlite.Value).Type", "(internal/reflectlite.Value).IsNil", "internal/reflectlite.TypeOf", "(internal/reflectlite.Value).Elem", "(internal/reflectlite.Value).Set"], unfollowed := true, recurses := true, named := ["errors.errorType"], apart := false, laid := [("errors.errorType", laid_errors_errorType)] }
def SeqReceivesSaid : Prop := seqReceivesRow.holds Tryd.pinned (OpenSpec.ofChange seqReceivesSpec)

/-- ITS FALSE NEIGHBOUR: 'it returns false'. Refute it at one input. -/
def seqReceivesWrong : ChangeSpec := { name := "seqReceives", fn := fun _ => fun
  | [d1, d2, d3, d4, d5] => { results := [.lit (.bool false)], args := [d1, d2, d3, d4, d5] }
  | _ => none }
def SeqReceivesWrongFalsely : Prop := seqReceivesRow.holds Tryd.pinned (OpenSpec.ofChange seqReceivesWrong)

/- THE SECOND FORM. 'bulk': how many values and letters a reading holds, each counted each time it is reached (what is shared counts as often as it is met; a slice's spare places count too). A statement '..UptoSaid' is the law's where the arguments, and the package variables that the reading takes, are together of bulk at most 1048576: NARROWER than '..Said'. Prove '..Said' where nothing that the law and all that it calls make is longer than what came in: it says more and counts as full. Else prove '..UptoSaid'. A law counts once. -/
mutual
def uptoBulk {H : Type} : DataW H → Nat
  | .lit (.string bytes) => bytes.length + 1
  | .lit _ => 1
  | .nil => 1
  | .ptr d => uptoBulk d + 1
  | .slice elems spare => uptoBulkAll elems + uptoBulkAll spare + 1
  | .agg parts => uptoBulkAll parts + 1
  | .iface _ d => uptoBulk d + 1
  | .map entries => uptoBulkEntries entries + 1
  | .held _ => 1
def uptoBulkAll {H : Type} : List (DataW H) → Nat
  | [] => 0
  | d :: r => uptoBulk d + uptoBulkAll r
def uptoBulkEntries {H : Type} : List (Lit × DataW H) → Nat
  | [] => 0
  | x :: r => uptoBulkEntry x + uptoBulkEntries r
def uptoBulkEntry {H : Type} : Lit × DataW H → Nat
  | (.string bytes, d) => bytes.length + uptoBulk d + 1
  | (_, d) => uptoBulk d + 1
 end
def uptoSmall : (H : Type) → List (DataW H) → Bool := fun _ ds => decide (uptoBulkAll ds ≤ 1048576)
def OpenSpec.upto (s : _root_.Go.ChangeSpec) : _root_.Go.OpenSpec := { _root_.Go.OpenSpec.ofChange s with cond := some uptoSmall }

/-- 'courierlaw12.SeqRising', WHERE WHAT IT READS IS OF BULK AT MOST 1048576: true; the input reads as it did. -/
def seqRisingUptoRow : OpenClaim := { program := "ytnabpjfdpelejaadoor", sum := "9070f97710b46494b9937f24b82b6f4e95af1b91b40255e0965bd41c0ef2eb42", func := "courier/courierlaw12.SeqRising", spec := "seqRising", inPlace := ["internal/reflectlite.ValueOf", "(internal/reflectlite.Value).Type", "(internal/reflectlite.Value).IsNil", "internal/reflectlite.TypeOf", "(internal/reflectlite.Value).Elem", "(internal/reflectlite.Value).Set"], unfollowed := true, recurses := true, named := ["errors.errorType"], apart := false, laid := [("errors.errorType", laid_errors_errorType)], narrowed := true }
def SeqRisingUptoSaid : Prop := seqRisingUptoRow.holds Tryd.pinned (OpenSpec.upto seqRisingSpec)

/-- 'courierlaw12.SeqAccepts', WHERE WHAT IT READS IS OF BULK AT MOST 1048576: true; the input reads as it did. -/
def seqAcceptsUptoRow : OpenClaim := { program := "ytnabpjfdpelejaadoor", sum := "9070f97710b46494b9937f24b82b6f4e95af1b91b40255e0965bd41c0ef2eb42", func := "courier/courierlaw12.SeqAccepts", spec := "seqAccepts", inPlace := ["internal/reflectlite.ValueOf", "(internal/reflectlite.Value).Type", "(internal/reflectlite.Value).IsNil", "internal/reflectlite.TypeOf", "(internal/reflectlite.Value).Elem", "(internal/reflectlite.Value).Set"], unfollowed := true, recurses := true, named := ["errors.errorType"], apart := false, laid := [("errors.errorType", laid_errors_errorType)], narrowed := true }
def SeqAcceptsUptoSaid : Prop := seqAcceptsUptoRow.holds Tryd.pinned (OpenSpec.upto seqAcceptsSpec)

/-- 'courierlaw12.SeqSends', WHERE WHAT IT READS IS OF BULK AT MOST 1048576: true; the input reads as it did. -/
def seqSendsUptoRow : OpenClaim := { program := "ytnabpjfdpelejaadoor", sum := "9070f97710b46494b9937f24b82b6f4e95af1b91b40255e0965bd41c0ef2eb42", func := "courier/courierlaw12.SeqSends", spec := "seqSends", inPlace := ["internal/reflectlite.ValueOf", "(internal/reflectlite.Value).Type", "(internal/reflectlite.Value).IsNil", "internal/reflectlite.TypeOf", "(internal/reflectlite.Value).Elem", "(internal/reflectlite.Value).Set"], unfollowed := true, recurses := true, named := ["errors.errorType"], apart := false, laid := [("errors.errorType", laid_errors_errorType)], narrowed := true }
def SeqSendsUptoSaid : Prop := seqSendsUptoRow.holds Tryd.pinned (OpenSpec.upto seqSendsSpec)

/-- 'courierlaw12.SeqAnew', WHERE WHAT IT READS IS OF BULK AT MOST 1048576: true; the input reads as it did. -/
def seqAnewUptoRow : OpenClaim := { program := "ytnabpjfdpelejaadoor", sum := "9070f97710b46494b9937f24b82b6f4e95af1b91b40255e0965bd41c0ef2eb42", func := "courier/courierlaw12.SeqAnew", spec := "seqAnew", inPlace := ["internal/reflectlite.ValueOf", "(internal/reflectlite.Value).Type", "(internal/reflectlite.Value).IsNil", "internal/reflectlite.TypeOf", "(internal/reflectlite.Value).Elem", "(internal/reflectlite.Value).Set"], unfollowed := true, recurses := true, named := ["errors.errorType"], apart := false, laid := [("errors.errorType", laid_errors_errorType)], narrowed := true }
def SeqAnewUptoSaid : Prop := seqAnewUptoRow.holds Tryd.pinned (OpenSpec.upto seqAnewSpec)

/-- 'courierlaw12.SeqReceives', WHERE WHAT IT READS IS OF BULK AT MOST 1048576: true; the input reads as it did. -/
def seqReceivesUptoRow : OpenClaim := { program := "ytnabpjfdpelejaadoor", sum := "9070f97710b46494b9937f24b82b6f4e95af1b91b40255e0965bd41c0ef2eb42", func := "courier/courierlaw12.SeqReceives", spec := "seqReceives", inPlace := ["internal/reflectlite.ValueOf", "(internal/reflectlite.Value).Type", "(internal/reflectlite.Value).IsNil", "internal/reflectlite.TypeOf", "(internal/reflectlite.Value).Elem", "(internal/reflectlite.Value).Set"], unfollowed := true, recurses := true, named := ["errors.errorType"], apart := false, laid := [("errors.errorType", laid_errors_errorType)], narrowed := true }
def SeqReceivesUptoSaid : Prop := seqReceivesUptoRow.holds Tryd.pinned (OpenSpec.upto seqReceivesSpec)

end Rows
end Go.Proofs.YtnabpjfdpelejaaDoor
