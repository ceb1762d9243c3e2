/-
  NARROWER THAN 'FOR EVERY INPUT', by the rows' own cells (each row's printed sentence says how): OutboxLoads: laid.
  DERIVED. THE GIVEN ROWS OF THIS SEAT. 1 by the template 'for every input the law returns true; each argument reads behind the call as it read before'; 0 by the template 'total and deterministic' (their statements: YtoijhecphgdfnaaDoorTotals.lean).
  GIVEN WITH THE SEED: the statements are not yours to turn. If you find one false, say at which input.
  Laid BY PROGRAM, IN A SANDBOX (cutbox-rows.mjs): the forced cells as the released guide's own fill.sh prints them over the translation dd53db7e96eb4951… (all of the seat's roots in one cut). By AI agents, Wed Nov 11 2026. No macro, syntax, notation, axiom, sorry.
-/
import Derived.Test.YtoijhecphgdfnaaDoorChecked
import GoSem.Claim
import GoSem.ClaimJoined
import GoSem.ClaimMapViews
import Derived.JoinedTies
import Derived.KernelRfl
namespace Go.Proofs.YtoijhecphgdfnaaDoor
/- THE CELL 'sum', in the pinned program and in every row, IS THE sha256 OF THE DUMP (.gsa) THAT YtoijhecphgdfnaaDoorProg.lean LOADS. Nothing in Lean hashes anything: it is a label: what it is worth is what the hold of that sum in a sandbox is worth. -/
noncomputable def Tryd.pinned : Pinned := { name := "ytoijhecphgdfnaadoor", sum := "dd53db7e96eb49511d7f172af0900a9b39b96afdc610c05e1b899810abba22ac", checked := Tryd.checked }
namespace Rows
def none {H : Type} : Left H := { results := [], args := [] }

/- WHAT THE LISTED PACKAGE-LEVEL VARIABLES READ AS WHEN THE CALL BEGINS. Each datum BY PROGRAM (the guide's laid-datum.mjs) off the statement by which the dump's own 'gosem.cut.vars' lays the variable. In a bare row this is a premise. The card (YtoijhecphgdfnaaDoorCards.lean) ties it to the program's text. -/
def laid_courier_decide_codes {H : Type} : DataW H := .agg [.agg [.lit (.string [67, 65]), .lit (.bool true), .lit (.int .i64 3)], .agg [.lit (.string [67, 69]), .lit (.bool true), .lit (.int .i64 2)], .agg [.lit (.string [67, 82]), .lit (.bool true), .lit (.int .i64 2)], .agg [.lit (.string [65, 65]), .lit (.bool false), .lit (.int .i64 3)], .agg [.lit (.string [65, 69]), .lit (.bool false), .lit (.int .i64 2)], .agg [.lit (.string [65, 82]), .lit (.bool false), .lit (.int .i64 2)]]

/-- 'courierlaw14.OutboxLoads': WHATEVER THE INPUT: true; the input reads as it did. -/
def outboxLoadsSpec : ChangeSpec := { name := "outboxLoads", fn := fun _ => fun
  | [d] => { results := [.lit (.bool true)], args := [d] }
  | _ => none }
def outboxLoadsRow : OpenClaim := { program := "ytoijhecphgdfnaadoor", sum := "dd53db7e96eb49511d7f172af0900a9b39b96afdc610c05e1b899810abba22ac", func := "courier/courierlaw14.OutboxLoads", spec := "outboxLoads", unfollowed := true, recurses := true, named := ["courier/decide.codes"], apart := false, laid := [("courier/decide.codes", laid_courier_decide_codes)] }
def OutboxLoadsSaid : Prop := outboxLoadsRow.holds Tryd.pinned (OpenSpec.ofChange outboxLoadsSpec)

/-- ITS FALSE NEIGHBOUR: 'it returns false'. Refute it at one input. -/
def outboxLoadsWrong : ChangeSpec := { name := "outboxLoads", fn := fun _ => fun
  | [d] => { results := [.lit (.bool false)], args := [d] }
  | _ => none }
def OutboxLoadsWrongFalsely : Prop := outboxLoadsRow.holds Tryd.pinned (OpenSpec.ofChange outboxLoadsWrong)

/- THE SECOND FORM. 'bulk': how many values and letters a reading holds, each counted each time it is reached (what is shared counts as often as it is met; a slice's spare places count too). A statement '..UptoSaid' is the law's where the arguments, and the package variables that the reading takes, are together of bulk at most 1048576: NARROWER than '..Said'. Prove '..Said' where nothing that the law and all that it calls make is longer than what came in: it says more and counts as full. Else prove '..UptoSaid'. A law counts once. -/
mutual
def uptoBulk {H : Type} : DataW H → Nat
  | .lit (.string bytes) => bytes.length + 1
  | .lit _ => 1
  | .nil => 1
  | .ptr d => uptoBulk d + 1
  | .slice elems spare => uptoBulkAll elems + uptoBulkAll spare + 1
  | .agg parts => uptoBulkAll parts + 1
  | .iface _ d => uptoBulk d + 1
  | .map entries => uptoBulkEntries entries + 1
  | .held _ => 1
def uptoBulkAll {H : Type} : List (DataW H) → Nat
  | [] => 0
  | d :: r => uptoBulk d + uptoBulkAll r
def uptoBulkEntries {H : Type} : List (Lit × DataW H) → Nat
  | [] => 0
  | x :: r => uptoBulkEntry x + uptoBulkEntries r
def uptoBulkEntry {H : Type} : Lit × DataW H → Nat
  | (.string bytes, d) => bytes.length + uptoBulk d + 1
  | (_, d) => uptoBulk d + 1
 end
def uptoSmall : (H : Type) → List (DataW H) → Bool := fun _ ds => decide (uptoBulkAll ds ≤ 1048576)
def OpenSpec.upto (s : _root_.Go.ChangeSpec) : _root_.Go.OpenSpec := { _root_.Go.OpenSpec.ofChange s with cond := some uptoSmall }

/-- 'courierlaw14.OutboxLoads', WHERE WHAT IT READS IS OF BULK AT MOST 1048576: true; the input reads as it did. -/
def outboxLoadsUptoRow : OpenClaim := { program := "ytoijhecphgdfnaadoor", sum := "dd53db7e96eb49511d7f172af0900a9b39b96afdc610c05e1b899810abba22ac", func := "courier/courierlaw14.OutboxLoads", spec := "outboxLoads", unfollowed := true, recurses := true, named := ["courier/decide.codes"], apart := false, laid := [("courier/decide.codes", laid_courier_decide_codes)], narrowed := true }
def OutboxLoadsUptoSaid : Prop := outboxLoadsUptoRow.holds Tryd.pinned (OpenSpec.upto outboxLoadsSpec)

end Rows
end Go.Proofs.YtoijhecphgdfnaaDoor
