/-
  NARROWER THAN 'FOR EVERY INPUT', by the rows' own cells (each row's printed sentence says how): OutboxCalls: laid · OutboxExact: laid · OutboxPair: laid.
  DERIVED. THE GIVEN ROWS OF THIS SEAT. 3 by the template 'for every input the law returns true; each argument reads behind the call as it read before'; 0 by the template 'total and deterministic' (their statements: YtoijhecphgdfnaaGreatDoorTotals.lean).
  GIVEN WITH THE SEED: the statements are not yours to turn. If you find one false, say at which input.
  Laid BY PROGRAM, IN A SANDBOX (cutbox-rows.mjs): the forced cells as the released guide's own fill.sh prints them over the translation 7041e51860886a2a… (all of the seat's roots in one cut). By AI agents, Wed Nov 11 2026. No macro, syntax, notation, axiom, sorry.
-/
import Derived.Test.YtoijhecphgdfnaaGreatDoorChecked
import GoSem.Claim
import GoSem.ClaimJoined
import GoSem.ClaimMapViews
import Derived.JoinedTies
import Derived.KernelRfl
namespace Go.Proofs.YtoijhecphgdfnaaGreatDoor
/- THE CELL 'sum', in the pinned program and in every row, IS THE sha256 OF THE DUMP (.gsa) THAT YtoijhecphgdfnaaGreatDoorProg.lean LOADS. Nothing in Lean hashes anything: it is a label: what it is worth is what the hold of that sum in a sandbox is worth. -/
noncomputable def Tryz.pinned : Pinned := { name := "ytoijhecphgdfnaagreatdoor", sum := "7041e51860886a2ad0b0f986a651e3f0e31c6a764bf9a524470d7098e356313d", checked := Tryz.checked }
namespace Rows
def none {H : Type} : Left H := { results := [], args := [] }

/- WHAT THE LISTED PACKAGE-LEVEL VARIABLES READ AS WHEN THE CALL BEGINS. Each datum BY PROGRAM (the guide's laid-datum.mjs) off the statement by which the dump's own 'gosem.cut.vars' lays the variable. In a bare row this is a premise. The card (YtoijhecphgdfnaaGreatDoorCards.lean) ties it to the program's text. -/
def laid_courier_decide_codes {H : Type} : DataW H := .agg [.agg [.lit (.string [67, 65]), .lit (.bool true), .lit (.int .i64 3)], .agg [.lit (.string [67, 69]), .lit (.bool true), .lit (.int .i64 2)], .agg [.lit (.string [67, 82]), .lit (.bool true), .lit (.int .i64 2)], .agg [.lit (.string [65, 65]), .lit (.bool false), .lit (.int .i64 3)], .agg [.lit (.string [65, 69]), .lit (.bool false), .lit (.int .i64 2)], .agg [.lit (.string [65, 82]), .lit (.bool false), .lit (.int .i64 2)]]

/-- 'courierlaw14.OutboxCalls': WHATEVER THE INPUT: true; the input reads as it did. -/
def outboxCallsSpec : ChangeSpec := { name := "outboxCalls", fn := fun _ => fun
  | [d1, d2] => { results := [.lit (.bool true)], args := [d1, d2] }
  | _ => none }
def outboxCallsRow : OpenClaim := { program := "ytoijhecphgdfnaagreatdoor", sum := "7041e51860886a2ad0b0f986a651e3f0e31c6a764bf9a524470d7098e356313d", func := "courier/courierlaw14.OutboxCalls", spec := "outboxCalls", unfollowed := true, recurses := true, named := ["courier/decide.codes"], apart := false, laid := [("courier/decide.codes", laid_courier_decide_codes)] }
def OutboxCallsSaid : Prop := outboxCallsRow.holds Tryz.pinned (OpenSpec.ofChange outboxCallsSpec)

/-- ITS FALSE NEIGHBOUR: 'it returns false'. Refute it at one input. -/
def outboxCallsWrong : ChangeSpec := { name := "outboxCalls", fn := fun _ => fun
  | [d1, d2] => { results := [.lit (.bool false)], args := [d1, d2] }
  | _ => none }
def OutboxCallsWrongFalsely : Prop := outboxCallsRow.holds Tryz.pinned (OpenSpec.ofChange outboxCallsWrong)

/-- 'courierlaw14.OutboxExact': WHATEVER THE INPUT: true; the input reads as it did. -/
def outboxExactSpec : ChangeSpec := { name := "outboxExact", fn := fun _ => fun
  | [d1, d2] => { results := [.lit (.bool true)], args := [d1, d2] }
  | _ => none }
def outboxExactRow : OpenClaim := { program := "ytoijhecphgdfnaagreatdoor", sum := "7041e51860886a2ad0b0f986a651e3f0e31c6a764bf9a524470d7098e356313d", func := "courier/courierlaw14.OutboxExact", spec := "outboxExact", unfollowed := true, recurses := true, named := ["courier/decide.codes"], apart := false, laid := [("courier/decide.codes", laid_courier_decide_codes)] }
def OutboxExactSaid : Prop := outboxExactRow.holds Tryz.pinned (OpenSpec.ofChange outboxExactSpec)

/-- ITS FALSE NEIGHBOUR: 'it returns false'. Refute it at one input. -/
def outboxExactWrong : ChangeSpec := { name := "outboxExact", fn := fun _ => fun
  | [d1, d2] => { results := [.lit (.bool false)], args := [d1, d2] }
  | _ => none }
def OutboxExactWrongFalsely : Prop := outboxExactRow.holds Tryz.pinned (OpenSpec.ofChange outboxExactWrong)

/-- 'courierlaw14.OutboxPair': WHATEVER THE INPUT: true; the input reads as it did. -/
def outboxPairSpec : ChangeSpec := { name := "outboxPair", fn := fun _ => fun
  | [d1, d2, d3, d4] => { results := [.lit (.bool true)], args := [d1, d2, d3, d4] }
  | _ => none }
def outboxPairRow : OpenClaim := { program := "ytoijhecphgdfnaagreatdoor", sum := "7041e51860886a2ad0b0f986a651e3f0e31c6a764bf9a524470d7098e356313d", func := "courier/courierlaw14.OutboxPair", spec := "outboxPair", unfollowed := true, recurses := true, named := ["courier/decide.codes"], apart := false, laid := [("courier/decide.codes", laid_courier_decide_codes)] }
def OutboxPairSaid : Prop := outboxPairRow.holds Tryz.pinned (OpenSpec.ofChange outboxPairSpec)

/-- ITS FALSE NEIGHBOUR: 'it returns false'. Refute it at one input. -/
def outboxPairWrong : ChangeSpec := { name := "outboxPair", fn := fun _ => fun
  | [d1, d2, d3, d4] => { results := [.lit (.bool false)], args := [d1, d2, d3, d4] }
  | _ => none }
def OutboxPairWrongFalsely : Prop := outboxPairRow.holds Tryz.pinned (OpenSpec.ofChange outboxPairWrong)

/- THE SECOND FORM. 'bulk': how many values and letters a reading holds, each counted each time it is reached (what is shared counts as often as it is met; a slice's spare places count too). A statement '..UptoSaid' is the law's where the arguments, and the package variables that the reading takes, are together of bulk at most 1048576: NARROWER than '..Said'. Prove '..Said' where nothing that the law and all that it calls make is longer than what came in: it says more and counts as full. Else prove '..UptoSaid'. A law counts once. -/
mutual
def uptoBulk {H : Type} : DataW H → Nat
  | .lit (.string bytes) => bytes.length + 1
  | .lit _ => 1
  | .nil => 1
  | .ptr d => uptoBulk d + 1
  | .slice elems spare => uptoBulkAll elems + uptoBulkAll spare + 1
  | .agg parts => uptoBulkAll parts + 1
  | .iface _ d => uptoBulk d + 1
  | .map entries => uptoBulkEntries entries + 1
  | .held _ => 1
def uptoBulkAll {H : Type} : List (DataW H) → Nat
  | [] => 0
  | d :: r => uptoBulk d + uptoBulkAll r
def uptoBulkEntries {H : Type} : List (Lit × DataW H) → Nat
  | [] => 0
  | x :: r => uptoBulkEntry x + uptoBulkEntries r
def uptoBulkEntry {H : Type} : Lit × DataW H → Nat
  | (.string bytes, d) => bytes.length + uptoBulk d + 1
  | (_, d) => uptoBulk d + 1
 end
def uptoSmall : (H : Type) → List (DataW H) → Bool := fun _ ds => decide (uptoBulkAll ds ≤ 1048576)
def OpenSpec.upto (s : _root_.Go.ChangeSpec) : _root_.Go.OpenSpec := { _root_.Go.OpenSpec.ofChange s with cond := some uptoSmall }

/-- 'courierlaw14.OutboxCalls', WHERE WHAT IT READS IS OF BULK AT MOST 1048576: true; the input reads as it did. -/
def outboxCallsUptoRow : OpenClaim := { program := "ytoijhecphgdfnaagreatdoor", sum := "7041e51860886a2ad0b0f986a651e3f0e31c6a764bf9a524470d7098e356313d", func := "courier/courierlaw14.OutboxCalls", spec := "outboxCalls", unfollowed := true, recurses := true, named := ["courier/decide.codes"], apart := false, laid := [("courier/decide.codes", laid_courier_decide_codes)], narrowed := true }
def OutboxCallsUptoSaid : Prop := outboxCallsUptoRow.holds Tryz.pinned (OpenSpec.upto outboxCallsSpec)

/-- 'courierlaw14.OutboxExact', WHERE WHAT IT READS IS OF BULK AT MOST 1048576: true; the input reads as it did. -/
def outboxExactUptoRow : OpenClaim := { program := "ytoijhecphgdfnaagreatdoor", sum := "7041e51860886a2ad0b0f986a651e3f0e31c6a764bf9a524470d7098e356313d", func := "courier/courierlaw14.OutboxExact", spec := "outboxExact", unfollowed := true, recurses := true, named := ["courier/decide.codes"], apart := false, laid := [("courier/decide.codes", laid_courier_decide_codes)], narrowed := true }
def OutboxExactUptoSaid : Prop := outboxExactUptoRow.holds Tryz.pinned (OpenSpec.upto outboxExactSpec)

/-- 'courierlaw14.OutboxPair', WHERE WHAT IT READS IS OF BULK AT MOST 1048576: true; the input reads as it did. -/
def outboxPairUptoRow : OpenClaim := { program := "ytoijhecphgdfnaagreatdoor", sum := "7041e51860886a2ad0b0f986a651e3f0e31c6a764bf9a524470d7098e356313d", func := "courier/courierlaw14.OutboxPair", spec := "outboxPair", unfollowed := true, recurses := true, named := ["courier/decide.codes"], apart := false, laid := [("courier/decide.codes", laid_courier_decide_codes)], narrowed := true }
def OutboxPairUptoSaid : Prop := outboxPairUptoRow.holds Tryz.pinned (OpenSpec.upto outboxPairSpec)

end Rows
end Go.Proofs.YtoijhecphgdfnaaGreatDoor
