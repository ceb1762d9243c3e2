/-
  NARROWER THAN 'FOR EVERY INPUT', by the rows' own cells (each row's printed sentence says how): DecideModes: laid · DecideTable: laid · DecideStarts: laid · DecideTakes: laid · DecideDues: laid · DecideHears: laid · DecideEnds: laid · DecideMeets: laid · DecideExact: laid.
  DERIVED. THE GIVEN ROWS OF THIS SEAT. 9 by the template 'for every input the law returns true; each argument reads behind the call as it read before'; 0 by the template 'total and deterministic' (their statements: YtjmjimbhoncidaaDoorTotals.lean).
  GIVEN WITH THE SEED: the statements are not yours to turn. If you find one false, say at which input.
  Laid BY PROGRAM, IN A SANDBOX (cutbox-rows.mjs): the forced cells as the released guide's own fill.sh prints them over the translation e323d83a29701171… (all of the seat's roots in one cut). By AI agents, Wed Nov 11 2026. No macro, syntax, notation, axiom, sorry.
-/
import Derived.Test.YtjmjimbhoncidaaDoorChecked
import GoSem.Claim
import GoSem.ClaimJoined
import GoSem.ClaimMapViews
import Derived.JoinedTies
import Derived.KernelRfl
namespace Go.Proofs.YtjmjimbhoncidaaDoor
/- THE CELL 'sum', in the pinned program and in every row, IS THE sha256 OF THE DUMP (.gsa) THAT YtjmjimbhoncidaaDoorProg.lean LOADS. Nothing in Lean hashes anything: it is a label: what it is worth is what the hold of that sum in a sandbox is worth. -/
noncomputable def Tryd.pinned : Pinned := { name := "ytjmjimbhoncidaadoor", sum := "e323d83a297011711873f6c9f5b65343be05dbcf1a75acb0a8a004b7ce142c73", checked := Tryd.checked }
namespace Rows
def none {H : Type} : Left H := { results := [], args := [] }

/- WHAT THE LISTED PACKAGE-LEVEL VARIABLES READ AS WHEN THE CALL BEGINS. Each datum BY PROGRAM (the guide's laid-datum.mjs) off the statement by which the dump's own 'gosem.cut.vars' lays the variable. In a bare row this is a premise. The card (YtjmjimbhoncidaaDoorCards.lean) ties it to the program's text. -/
def laid_courier_decide_words {H : Type} : DataW H := .agg [.lit (.string [78, 69]), .lit (.string [65, 76]), .lit (.string [69, 82]), .lit (.string [83, 85])]
def laid_courier_decide_codes {H : Type} : DataW H := .agg [.agg [.lit (.string [67, 65]), .lit (.bool true), .lit (.int .i64 3)], .agg [.lit (.string [67, 69]), .lit (.bool true), .lit (.int .i64 2)], .agg [.lit (.string [67, 82]), .lit (.bool true), .lit (.int .i64 2)], .agg [.lit (.string [65, 65]), .lit (.bool false), .lit (.int .i64 3)], .agg [.lit (.string [65, 69]), .lit (.bool false), .lit (.int .i64 2)], .agg [.lit (.string [65, 82]), .lit (.bool false), .lit (.int .i64 2)]]

/-- 'courierlaw11.DecideModes': WHATEVER THE INPUT: true; the input reads as it did. -/
def decideModesSpec : ChangeSpec := { name := "decideModes", fn := fun _ => fun
  | [d1, d2, d3] => { results := [.lit (.bool true)], args := [d1, d2, d3] }
  | _ => none }
def decideModesRow : OpenClaim := { program := "ytjmjimbhoncidaadoor", sum := "e323d83a297011711873f6c9f5b65343be05dbcf1a75acb0a8a004b7ce142c73", func := "courier/courierlaw11.DecideModes", spec := "decideModes", named := ["courier/decide.words"], apart := false, laid := [("courier/decide.words", laid_courier_decide_words)] }
def DecideModesSaid : Prop := decideModesRow.holds Tryd.pinned (OpenSpec.ofChange decideModesSpec)

/-- ITS FALSE NEIGHBOUR: 'it returns false'. Refute it at one input. -/
def decideModesWrong : ChangeSpec := { name := "decideModes", fn := fun _ => fun
  | [d1, d2, d3] => { results := [.lit (.bool false)], args := [d1, d2, d3] }
  | _ => none }
def DecideModesWrongFalsely : Prop := decideModesRow.holds Tryd.pinned (OpenSpec.ofChange decideModesWrong)

/-- 'courierlaw11.DecideTable': WHATEVER THE INPUT: true; the input reads as it did. -/
def decideTableSpec : ChangeSpec := { name := "decideTable", fn := fun _ => fun
  | [d1, d2, d3] => { results := [.lit (.bool true)], args := [d1, d2, d3] }
  | _ => none }
def decideTableRow : OpenClaim := { program := "ytjmjimbhoncidaadoor", sum := "e323d83a297011711873f6c9f5b65343be05dbcf1a75acb0a8a004b7ce142c73", func := "courier/courierlaw11.DecideTable", spec := "decideTable", named := ["courier/decide.codes"], apart := false, laid := [("courier/decide.codes", laid_courier_decide_codes)] }
def DecideTableSaid : Prop := decideTableRow.holds Tryd.pinned (OpenSpec.ofChange decideTableSpec)

/-- ITS FALSE NEIGHBOUR: 'it returns false'. Refute it at one input. -/
def decideTableWrong : ChangeSpec := { name := "decideTable", fn := fun _ => fun
  | [d1, d2, d3] => { results := [.lit (.bool false)], args := [d1, d2, d3] }
  | _ => none }
def DecideTableWrongFalsely : Prop := decideTableRow.holds Tryd.pinned (OpenSpec.ofChange decideTableWrong)

/-- 'courierlaw11.DecideStarts': WHATEVER THE INPUT: true; the input reads as it did. -/
def decideStartsSpec : ChangeSpec := { name := "decideStarts", fn := fun _ => fun
  | [d1, d2, d3] => { results := [.lit (.bool true)], args := [d1, d2, d3] }
  | _ => none }
def decideStartsRow : OpenClaim := { program := "ytjmjimbhoncidaadoor", sum := "e323d83a297011711873f6c9f5b65343be05dbcf1a75acb0a8a004b7ce142c73", func := "courier/courierlaw11.DecideStarts", spec := "decideStarts", named := ["courier/decide.codes"], apart := false, laid := [("courier/decide.codes", laid_courier_decide_codes)] }
def DecideStartsSaid : Prop := decideStartsRow.holds Tryd.pinned (OpenSpec.ofChange decideStartsSpec)

/-- ITS FALSE NEIGHBOUR: 'it returns false'. Refute it at one input. -/
def decideStartsWrong : ChangeSpec := { name := "decideStarts", fn := fun _ => fun
  | [d1, d2, d3] => { results := [.lit (.bool false)], args := [d1, d2, d3] }
  | _ => none }
def DecideStartsWrongFalsely : Prop := decideStartsRow.holds Tryd.pinned (OpenSpec.ofChange decideStartsWrong)

/-- 'courierlaw11.DecideTakes': WHATEVER THE INPUT: true; the input reads as it did. -/
def decideTakesSpec : ChangeSpec := { name := "decideTakes", fn := fun _ => fun
  | [d1, d2, d3] => { results := [.lit (.bool true)], args := [d1, d2, d3] }
  | _ => none }
def decideTakesRow : OpenClaim := { program := "ytjmjimbhoncidaadoor", sum := "e323d83a297011711873f6c9f5b65343be05dbcf1a75acb0a8a004b7ce142c73", func := "courier/courierlaw11.DecideTakes", spec := "decideTakes", named := ["courier/decide.codes"], apart := false, laid := [("courier/decide.codes", laid_courier_decide_codes)] }
def DecideTakesSaid : Prop := decideTakesRow.holds Tryd.pinned (OpenSpec.ofChange decideTakesSpec)

/-- ITS FALSE NEIGHBOUR: 'it returns false'. Refute it at one input. -/
def decideTakesWrong : ChangeSpec := { name := "decideTakes", fn := fun _ => fun
  | [d1, d2, d3] => { results := [.lit (.bool false)], args := [d1, d2, d3] }
  | _ => none }
def DecideTakesWrongFalsely : Prop := decideTakesRow.holds Tryd.pinned (OpenSpec.ofChange decideTakesWrong)

/-- 'courierlaw11.DecideDues': WHATEVER THE INPUT: true; the input reads as it did. -/
def decideDuesSpec : ChangeSpec := { name := "decideDues", fn := fun _ => fun
  | [d1, d2] => { results := [.lit (.bool true)], args := [d1, d2] }
  | _ => none }
def decideDuesRow : OpenClaim := { program := "ytjmjimbhoncidaadoor", sum := "e323d83a297011711873f6c9f5b65343be05dbcf1a75acb0a8a004b7ce142c73", func := "courier/courierlaw11.DecideDues", spec := "decideDues", unfollowed := true, recurses := true, named := ["courier/decide.codes"], apart := false, laid := [("courier/decide.codes", laid_courier_decide_codes)] }
def DecideDuesSaid : Prop := decideDuesRow.holds Tryd.pinned (OpenSpec.ofChange decideDuesSpec)

/-- ITS FALSE NEIGHBOUR: 'it returns false'. Refute it at one input. -/
def decideDuesWrong : ChangeSpec := { name := "decideDues", fn := fun _ => fun
  | [d1, d2] => { results := [.lit (.bool false)], args := [d1, d2] }
  | _ => none }
def DecideDuesWrongFalsely : Prop := decideDuesRow.holds Tryd.pinned (OpenSpec.ofChange decideDuesWrong)

/-- 'courierlaw11.DecideHears': WHATEVER THE INPUT: true; the input reads as it did. -/
def decideHearsSpec : ChangeSpec := { name := "decideHears", fn := fun _ => fun
  | [d1, d2, d3, d4] => { results := [.lit (.bool true)], args := [d1, d2, d3, d4] }
  | _ => none }
def decideHearsRow : OpenClaim := { program := "ytjmjimbhoncidaadoor", sum := "e323d83a297011711873f6c9f5b65343be05dbcf1a75acb0a8a004b7ce142c73", func := "courier/courierlaw11.DecideHears", spec := "decideHears", unfollowed := true, recurses := true, named := ["courier/decide.codes"], apart := false, laid := [("courier/decide.codes", laid_courier_decide_codes)] }
def DecideHearsSaid : Prop := decideHearsRow.holds Tryd.pinned (OpenSpec.ofChange decideHearsSpec)

/-- ITS FALSE NEIGHBOUR: 'it returns false'. Refute it at one input. -/
def decideHearsWrong : ChangeSpec := { name := "decideHears", fn := fun _ => fun
  | [d1, d2, d3, d4] => { results := [.lit (.bool false)], args := [d1, d2, d3, d4] }
  | _ => none }
def DecideHearsWrongFalsely : Prop := decideHearsRow.holds Tryd.pinned (OpenSpec.ofChange decideHearsWrong)

/-- 'courierlaw11.DecideEnds': WHATEVER THE INPUT: true; the input reads as it did. -/
def decideEndsSpec : ChangeSpec := { name := "decideEnds", fn := fun _ => fun
  | [d1, d2, d3, d4] => { results := [.lit (.bool true)], args := [d1, d2, d3, d4] }
  | _ => none }
def decideEndsRow : OpenClaim := { program := "ytjmjimbhoncidaadoor", sum := "e323d83a297011711873f6c9f5b65343be05dbcf1a75acb0a8a004b7ce142c73", func := "courier/courierlaw11.DecideEnds", spec := "decideEnds", unfollowed := true, recurses := true, named := ["courier/decide.words", "courier/decide.codes"], apart := false, laid := [("courier/decide.words", laid_courier_decide_words), ("courier/decide.codes", laid_courier_decide_codes)] }
def DecideEndsSaid : Prop := decideEndsRow.holds Tryd.pinned (OpenSpec.ofChange decideEndsSpec)

/-- ITS FALSE NEIGHBOUR: 'it returns false'. Refute it at one input. -/
def decideEndsWrong : ChangeSpec := { name := "decideEnds", fn := fun _ => fun
  | [d1, d2, d3, d4] => { results := [.lit (.bool false)], args := [d1, d2, d3, d4] }
  | _ => none }
def DecideEndsWrongFalsely : Prop := decideEndsRow.holds Tryd.pinned (OpenSpec.ofChange decideEndsWrong)

/-- 'courierlaw11.DecideMeets': WHATEVER THE INPUT: true; the input reads as it did. -/
def decideMeetsSpec : ChangeSpec := { name := "decideMeets", fn := fun _ => fun
  | [d1, d2, d3] => { results := [.lit (.bool true)], args := [d1, d2, d3] }
  | _ => none }
def decideMeetsRow : OpenClaim := { program := "ytjmjimbhoncidaadoor", sum := "e323d83a297011711873f6c9f5b65343be05dbcf1a75acb0a8a004b7ce142c73", func := "courier/courierlaw11.DecideMeets", spec := "decideMeets", unfollowed := true, recurses := true, named := ["courier/decide.words", "courier/decide.codes"], apart := false, laid := [("courier/decide.words", laid_courier_decide_words), ("courier/decide.codes", laid_courier_decide_codes)] }
def DecideMeetsSaid : Prop := decideMeetsRow.holds Tryd.pinned (OpenSpec.ofChange decideMeetsSpec)

/-- ITS FALSE NEIGHBOUR: 'it returns false'. Refute it at one input. -/
def decideMeetsWrong : ChangeSpec := { name := "decideMeets", fn := fun _ => fun
  | [d1, d2, d3] => { results := [.lit (.bool false)], args := [d1, d2, d3] }
  | _ => none }
def DecideMeetsWrongFalsely : Prop := decideMeetsRow.holds Tryd.pinned (OpenSpec.ofChange decideMeetsWrong)

/-- 'courierlaw11.DecideExact': WHATEVER THE INPUT: true; the input reads as it did. -/
def decideExactSpec : ChangeSpec := { name := "decideExact", fn := fun _ => fun
  | [d] => { results := [.lit (.bool true)], args := [d] }
  | _ => none }
def decideExactRow : OpenClaim := { program := "ytjmjimbhoncidaadoor", sum := "e323d83a297011711873f6c9f5b65343be05dbcf1a75acb0a8a004b7ce142c73", func := "courier/courierlaw11.DecideExact", spec := "decideExact", unfollowed := true, recurses := true, named := ["courier/decide.codes"], apart := false, laid := [("courier/decide.codes", laid_courier_decide_codes)] }
def DecideExactSaid : Prop := decideExactRow.holds Tryd.pinned (OpenSpec.ofChange decideExactSpec)

/-- ITS FALSE NEIGHBOUR: 'it returns false'. Refute it at one input. -/
def decideExactWrong : ChangeSpec := { name := "decideExact", fn := fun _ => fun
  | [d] => { results := [.lit (.bool false)], args := [d] }
  | _ => none }
def DecideExactWrongFalsely : Prop := decideExactRow.holds Tryd.pinned (OpenSpec.ofChange decideExactWrong)

/- THE SECOND FORM. 'bulk': how many values and letters a reading holds, each counted each time it is reached (what is shared counts as often as it is met; a slice's spare places count too). A statement '..UptoSaid' is the law's where the arguments, and the package variables that the reading takes, are together of bulk at most 1048576: NARROWER than '..Said'. Prove '..Said' where nothing that the law and all that it calls make is longer than what came in: it says more and counts as full. Else prove '..UptoSaid'. A law counts once. -/
mutual
def uptoBulk {H : Type} : DataW H → Nat
  | .lit (.string bytes) => bytes.length + 1
  | .lit _ => 1
  | .nil => 1
  | .ptr d => uptoBulk d + 1
  | .slice elems spare => uptoBulkAll elems + uptoBulkAll spare + 1
  | .agg parts => uptoBulkAll parts + 1
  | .iface _ d => uptoBulk d + 1
  | .map entries => uptoBulkEntries entries + 1
  | .held _ => 1
def uptoBulkAll {H : Type} : List (DataW H) → Nat
  | [] => 0
  | d :: r => uptoBulk d + uptoBulkAll r
def uptoBulkEntries {H : Type} : List (Lit × DataW H) → Nat
  | [] => 0
  | x :: r => uptoBulkEntry x + uptoBulkEntries r
def uptoBulkEntry {H : Type} : Lit × DataW H → Nat
  | (.string bytes, d) => bytes.length + uptoBulk d + 1
  | (_, d) => uptoBulk d + 1
 end
def uptoSmall : (H : Type) → List (DataW H) → Bool := fun _ ds => decide (uptoBulkAll ds ≤ 1048576)
def OpenSpec.upto (s : _root_.Go.ChangeSpec) : _root_.Go.OpenSpec := { _root_.Go.OpenSpec.ofChange s with cond := some uptoSmall }

/-- 'courierlaw11.DecideModes', WHERE WHAT IT READS IS OF BULK AT MOST 1048576: true; the input reads as it did. -/
def decideModesUptoRow : OpenClaim := { program := "ytjmjimbhoncidaadoor", sum := "e323d83a297011711873f6c9f5b65343be05dbcf1a75acb0a8a004b7ce142c73", func := "courier/courierlaw11.DecideModes", spec := "decideModes", named := ["courier/decide.words"], apart := false, laid := [("courier/decide.words", laid_courier_decide_words)], narrowed := true }
def DecideModesUptoSaid : Prop := decideModesUptoRow.holds Tryd.pinned (OpenSpec.upto decideModesSpec)

/-- 'courierlaw11.DecideTable', WHERE WHAT IT READS IS OF BULK AT MOST 1048576: true; the input reads as it did. -/
def decideTableUptoRow : OpenClaim := { program := "ytjmjimbhoncidaadoor", sum := "e323d83a297011711873f6c9f5b65343be05dbcf1a75acb0a8a004b7ce142c73", func := "courier/courierlaw11.DecideTable", spec := "decideTable", named := ["courier/decide.codes"], apart := false, laid := [("courier/decide.codes", laid_courier_decide_codes)], narrowed := true }
def DecideTableUptoSaid : Prop := decideTableUptoRow.holds Tryd.pinned (OpenSpec.upto decideTableSpec)

/-- 'courierlaw11.DecideStarts', WHERE WHAT IT READS IS OF BULK AT MOST 1048576: true; the input reads as it did. -/
def decideStartsUptoRow : OpenClaim := { program := "ytjmjimbhoncidaadoor", sum := "e323d83a297011711873f6c9f5b65343be05dbcf1a75acb0a8a004b7ce142c73", func := "courier/courierlaw11.DecideStarts", spec := "decideStarts", named := ["courier/decide.codes"], apart := false, laid := [("courier/decide.codes", laid_courier_decide_codes)], narrowed := true }
def DecideStartsUptoSaid : Prop := decideStartsUptoRow.holds Tryd.pinned (OpenSpec.upto decideStartsSpec)

/-- 'courierlaw11.DecideTakes', WHERE WHAT IT READS IS OF BULK AT MOST 1048576: true; the input reads as it did. -/
def decideTakesUptoRow : OpenClaim := { program := "ytjmjimbhoncidaadoor", sum := "e323d83a297011711873f6c9f5b65343be05dbcf1a75acb0a8a004b7ce142c73", func := "courier/courierlaw11.DecideTakes", spec := "decideTakes", named := ["courier/decide.codes"], apart := false, laid := [("courier/decide.codes", laid_courier_decide_codes)], narrowed := true }
def DecideTakesUptoSaid : Prop := decideTakesUptoRow.holds Tryd.pinned (OpenSpec.upto decideTakesSpec)

/-- 'courierlaw11.DecideDues', WHERE WHAT IT READS IS OF BULK AT MOST 1048576: true; the input reads as it did. -/
def decideDuesUptoRow : OpenClaim := { program := "ytjmjimbhoncidaadoor", sum := "e323d83a297011711873f6c9f5b65343be05dbcf1a75acb0a8a004b7ce142c73", func := "courier/courierlaw11.DecideDues", spec := "decideDues", unfollowed := true, recurses := true, named := ["courier/decide.codes"], apart := false, laid := [("courier/decide.codes", laid_courier_decide_codes)], narrowed := true }
def DecideDuesUptoSaid : Prop := decideDuesUptoRow.holds Tryd.pinned (OpenSpec.upto decideDuesSpec)

/-- 'courierlaw11.DecideHears', WHERE WHAT IT READS IS OF BULK AT MOST 1048576: true; the input reads as it did. -/
def decideHearsUptoRow : OpenClaim := { program := "ytjmjimbhoncidaadoor", sum := "e323d83a297011711873f6c9f5b65343be05dbcf1a75acb0a8a004b7ce142c73", func := "courier/courierlaw11.DecideHears", spec := "decideHears", unfollowed := true, recurses := true, named := ["courier/decide.codes"], apart := false, laid := [("courier/decide.codes", laid_courier_decide_codes)], narrowed := true }
def DecideHearsUptoSaid : Prop := decideHearsUptoRow.holds Tryd.pinned (OpenSpec.upto decideHearsSpec)

/-- 'courierlaw11.DecideEnds', WHERE WHAT IT READS IS OF BULK AT MOST 1048576: true; the input reads as it did. -/
def decideEndsUptoRow : OpenClaim := { program := "ytjmjimbhoncidaadoor", sum := "e323d83a297011711873f6c9f5b65343be05dbcf1a75acb0a8a004b7ce142c73", func := "courier/courierlaw11.DecideEnds", spec := "decideEnds", unfollowed := true, recurses := true, named := ["courier/decide.words", "courier/decide.codes"], apart := false, laid := [("courier/decide.words", laid_courier_decide_words), ("courier/decide.codes", laid_courier_decide_codes)], narrowed := true }
def DecideEndsUptoSaid : Prop := decideEndsUptoRow.holds Tryd.pinned (OpenSpec.upto decideEndsSpec)

/-- 'courierlaw11.DecideMeets', WHERE WHAT IT READS IS OF BULK AT MOST 1048576: true; the input reads as it did. -/
def decideMeetsUptoRow : OpenClaim := { program := "ytjmjimbhoncidaadoor", sum := "e323d83a297011711873f6c9f5b65343be05dbcf1a75acb0a8a004b7ce142c73", func := "courier/courierlaw11.DecideMeets", spec := "decideMeets", unfollowed := true, recurses := true, named := ["courier/decide.words", "courier/decide.codes"], apart := false, laid := [("courier/decide.words", laid_courier_decide_words), ("courier/decide.codes", laid_courier_decide_codes)], narrowed := true }
def DecideMeetsUptoSaid : Prop := decideMeetsUptoRow.holds Tryd.pinned (OpenSpec.upto decideMeetsSpec)

/-- 'courierlaw11.DecideExact', WHERE WHAT IT READS IS OF BULK AT MOST 1048576: true; the input reads as it did. -/
def decideExactUptoRow : OpenClaim := { program := "ytjmjimbhoncidaadoor", sum := "e323d83a297011711873f6c9f5b65343be05dbcf1a75acb0a8a004b7ce142c73", func := "courier/courierlaw11.DecideExact", spec := "decideExact", unfollowed := true, recurses := true, named := ["courier/decide.codes"], apart := false, laid := [("courier/decide.codes", laid_courier_decide_codes)], narrowed := true }
def DecideExactUptoSaid : Prop := decideExactUptoRow.holds Tryd.pinned (OpenSpec.upto decideExactSpec)

end Rows
end Go.Proofs.YtjmjimbhoncidaaDoor
