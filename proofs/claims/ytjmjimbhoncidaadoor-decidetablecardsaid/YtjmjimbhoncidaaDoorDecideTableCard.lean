/-
  DecideTable: the card, of the program that landed.
-/
import Derived.Test.YtjmjimbhoncidaaDoorDecideTableProof
import Derived.Test.YtjmjimbhoncidaaDoorDcProg
namespace Go.Proofs.YtjmjimbhoncidaaDoor
theorem decideTable_card : Rows.DecideTableCardSaid := decideTable_of decC
end Go.Proofs.YtjmjimbhoncidaaDoor
#print axioms Go.Proofs.YtjmjimbhoncidaaDoor.decideTable_card
