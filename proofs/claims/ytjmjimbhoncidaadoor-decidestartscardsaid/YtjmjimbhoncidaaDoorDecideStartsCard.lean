/-
  DecideStarts: the card, of the program that landed.
-/
import Derived.Test.YtjmjimbhoncidaaDoorDecideStartsProof
import Derived.Test.YtjmjimbhoncidaaDoorDcProg
namespace Go.Proofs.YtjmjimbhoncidaaDoor
theorem decideStarts_card : Rows.DecideStartsCardSaid := decideStarts_of decC
end Go.Proofs.YtjmjimbhoncidaaDoor
#print axioms Go.Proofs.YtjmjimbhoncidaaDoor.decideStarts_card
