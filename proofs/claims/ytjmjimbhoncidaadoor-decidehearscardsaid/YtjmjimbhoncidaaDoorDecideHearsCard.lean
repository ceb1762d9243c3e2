/-
  DecideHears: the card, of the program that landed.
-/
import Derived.Test.YtjmjimbhoncidaaDoorDecideHearsProof
import Derived.Test.YtjmjimbhoncidaaDoorDcProg
namespace Go.Proofs.YtjmjimbhoncidaaDoor
theorem decideHears_card : Rows.DecideHearsCardSaid := decideHears_of decC
end Go.Proofs.YtjmjimbhoncidaaDoor
#print axioms Go.Proofs.YtjmjimbhoncidaaDoor.decideHears_card
