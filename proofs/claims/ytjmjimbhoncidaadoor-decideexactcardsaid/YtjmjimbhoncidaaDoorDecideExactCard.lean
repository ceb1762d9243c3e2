/-
  DecideExact: the card, of the program that landed.
-/
import Derived.Test.YtjmjimbhoncidaaDoorDecideExactProof
import Derived.Test.YtjmjimbhoncidaaDoorDcProg
namespace Go.Proofs.YtjmjimbhoncidaaDoor
theorem decideExact_card : Rows.DecideExactCardSaid := decideExact_of decC
end Go.Proofs.YtjmjimbhoncidaaDoor
#print axioms Go.Proofs.YtjmjimbhoncidaaDoor.decideExact_card
