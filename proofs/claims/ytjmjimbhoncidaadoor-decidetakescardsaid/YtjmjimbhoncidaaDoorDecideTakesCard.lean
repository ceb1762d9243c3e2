/-
  DecideTakes: the card, of the program that landed.
-/
import Derived.Test.YtjmjimbhoncidaaDoorDecideTakesProof
import Derived.Test.YtjmjimbhoncidaaDoorDcProg
namespace Go.Proofs.YtjmjimbhoncidaaDoor
theorem decideTakes_card : Rows.DecideTakesCardSaid := decideTakes_of decC
end Go.Proofs.YtjmjimbhoncidaaDoor
#print axioms Go.Proofs.YtjmjimbhoncidaaDoor.decideTakes_card
