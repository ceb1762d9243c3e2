/-
  DecideEnds: the card, of the program that landed.
-/
import Derived.Test.YtjmjimbhoncidaaDoorDecideEndsProof
import Derived.Test.YtjmjimbhoncidaaDoorDcProg
namespace Go.Proofs.YtjmjimbhoncidaaDoor
theorem decideEnds_card : Rows.DecideEndsCardSaid := decideEnds_of decOk
end Go.Proofs.YtjmjimbhoncidaaDoor
#print axioms Go.Proofs.YtjmjimbhoncidaaDoor.decideEnds_card
