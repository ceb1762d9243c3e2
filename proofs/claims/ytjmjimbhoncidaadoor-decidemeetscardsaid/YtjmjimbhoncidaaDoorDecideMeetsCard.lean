/-
  DecideMeets: the card, of the program that landed.
-/
import Derived.Test.YtjmjimbhoncidaaDoorDecideMeetsProof
import Derived.Test.YtjmjimbhoncidaaDoorDcProg
namespace Go.Proofs.YtjmjimbhoncidaaDoor
theorem decideMeets_card : Rows.DecideMeetsCardSaid := decideMeets_of decOk
end Go.Proofs.YtjmjimbhoncidaaDoor
#print axioms Go.Proofs.YtjmjimbhoncidaaDoor.decideMeets_card
