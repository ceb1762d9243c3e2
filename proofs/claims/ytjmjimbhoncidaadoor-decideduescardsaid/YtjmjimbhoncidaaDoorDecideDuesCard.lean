/-
  DecideDues: the card, of the program that landed.
-/
import Derived.Test.YtjmjimbhoncidaaDoorDecideDuesProof
import Derived.Test.YtjmjimbhoncidaaDoorDcProg
namespace Go.Proofs.YtjmjimbhoncidaaDoor
theorem decideDues_card : Rows.DecideDuesCardSaid := decideDues_of decC
end Go.Proofs.YtjmjimbhoncidaaDoor
#print axioms Go.Proofs.YtjmjimbhoncidaaDoor.decideDues_card
