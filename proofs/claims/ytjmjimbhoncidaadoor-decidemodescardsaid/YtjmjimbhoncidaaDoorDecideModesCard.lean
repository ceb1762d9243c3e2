/-
  DecideModes: the card, of the program that landed.
-/
import Derived.Test.YtjmjimbhoncidaaDoorDecideModesProof
import Derived.Test.YtjmjimbhoncidaaDoorDcProgA
namespace Go.Proofs.YtjmjimbhoncidaaDoor
theorem decideModes_card : Rows.DecideModesCardSaid := decideModes_of decW
end Go.Proofs.YtjmjimbhoncidaaDoor
#print axioms Go.Proofs.YtjmjimbhoncidaaDoor.decideModes_card
