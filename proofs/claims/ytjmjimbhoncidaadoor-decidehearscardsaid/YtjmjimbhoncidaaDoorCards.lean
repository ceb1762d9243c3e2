/-
  DERIVED. GIVEN WITH THE SEED: THE CARDS: each row of YtjmjimbhoncidaaDoorRows.lean that lists a variable, with what it lists TIED to the program's text (the seventh form; the later family's looks); each row that meets fmt, with fmt's text TOLD by the authors' own Lean function (tested against real Go, not proved from fmt's source: count such statements apart). THE CARD IS WHAT COUNTS. Prove the row's statement (the work); the ties are given (YtjmjimbhoncidaaDoorTie.lean); close each card by the builder's one call (the guide's Derived/Test/ToyasCard.lean, 'card_holds'). Laid BY PROGRAM, IN A SANDBOX (cutbox-door.mjs). By AI agents, Wed Nov 11 2026. No macro, syntax, notation, axiom, sorry.
-/
import Derived.Test.YtjmjimbhoncidaaDoorRows
import GoSem.ClaimSeven
namespace Go.Proofs.YtjmjimbhoncidaaDoor
namespace Rows

/-- THE TIED CARD OF 'courierlaw11.DecideModes'. -/
def decideModesCard : Claim7 := { stood := { row := decideModesRow, standIns := [], harness := (true, "e2aabaa2bbdca9c6cc329e5ab86ae4ede6783dfce36ea9aab755071d2fa43fc5"), looks := true }, kinds := [], alts := [], laidByText := true, laidKinds := [.data], laidTests := true, laidLooks := .later }
def DecideModesCardSaid : Prop := Claim7.holds Tryd.pinned (.plain (OpenSpec.ofChange decideModesSpec)) decideModesCard

/-- THE TIED CARD OF 'courierlaw11.DecideTable'. -/
def decideTableCard : Claim7 := { stood := { row := decideTableRow, standIns := [], harness := (true, "e2aabaa2bbdca9c6cc329e5ab86ae4ede6783dfce36ea9aab755071d2fa43fc5"), looks := true }, kinds := [], alts := [], laidByText := true, laidKinds := [.data], laidTests := true, laidLooks := .later }
def DecideTableCardSaid : Prop := Claim7.holds Tryd.pinned (.plain (OpenSpec.ofChange decideTableSpec)) decideTableCard

/-- THE TIED CARD OF 'courierlaw11.DecideStarts'. -/
def decideStartsCard : Claim7 := { stood := { row := decideStartsRow, standIns := [], harness := (true, "e2aabaa2bbdca9c6cc329e5ab86ae4ede6783dfce36ea9aab755071d2fa43fc5"), looks := true }, kinds := [], alts := [], laidByText := true, laidKinds := [.data], laidTests := true, laidLooks := .later }
def DecideStartsCardSaid : Prop := Claim7.holds Tryd.pinned (.plain (OpenSpec.ofChange decideStartsSpec)) decideStartsCard

/-- THE TIED CARD OF 'courierlaw11.DecideTakes'. -/
def decideTakesCard : Claim7 := { stood := { row := decideTakesRow, standIns := [], harness := (true, "e2aabaa2bbdca9c6cc329e5ab86ae4ede6783dfce36ea9aab755071d2fa43fc5"), looks := true }, kinds := [], alts := [], laidByText := true, laidKinds := [.data], laidTests := true, laidLooks := .later }
def DecideTakesCardSaid : Prop := Claim7.holds Tryd.pinned (.plain (OpenSpec.ofChange decideTakesSpec)) decideTakesCard

/-- THE TIED CARD OF 'courierlaw11.DecideDues'. -/
def decideDuesCard : Claim7 := { stood := { row := decideDuesRow, standIns := [], harness := (true, "e2aabaa2bbdca9c6cc329e5ab86ae4ede6783dfce36ea9aab755071d2fa43fc5"), looks := true }, kinds := [], alts := [], laidByText := true, laidKinds := [.data], laidTests := true, laidLooks := .later }
def DecideDuesCardSaid : Prop := Claim7.holds Tryd.pinned (.plain (OpenSpec.ofChange decideDuesSpec)) decideDuesCard

/-- THE TIED CARD OF 'courierlaw11.DecideHears'. -/
def decideHearsCard : Claim7 := { stood := { row := decideHearsRow, standIns := [], harness := (true, "e2aabaa2bbdca9c6cc329e5ab86ae4ede6783dfce36ea9aab755071d2fa43fc5"), looks := true }, kinds := [], alts := [], laidByText := true, laidKinds := [.data], laidTests := true, laidLooks := .later }
def DecideHearsCardSaid : Prop := Claim7.holds Tryd.pinned (.plain (OpenSpec.ofChange decideHearsSpec)) decideHearsCard

/-- THE TIED CARD OF 'courierlaw11.DecideEnds'. -/
def decideEndsCard : Claim7 := { stood := { row := decideEndsRow, standIns := [], harness := (true, "e2aabaa2bbdca9c6cc329e5ab86ae4ede6783dfce36ea9aab755071d2fa43fc5"), looks := true }, kinds := [], alts := [], laidByText := true, laidKinds := [.data, .data], laidTests := true, laidLooks := .later }
def DecideEndsCardSaid : Prop := Claim7.holds Tryd.pinned (.plain (OpenSpec.ofChange decideEndsSpec)) decideEndsCard

/-- THE TIED CARD OF 'courierlaw11.DecideMeets'. -/
def decideMeetsCard : Claim7 := { stood := { row := decideMeetsRow, standIns := [], harness := (true, "e2aabaa2bbdca9c6cc329e5ab86ae4ede6783dfce36ea9aab755071d2fa43fc5"), looks := true }, kinds := [], alts := [], laidByText := true, laidKinds := [.data, .data], laidTests := true, laidLooks := .later }
def DecideMeetsCardSaid : Prop := Claim7.holds Tryd.pinned (.plain (OpenSpec.ofChange decideMeetsSpec)) decideMeetsCard

/-- THE TIED CARD OF 'courierlaw11.DecideExact'. -/
def decideExactCard : Claim7 := { stood := { row := decideExactRow, standIns := [], harness := (true, "e2aabaa2bbdca9c6cc329e5ab86ae4ede6783dfce36ea9aab755071d2fa43fc5"), looks := true }, kinds := [], alts := [], laidByText := true, laidKinds := [.data], laidTests := true, laidLooks := .later }
def DecideExactCardSaid : Prop := Claim7.holds Tryd.pinned (.plain (OpenSpec.ofChange decideExactSpec)) decideExactCard

/-- THE SECOND FORM's CARD OF 'courierlaw11.DecideModes'. -/
def decideModesUptoCard : Claim7 := { stood := { row := decideModesUptoRow, standIns := [], harness := (true, "e2aabaa2bbdca9c6cc329e5ab86ae4ede6783dfce36ea9aab755071d2fa43fc5"), looks := true }, kinds := [], alts := [], laidByText := true, laidKinds := [.data], laidTests := true, laidLooks := .later }
def DecideModesUptoCardSaid : Prop := Claim7.holds Tryd.pinned (.plain (OpenSpec.upto decideModesSpec)) decideModesUptoCard

/-- THE SECOND FORM's CARD OF 'courierlaw11.DecideTable'. -/
def decideTableUptoCard : Claim7 := { stood := { row := decideTableUptoRow, standIns := [], harness := (true, "e2aabaa2bbdca9c6cc329e5ab86ae4ede6783dfce36ea9aab755071d2fa43fc5"), looks := true }, kinds := [], alts := [], laidByText := true, laidKinds := [.data], laidTests := true, laidLooks := .later }
def DecideTableUptoCardSaid : Prop := Claim7.holds Tryd.pinned (.plain (OpenSpec.upto decideTableSpec)) decideTableUptoCard

/-- THE SECOND FORM's CARD OF 'courierlaw11.DecideStarts'. -/
def decideStartsUptoCard : Claim7 := { stood := { row := decideStartsUptoRow, standIns := [], harness := (true, "e2aabaa2bbdca9c6cc329e5ab86ae4ede6783dfce36ea9aab755071d2fa43fc5"), looks := true }, kinds := [], alts := [], laidByText := true, laidKinds := [.data], laidTests := true, laidLooks := .later }
def DecideStartsUptoCardSaid : Prop := Claim7.holds Tryd.pinned (.plain (OpenSpec.upto decideStartsSpec)) decideStartsUptoCard

/-- THE SECOND FORM's CARD OF 'courierlaw11.DecideTakes'. -/
def decideTakesUptoCard : Claim7 := { stood := { row := decideTakesUptoRow, standIns := [], harness := (true, "e2aabaa2bbdca9c6cc329e5ab86ae4ede6783dfce36ea9aab755071d2fa43fc5"), looks := true }, kinds := [], alts := [], laidByText := true, laidKinds := [.data], laidTests := true, laidLooks := .later }
def DecideTakesUptoCardSaid : Prop := Claim7.holds Tryd.pinned (.plain (OpenSpec.upto decideTakesSpec)) decideTakesUptoCard

/-- THE SECOND FORM's CARD OF 'courierlaw11.DecideDues'. -/
def decideDuesUptoCard : Claim7 := { stood := { row := decideDuesUptoRow, standIns := [], harness := (true, "e2aabaa2bbdca9c6cc329e5ab86ae4ede6783dfce36ea9aab755071d2fa43fc5"), looks := true }, kinds := [], alts := [], laidByText := true, laidKinds := [.data], laidTests := true, laidLooks := .later }
def DecideDuesUptoCardSaid : Prop := Claim7.holds Tryd.pinned (.plain (OpenSpec.upto decideDuesSpec)) decideDuesUptoCard

/-- THE SECOND FORM's CARD OF 'courierlaw11.DecideHears'. -/
def decideHearsUptoCard : Claim7 := { stood := { row := decideHearsUptoRow, standIns := [], harness := (true, "e2aabaa2bbdca9c6cc329e5ab86ae4ede6783dfce36ea9aab755071d2fa43fc5"), looks := true }, kinds := [], alts := [], laidByText := true, laidKinds := [.data], laidTests := true, laidLooks := .later }
def DecideHearsUptoCardSaid : Prop := Claim7.holds Tryd.pinned (.plain (OpenSpec.upto decideHearsSpec)) decideHearsUptoCard

/-- THE SECOND FORM's CARD OF 'courierlaw11.DecideEnds'. -/
def decideEndsUptoCard : Claim7 := { stood := { row := decideEndsUptoRow, standIns := [], harness := (true, "e2aabaa2bbdca9c6cc329e5ab86ae4ede6783dfce36ea9aab755071d2fa43fc5"), looks := true }, kinds := [], alts := [], laidByText := true, laidKinds := [.data, .data], laidTests := true, laidLooks := .later }
def DecideEndsUptoCardSaid : Prop := Claim7.holds Tryd.pinned (.plain (OpenSpec.upto decideEndsSpec)) decideEndsUptoCard

/-- THE SECOND FORM's CARD OF 'courierlaw11.DecideMeets'. -/
def decideMeetsUptoCard : Claim7 := { stood := { row := decideMeetsUptoRow, standIns := [], harness := (true, "e2aabaa2bbdca9c6cc329e5ab86ae4ede6783dfce36ea9aab755071d2fa43fc5"), looks := true }, kinds := [], alts := [], laidByText := true, laidKinds := [.data, .data], laidTests := true, laidLooks := .later }
def DecideMeetsUptoCardSaid : Prop := Claim7.holds Tryd.pinned (.plain (OpenSpec.upto decideMeetsSpec)) decideMeetsUptoCard

/-- THE SECOND FORM's CARD OF 'courierlaw11.DecideExact'. -/
def decideExactUptoCard : Claim7 := { stood := { row := decideExactUptoRow, standIns := [], harness := (true, "e2aabaa2bbdca9c6cc329e5ab86ae4ede6783dfce36ea9aab755071d2fa43fc5"), looks := true }, kinds := [], alts := [], laidByText := true, laidKinds := [.data], laidTests := true, laidLooks := .later }
def DecideExactUptoCardSaid : Prop := Claim7.holds Tryd.pinned (.plain (OpenSpec.upto decideExactSpec)) decideExactUptoCard
end Rows
end Go.Proofs.YtjmjimbhoncidaaDoor
