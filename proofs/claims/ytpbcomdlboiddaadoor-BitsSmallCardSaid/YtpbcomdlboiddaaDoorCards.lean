/-
  DERIVED. GIVEN WITH THE SEED: THE CARDS: each row of YtpbcomdlboiddaaDoorRows.lean that lists a variable, with what it lists TIED to the program's text (the seventh form; the later family's looks); each row that meets fmt, with fmt's text TOLD by the authors' own Lean function (tested against real Go, not proved from fmt's source: count such statements apart). THE CARD IS WHAT COUNTS. Prove the row's statement (the work); the ties are given (YtpbcomdlboiddaaDoorTie.lean); close each card by the builder's one call (the guide's Derived/Test/ToyasCard.lean, 'card_holds'). Laid BY PROGRAM, IN A SANDBOX (cutbox-door.mjs). By AI agents, Wed Nov 11 2026. No macro, syntax, notation, axiom, sorry.
-/
import Derived.Test.YtpbcomdlboiddaaDoorRows
import GoSem.ClaimSeven
namespace Go.Proofs.YtpbcomdlboiddaaDoor
namespace Rows

/-- THE TIED CARD OF 'spoondriftlaw02.BitsSpans'. -/
def bitsSpansCard : Claim7 := { stood := { row := bitsSpansRow, standIns := [], harness := (true, "74d486b832d44951b6b0a259256871a2ced7e595cdcbd4a800d6817e722c50c9"), looks := false }, kinds := [], alts := [], laidByText := true, laidKinds := [.data, .data], laidTests := true, laidLooks := .later }
def BitsSpansCardSaid : Prop := Claim7.holds Tryd.pinned (.plain (OpenSpec.ofChange bitsSpansSpec)) bitsSpansCard

/-- THE TIED CARD OF 'spoondriftlaw02.BitsMembers'. -/
def bitsMembersCard : Claim7 := { stood := { row := bitsMembersRow, standIns := [], harness := (true, "74d486b832d44951b6b0a259256871a2ced7e595cdcbd4a800d6817e722c50c9"), looks := false }, kinds := [], alts := [], laidByText := true, laidKinds := [.data, .data], laidTests := true, laidLooks := .later }
def BitsMembersCardSaid : Prop := Claim7.holds Tryd.pinned (.plain (OpenSpec.ofChange bitsMembersSpec)) bitsMembersCard

/-- THE TIED CARD OF 'spoondriftlaw02.BitsSolves'. -/
def bitsSolvesCard : Claim7 := { stood := { row := bitsSolvesRow, standIns := [], harness := (true, "74d486b832d44951b6b0a259256871a2ced7e595cdcbd4a800d6817e722c50c9"), looks := false }, kinds := [], alts := [], laidByText := true, laidKinds := [.data, .data], laidTests := true, laidLooks := .later }
def BitsSolvesCardSaid : Prop := Claim7.holds Tryd.pinned (.plain (OpenSpec.ofChange bitsSolvesSpec)) bitsSolvesCard

/-- THE TIED CARD OF 'spoondriftlaw02.BitsMatrices'. -/
def bitsMatricesCard : Claim7 := { stood := { row := bitsMatricesRow, standIns := [], harness := (true, "74d486b832d44951b6b0a259256871a2ced7e595cdcbd4a800d6817e722c50c9"), looks := false }, kinds := [], alts := [], laidByText := true, laidKinds := [.data, .data], laidTests := true, laidLooks := .later }
def BitsMatricesCardSaid : Prop := Claim7.holds Tryd.pinned (.plain (OpenSpec.ofChange bitsMatricesSpec)) bitsMatricesCard

/-- THE TIED CARD OF 'spoondriftlaw02.BitsWeights'. -/
def bitsWeightsCard : Claim7 := { stood := { row := bitsWeightsRow, standIns := [], harness := (true, "74d486b832d44951b6b0a259256871a2ced7e595cdcbd4a800d6817e722c50c9"), looks := false }, kinds := [], alts := [], laidByText := true, laidKinds := [.data, .data], laidTests := true, laidLooks := .later }
def BitsWeightsCardSaid : Prop := Claim7.holds Tryd.pinned (.plain (OpenSpec.ofChange bitsWeightsSpec)) bitsWeightsCard

/-- THE TIED CARD OF 'spoondriftlaw02.BitsSmall'. -/
def bitsSmallCard : Claim7 := { stood := { row := bitsSmallRow, standIns := [], harness := (true, "74d486b832d44951b6b0a259256871a2ced7e595cdcbd4a800d6817e722c50c9"), looks := false }, kinds := [], alts := [], laidByText := true, laidKinds := [.data, .data], laidTests := true, laidLooks := .later }
def BitsSmallCardSaid : Prop := Claim7.holds Tryd.pinned (.plain (OpenSpec.ofChange bitsSmallSpec)) bitsSmallCard

/-- THE TIED CARD OF 'spoondriftlaw02.BitsOrthogonal'. -/
def bitsOrthogonalCard : Claim7 := { stood := { row := bitsOrthogonalRow, standIns := [], harness := (true, "74d486b832d44951b6b0a259256871a2ced7e595cdcbd4a800d6817e722c50c9"), looks := false }, kinds := [], alts := [], laidByText := true, laidKinds := [.data, .data], laidTests := true, laidLooks := .later }
def BitsOrthogonalCardSaid : Prop := Claim7.holds Tryd.pinned (.plain (OpenSpec.ofChange bitsOrthogonalSpec)) bitsOrthogonalCard

/-- THE TIED CARD OF 'spoondriftlaw02.BitsReduced'. -/
def bitsReducedCard : Claim7 := { stood := { row := bitsReducedRow, standIns := [], harness := (true, "74d486b832d44951b6b0a259256871a2ced7e595cdcbd4a800d6817e722c50c9"), looks := false }, kinds := [], alts := [], laidByText := true, laidKinds := [.data, .data], laidTests := true, laidLooks := .later }
def BitsReducedCardSaid : Prop := Claim7.holds Tryd.pinned (.plain (OpenSpec.ofChange bitsReducedSpec)) bitsReducedCard

/-- THE TIED CARD OF 'spoondriftlaw02.BitsSolved'. -/
def bitsSolvedCard : Claim7 := { stood := { row := bitsSolvedRow, standIns := [], harness := (true, "74d486b832d44951b6b0a259256871a2ced7e595cdcbd4a800d6817e722c50c9"), looks := false }, kinds := [], alts := [], laidByText := true, laidKinds := [.data, .data], laidTests := true, laidLooks := .later }
def BitsSolvedCardSaid : Prop := Claim7.holds Tryd.pinned (.plain (OpenSpec.ofChange bitsSolvedSpec)) bitsSolvedCard

/-- THE TIED CARD OF 'spoondriftlaw02.BitsInverse'. -/
def bitsInverseCard : Claim7 := { stood := { row := bitsInverseRow, standIns := [], harness := (true, "74d486b832d44951b6b0a259256871a2ced7e595cdcbd4a800d6817e722c50c9"), looks := false }, kinds := [], alts := [], laidByText := true, laidKinds := [.data, .data], laidTests := true, laidLooks := .later }
def BitsInverseCardSaid : Prop := Claim7.holds Tryd.pinned (.plain (OpenSpec.ofChange bitsInverseSpec)) bitsInverseCard

/-- THE TIED CARD OF 'spoondriftlaw02.BitsMeet'. -/
def bitsMeetCard : Claim7 := { stood := { row := bitsMeetRow, standIns := [], harness := (true, "74d486b832d44951b6b0a259256871a2ced7e595cdcbd4a800d6817e722c50c9"), looks := false }, kinds := [], alts := [], laidByText := true, laidKinds := [.data, .data], laidTests := true, laidLooks := .later }
def BitsMeetCardSaid : Prop := Claim7.holds Tryd.pinned (.plain (OpenSpec.ofChange bitsMeetSpec)) bitsMeetCard

/-- THE TIED CARD OF 'spoondriftlaw02.BitsDual'. -/
def bitsDualCard : Claim7 := { stood := { row := bitsDualRow, standIns := [], harness := (true, "74d486b832d44951b6b0a259256871a2ced7e595cdcbd4a800d6817e722c50c9"), looks := false }, kinds := [], alts := [], laidByText := true, laidKinds := [.data, .data], laidTests := true, laidLooks := .later }
def BitsDualCardSaid : Prop := Claim7.holds Tryd.pinned (.plain (OpenSpec.ofChange bitsDualSpec)) bitsDualCard

/-- THE TIED CARD OF 'spoondriftlaw02.BitsLight'. -/
def bitsLightCard : Claim7 := { stood := { row := bitsLightRow, standIns := [], harness := (true, "74d486b832d44951b6b0a259256871a2ced7e595cdcbd4a800d6817e722c50c9"), looks := false }, kinds := [], alts := [], laidByText := true, laidKinds := [.data, .data], laidTests := true, laidLooks := .later }
def BitsLightCardSaid : Prop := Claim7.holds Tryd.pinned (.plain (OpenSpec.ofChange bitsLightSpec)) bitsLightCard

/-- THE SECOND FORM's CARD OF 'spoondriftlaw02.BitsSpans'. -/
def bitsSpansUptoCard : Claim7 := { stood := { row := bitsSpansUptoRow, standIns := [], harness := (true, "74d486b832d44951b6b0a259256871a2ced7e595cdcbd4a800d6817e722c50c9"), looks := false }, kinds := [], alts := [], laidByText := true, laidKinds := [.data, .data], laidTests := true, laidLooks := .later }
def BitsSpansUptoCardSaid : Prop := Claim7.holds Tryd.pinned (.plain (OpenSpec.upto bitsSpansSpec)) bitsSpansUptoCard

/-- THE SECOND FORM's CARD OF 'spoondriftlaw02.BitsMembers'. -/
def bitsMembersUptoCard : Claim7 := { stood := { row := bitsMembersUptoRow, standIns := [], harness := (true, "74d486b832d44951b6b0a259256871a2ced7e595cdcbd4a800d6817e722c50c9"), looks := false }, kinds := [], alts := [], laidByText := true, laidKinds := [.data, .data], laidTests := true, laidLooks := .later }
def BitsMembersUptoCardSaid : Prop := Claim7.holds Tryd.pinned (.plain (OpenSpec.upto bitsMembersSpec)) bitsMembersUptoCard

/-- THE SECOND FORM's CARD OF 'spoondriftlaw02.BitsSolves'. -/
def bitsSolvesUptoCard : Claim7 := { stood := { row := bitsSolvesUptoRow, standIns := [], harness := (true, "74d486b832d44951b6b0a259256871a2ced7e595cdcbd4a800d6817e722c50c9"), looks := false }, kinds := [], alts := [], laidByText := true, laidKinds := [.data, .data], laidTests := true, laidLooks := .later }
def BitsSolvesUptoCardSaid : Prop := Claim7.holds Tryd.pinned (.plain (OpenSpec.upto bitsSolvesSpec)) bitsSolvesUptoCard

/-- THE SECOND FORM's CARD OF 'spoondriftlaw02.BitsMatrices'. -/
def bitsMatricesUptoCard : Claim7 := { stood := { row := bitsMatricesUptoRow, standIns := [], harness := (true, "74d486b832d44951b6b0a259256871a2ced7e595cdcbd4a800d6817e722c50c9"), looks := false }, kinds := [], alts := [], laidByText := true, laidKinds := [.data, .data], laidTests := true, laidLooks := .later }
def BitsMatricesUptoCardSaid : Prop := Claim7.holds Tryd.pinned (.plain (OpenSpec.upto bitsMatricesSpec)) bitsMatricesUptoCard

/-- THE SECOND FORM's CARD OF 'spoondriftlaw02.BitsWeights'. -/
def bitsWeightsUptoCard : Claim7 := { stood := { row := bitsWeightsUptoRow, standIns := [], harness := (true, "74d486b832d44951b6b0a259256871a2ced7e595cdcbd4a800d6817e722c50c9"), looks := false }, kinds := [], alts := [], laidByText := true, laidKinds := [.data, .data], laidTests := true, laidLooks := .later }
def BitsWeightsUptoCardSaid : Prop := Claim7.holds Tryd.pinned (.plain (OpenSpec.upto bitsWeightsSpec)) bitsWeightsUptoCard

/-- THE SECOND FORM's CARD OF 'spoondriftlaw02.BitsSmall'. -/
def bitsSmallUptoCard : Claim7 := { stood := { row := bitsSmallUptoRow, standIns := [], harness := (true, "74d486b832d44951b6b0a259256871a2ced7e595cdcbd4a800d6817e722c50c9"), looks := false }, kinds := [], alts := [], laidByText := true, laidKinds := [.data, .data], laidTests := true, laidLooks := .later }
def BitsSmallUptoCardSaid : Prop := Claim7.holds Tryd.pinned (.plain (OpenSpec.upto bitsSmallSpec)) bitsSmallUptoCard

/-- THE SECOND FORM's CARD OF 'spoondriftlaw02.BitsOrthogonal'. -/
def bitsOrthogonalUptoCard : Claim7 := { stood := { row := bitsOrthogonalUptoRow, standIns := [], harness := (true, "74d486b832d44951b6b0a259256871a2ced7e595cdcbd4a800d6817e722c50c9"), looks := false }, kinds := [], alts := [], laidByText := true, laidKinds := [.data, .data], laidTests := true, laidLooks := .later }
def BitsOrthogonalUptoCardSaid : Prop := Claim7.holds Tryd.pinned (.plain (OpenSpec.upto bitsOrthogonalSpec)) bitsOrthogonalUptoCard

/-- THE SECOND FORM's CARD OF 'spoondriftlaw02.BitsReduced'. -/
def bitsReducedUptoCard : Claim7 := { stood := { row := bitsReducedUptoRow, standIns := [], harness := (true, "74d486b832d44951b6b0a259256871a2ced7e595cdcbd4a800d6817e722c50c9"), looks := false }, kinds := [], alts := [], laidByText := true, laidKinds := [.data, .data], laidTests := true, laidLooks := .later }
def BitsReducedUptoCardSaid : Prop := Claim7.holds Tryd.pinned (.plain (OpenSpec.upto bitsReducedSpec)) bitsReducedUptoCard

/-- THE SECOND FORM's CARD OF 'spoondriftlaw02.BitsSolved'. -/
def bitsSolvedUptoCard : Claim7 := { stood := { row := bitsSolvedUptoRow, standIns := [], harness := (true, "74d486b832d44951b6b0a259256871a2ced7e595cdcbd4a800d6817e722c50c9"), looks := false }, kinds := [], alts := [], laidByText := true, laidKinds := [.data, .data], laidTests := true, laidLooks := .later }
def BitsSolvedUptoCardSaid : Prop := Claim7.holds Tryd.pinned (.plain (OpenSpec.upto bitsSolvedSpec)) bitsSolvedUptoCard

/-- THE SECOND FORM's CARD OF 'spoondriftlaw02.BitsInverse'. -/
def bitsInverseUptoCard : Claim7 := { stood := { row := bitsInverseUptoRow, standIns := [], harness := (true, "74d486b832d44951b6b0a259256871a2ced7e595cdcbd4a800d6817e722c50c9"), looks := false }, kinds := [], alts := [], laidByText := true, laidKinds := [.data, .data], laidTests := true, laidLooks := .later }
def BitsInverseUptoCardSaid : Prop := Claim7.holds Tryd.pinned (.plain (OpenSpec.upto bitsInverseSpec)) bitsInverseUptoCard

/-- THE SECOND FORM's CARD OF 'spoondriftlaw02.BitsMeet'. -/
def bitsMeetUptoCard : Claim7 := { stood := { row := bitsMeetUptoRow, standIns := [], harness := (true, "74d486b832d44951b6b0a259256871a2ced7e595cdcbd4a800d6817e722c50c9"), looks := false }, kinds := [], alts := [], laidByText := true, laidKinds := [.data, .data], laidTests := true, laidLooks := .later }
def BitsMeetUptoCardSaid : Prop := Claim7.holds Tryd.pinned (.plain (OpenSpec.upto bitsMeetSpec)) bitsMeetUptoCard

/-- THE SECOND FORM's CARD OF 'spoondriftlaw02.BitsDual'. -/
def bitsDualUptoCard : Claim7 := { stood := { row := bitsDualUptoRow, standIns := [], harness := (true, "74d486b832d44951b6b0a259256871a2ced7e595cdcbd4a800d6817e722c50c9"), looks := false }, kinds := [], alts := [], laidByText := true, laidKinds := [.data, .data], laidTests := true, laidLooks := .later }
def BitsDualUptoCardSaid : Prop := Claim7.holds Tryd.pinned (.plain (OpenSpec.upto bitsDualSpec)) bitsDualUptoCard

/-- THE SECOND FORM's CARD OF 'spoondriftlaw02.BitsLight'. -/
def bitsLightUptoCard : Claim7 := { stood := { row := bitsLightUptoRow, standIns := [], harness := (true, "74d486b832d44951b6b0a259256871a2ced7e595cdcbd4a800d6817e722c50c9"), looks := false }, kinds := [], alts := [], laidByText := true, laidKinds := [.data, .data], laidTests := true, laidLooks := .later }
def BitsLightUptoCardSaid : Prop := Claim7.holds Tryd.pinned (.plain (OpenSpec.upto bitsLightSpec)) bitsLightUptoCard
end Rows
end Go.Proofs.YtpbcomdlboiddaaDoor
