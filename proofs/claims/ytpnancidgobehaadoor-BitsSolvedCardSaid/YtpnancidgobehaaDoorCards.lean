/-
  DERIVED. GIVEN WITH THE SEED: THE CARDS: each row of YtpnancidgobehaaDoorRows.lean that lists a variable, with what it lists TIED to the program's text (the seventh form; the later family's looks); each row that meets fmt, with fmt's text TOLD by the authors' own Lean function (tested against real Go, not proved from fmt's source: count such statements apart). THE CARD IS WHAT COUNTS. Prove the row's statement (the work); the ties are given (YtpnancidgobehaaDoorTie.lean); close each card by the builder's one call (the guide's Derived/Test/ToyasCard.lean, 'card_holds'). Laid BY PROGRAM, IN A SANDBOX (cutbox-door.mjs). By AI agents, Wed Nov 11 2026. No macro, syntax, notation, axiom, sorry.
-/
import Derived.Test.YtpnancidgobehaaDoorRows
import GoSem.ClaimSeven
namespace Go.Proofs.YtpnancidgobehaaDoor
namespace Rows

/-- THE TIED CARD OF 'spoondriftlaw02.BitsOrthogonal'. -/
def bitsOrthogonalCard : Claim7 := { stood := { row := bitsOrthogonalRow, standIns := [], harness := (true, "fce98ae6863be6acc8c999fe035de4f6b6f98a69549bc7c90c83428178715c0e"), looks := false }, kinds := [], alts := [], laidByText := true, laidKinds := [.data, .data], laidTests := true, laidLooks := .later }
def BitsOrthogonalCardSaid : Prop := Claim7.holds Tryd.pinned (.plain (OpenSpec.ofChange bitsOrthogonalSpec)) bitsOrthogonalCard

/-- THE TIED CARD OF 'spoondriftlaw02.BitsReduced'. -/
def bitsReducedCard : Claim7 := { stood := { row := bitsReducedRow, standIns := [], harness := (true, "fce98ae6863be6acc8c999fe035de4f6b6f98a69549bc7c90c83428178715c0e"), looks := false }, kinds := [], alts := [], laidByText := true, laidKinds := [.data, .data], laidTests := true, laidLooks := .later }
def BitsReducedCardSaid : Prop := Claim7.holds Tryd.pinned (.plain (OpenSpec.ofChange bitsReducedSpec)) bitsReducedCard

/-- THE TIED CARD OF 'spoondriftlaw02.BitsSolved'. -/
def bitsSolvedCard : Claim7 := { stood := { row := bitsSolvedRow, standIns := [], harness := (true, "fce98ae6863be6acc8c999fe035de4f6b6f98a69549bc7c90c83428178715c0e"), looks := false }, kinds := [], alts := [], laidByText := true, laidKinds := [.data, .data], laidTests := true, laidLooks := .later }
def BitsSolvedCardSaid : Prop := Claim7.holds Tryd.pinned (.plain (OpenSpec.ofChange bitsSolvedSpec)) bitsSolvedCard

/-- THE TIED CARD OF 'spoondriftlaw02.BitsInverse'. -/
def bitsInverseCard : Claim7 := { stood := { row := bitsInverseRow, standIns := [], harness := (true, "fce98ae6863be6acc8c999fe035de4f6b6f98a69549bc7c90c83428178715c0e"), looks := false }, kinds := [], alts := [], laidByText := true, laidKinds := [.data, .data], laidTests := true, laidLooks := .later }
def BitsInverseCardSaid : Prop := Claim7.holds Tryd.pinned (.plain (OpenSpec.ofChange bitsInverseSpec)) bitsInverseCard

/-- THE TIED CARD OF 'spoondriftlaw02.BitsMeet'. -/
def bitsMeetCard : Claim7 := { stood := { row := bitsMeetRow, standIns := [], harness := (true, "fce98ae6863be6acc8c999fe035de4f6b6f98a69549bc7c90c83428178715c0e"), looks := false }, kinds := [], alts := [], laidByText := true, laidKinds := [.data, .data], laidTests := true, laidLooks := .later }
def BitsMeetCardSaid : Prop := Claim7.holds Tryd.pinned (.plain (OpenSpec.ofChange bitsMeetSpec)) bitsMeetCard

/-- THE TIED CARD OF 'spoondriftlaw02.BitsDual'. -/
def bitsDualCard : Claim7 := { stood := { row := bitsDualRow, standIns := [], harness := (true, "fce98ae6863be6acc8c999fe035de4f6b6f98a69549bc7c90c83428178715c0e"), looks := false }, kinds := [], alts := [], laidByText := true, laidKinds := [.data, .data], laidTests := true, laidLooks := .later }
def BitsDualCardSaid : Prop := Claim7.holds Tryd.pinned (.plain (OpenSpec.ofChange bitsDualSpec)) bitsDualCard

/-- THE TIED CARD OF 'spoondriftlaw02.BitsLight'. -/
def bitsLightCard : Claim7 := { stood := { row := bitsLightRow, standIns := [], harness := (true, "fce98ae6863be6acc8c999fe035de4f6b6f98a69549bc7c90c83428178715c0e"), looks := false }, kinds := [], alts := [], laidByText := true, laidKinds := [.data, .data], laidTests := true, laidLooks := .later }
def BitsLightCardSaid : Prop := Claim7.holds Tryd.pinned (.plain (OpenSpec.ofChange bitsLightSpec)) bitsLightCard

/-- THE SECOND FORM's CARD OF 'spoondriftlaw02.BitsOrthogonal'. -/
def bitsOrthogonalUptoCard : Claim7 := { stood := { row := bitsOrthogonalUptoRow, standIns := [], harness := (true, "fce98ae6863be6acc8c999fe035de4f6b6f98a69549bc7c90c83428178715c0e"), looks := false }, kinds := [], alts := [], laidByText := true, laidKinds := [.data, .data], laidTests := true, laidLooks := .later }
def BitsOrthogonalUptoCardSaid : Prop := Claim7.holds Tryd.pinned (.plain (OpenSpec.upto bitsOrthogonalSpec)) bitsOrthogonalUptoCard

/-- THE SECOND FORM's CARD OF 'spoondriftlaw02.BitsReduced'. -/
def bitsReducedUptoCard : Claim7 := { stood := { row := bitsReducedUptoRow, standIns := [], harness := (true, "fce98ae6863be6acc8c999fe035de4f6b6f98a69549bc7c90c83428178715c0e"), looks := false }, kinds := [], alts := [], laidByText := true, laidKinds := [.data, .data], laidTests := true, laidLooks := .later }
def BitsReducedUptoCardSaid : Prop := Claim7.holds Tryd.pinned (.plain (OpenSpec.upto bitsReducedSpec)) bitsReducedUptoCard

/-- THE SECOND FORM's CARD OF 'spoondriftlaw02.BitsSolved'. -/
def bitsSolvedUptoCard : Claim7 := { stood := { row := bitsSolvedUptoRow, standIns := [], harness := (true, "fce98ae6863be6acc8c999fe035de4f6b6f98a69549bc7c90c83428178715c0e"), looks := false }, kinds := [], alts := [], laidByText := true, laidKinds := [.data, .data], laidTests := true, laidLooks := .later }
def BitsSolvedUptoCardSaid : Prop := Claim7.holds Tryd.pinned (.plain (OpenSpec.upto bitsSolvedSpec)) bitsSolvedUptoCard

/-- THE SECOND FORM's CARD OF 'spoondriftlaw02.BitsInverse'. -/
def bitsInverseUptoCard : Claim7 := { stood := { row := bitsInverseUptoRow, standIns := [], harness := (true, "fce98ae6863be6acc8c999fe035de4f6b6f98a69549bc7c90c83428178715c0e"), looks := false }, kinds := [], alts := [], laidByText := true, laidKinds := [.data, .data], laidTests := true, laidLooks := .later }
def BitsInverseUptoCardSaid : Prop := Claim7.holds Tryd.pinned (.plain (OpenSpec.upto bitsInverseSpec)) bitsInverseUptoCard

/-- THE SECOND FORM's CARD OF 'spoondriftlaw02.BitsMeet'. -/
def bitsMeetUptoCard : Claim7 := { stood := { row := bitsMeetUptoRow, standIns := [], harness := (true, "fce98ae6863be6acc8c999fe035de4f6b6f98a69549bc7c90c83428178715c0e"), looks := false }, kinds := [], alts := [], laidByText := true, laidKinds := [.data, .data], laidTests := true, laidLooks := .later }
def BitsMeetUptoCardSaid : Prop := Claim7.holds Tryd.pinned (.plain (OpenSpec.upto bitsMeetSpec)) bitsMeetUptoCard

/-- THE SECOND FORM's CARD OF 'spoondriftlaw02.BitsDual'. -/
def bitsDualUptoCard : Claim7 := { stood := { row := bitsDualUptoRow, standIns := [], harness := (true, "fce98ae6863be6acc8c999fe035de4f6b6f98a69549bc7c90c83428178715c0e"), looks := false }, kinds := [], alts := [], laidByText := true, laidKinds := [.data, .data], laidTests := true, laidLooks := .later }
def BitsDualUptoCardSaid : Prop := Claim7.holds Tryd.pinned (.plain (OpenSpec.upto bitsDualSpec)) bitsDualUptoCard

/-- THE SECOND FORM's CARD OF 'spoondriftlaw02.BitsLight'. -/
def bitsLightUptoCard : Claim7 := { stood := { row := bitsLightUptoRow, standIns := [], harness := (true, "fce98ae6863be6acc8c999fe035de4f6b6f98a69549bc7c90c83428178715c0e"), looks := false }, kinds := [], alts := [], laidByText := true, laidKinds := [.data, .data], laidTests := true, laidLooks := .later }
def BitsLightUptoCardSaid : Prop := Claim7.holds Tryd.pinned (.plain (OpenSpec.upto bitsLightSpec)) bitsLightUptoCard
end Rows
end Go.Proofs.YtpnancidgobehaaDoor
