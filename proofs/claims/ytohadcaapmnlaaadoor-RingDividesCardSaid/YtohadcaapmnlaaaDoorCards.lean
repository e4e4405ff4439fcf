/-
  DERIVED. GIVEN WITH THE SEED: THE CARDS: each row of YtohadcaapmnlaaaDoorRows.lean that lists a variable, with what it lists TIED to the program's text (the seventh form; the later family's looks); each row that meets fmt, with fmt's text TOLD by the authors' own Lean function (tested against real Go, not proved from fmt's source: count such statements apart). THE CARD IS WHAT COUNTS. Prove the row's statement (the work); the ties are given (YtohadcaapmnlaaaDoorTie.lean); close each card by the builder's one call (the guide's Derived/Test/ToyasCard.lean, 'card_holds'). Laid BY PROGRAM, IN A SANDBOX (cutbox-door.mjs). By AI agents, Wed Nov 11 2026. No macro, syntax, notation, axiom, sorry.
-/
import Derived.Test.YtohadcaapmnlaaaDoorRows
import GoSem.ClaimSeven
namespace Go.Proofs.YtohadcaapmnlaaaDoor
namespace Rows

/-- THE TIED CARD OF 'spoondriftlaw01.RingDivides'. -/
def ringDividesCard : Claim7 := { stood := { row := ringDividesRow, standIns := [], harness := (true, "58576eecc914721e0cf6326fbec9437b160c6c85afe33ebaf787f8fac11ef8f0"), looks := false }, kinds := [], alts := [], laidByText := true, laidKinds := [.data, .data, .data, .data], laidTests := true, laidLooks := .later }
def RingDividesCardSaid : Prop := Claim7.holds Tryd.pinned (.plain (OpenSpec.ofChange ringDividesSpec)) ringDividesCard

/-- THE TIED CARD OF 'spoondriftlaw01.RingField'. -/
def ringFieldCard : Claim7 := { stood := { row := ringFieldRow, standIns := [], harness := (true, "58576eecc914721e0cf6326fbec9437b160c6c85afe33ebaf787f8fac11ef8f0"), looks := false }, kinds := [], alts := [], laidByText := true, laidKinds := [.data, .data, .data, .data], laidTests := true, laidLooks := .later }
def RingFieldCardSaid : Prop := Claim7.holds Tryd.pinned (.plain (OpenSpec.ofChange ringFieldSpec)) ringFieldCard

/-- THE TIED CARD OF 'spoondriftlaw01.RingTurned'. -/
def ringTurnedCard : Claim7 := { stood := { row := ringTurnedRow, standIns := [], harness := (true, "58576eecc914721e0cf6326fbec9437b160c6c85afe33ebaf787f8fac11ef8f0"), looks := false }, kinds := [], alts := [], laidByText := true, laidKinds := [.data, .data, .data, .data], laidTests := true, laidLooks := .later }
def RingTurnedCardSaid : Prop := Claim7.holds Tryd.pinned (.plain (OpenSpec.ofChange ringTurnedSpec)) ringTurnedCard

/-- THE TIED CARD OF 'spoondriftlaw01.RingNormed'. -/
def ringNormedCard : Claim7 := { stood := { row := ringNormedRow, standIns := [], harness := (true, "58576eecc914721e0cf6326fbec9437b160c6c85afe33ebaf787f8fac11ef8f0"), looks := false }, kinds := [], alts := [], laidByText := true, laidKinds := [.data, .data, .data, .data], laidTests := true, laidLooks := .later }
def RingNormedCardSaid : Prop := Claim7.holds Tryd.pinned (.plain (OpenSpec.ofChange ringNormedSpec)) ringNormedCard

/-- THE TIED CARD OF 'spoondriftlaw01.RingOrdered'. -/
def ringOrderedCard : Claim7 := { stood := { row := ringOrderedRow, standIns := [], harness := (true, "58576eecc914721e0cf6326fbec9437b160c6c85afe33ebaf787f8fac11ef8f0"), looks := false }, kinds := [], alts := [], laidByText := true, laidKinds := [.data, .data, .data, .data], laidTests := true, laidLooks := .later }
def RingOrderedCardSaid : Prop := Claim7.holds Tryd.pinned (.plain (OpenSpec.ofChange ringOrderedSpec)) ringOrderedCard

/-- THE TIED CARD OF 'spoondriftlaw01.RingDivided'. -/
def ringDividedCard : Claim7 := { stood := { row := ringDividedRow, standIns := [], harness := (true, "58576eecc914721e0cf6326fbec9437b160c6c85afe33ebaf787f8fac11ef8f0"), looks := false }, kinds := [], alts := [], laidByText := true, laidKinds := [.data, .data, .data, .data], laidTests := true, laidLooks := .later }
def RingDividedCardSaid : Prop := Claim7.holds Tryd.pinned (.plain (OpenSpec.ofChange ringDividedSpec)) ringDividedCard

/-- THE TIED CARD OF 'spoondriftlaw01.RingTold'. -/
def ringToldCard : Claim7 := { stood := { row := ringToldRow, standIns := [], harness := (true, "58576eecc914721e0cf6326fbec9437b160c6c85afe33ebaf787f8fac11ef8f0"), looks := false }, kinds := [], alts := [], laidByText := true, laidKinds := [.data, .data, .data, .data], laidTests := true, laidLooks := .later }
def RingToldCardSaid : Prop := Claim7.holds Tryd.pinned (.plain (OpenSpec.ofChange ringToldSpec)) ringToldCard

/-- THE TIED CARD OF 'spoondriftlaw01.RingPhased'. -/
def ringPhasedCard : Claim7 := { stood := { row := ringPhasedRow, standIns := [], harness := (true, "58576eecc914721e0cf6326fbec9437b160c6c85afe33ebaf787f8fac11ef8f0"), looks := false }, kinds := [], alts := [], laidByText := true, laidKinds := [.data, .data, .data, .data], laidTests := true, laidLooks := .later }
def RingPhasedCardSaid : Prop := Claim7.holds Tryd.pinned (.plain (OpenSpec.ofChange ringPhasedSpec)) ringPhasedCard

/-- THE SECOND FORM's CARD OF 'spoondriftlaw01.RingDivides'. -/
def ringDividesUptoCard : Claim7 := { stood := { row := ringDividesUptoRow, standIns := [], harness := (true, "58576eecc914721e0cf6326fbec9437b160c6c85afe33ebaf787f8fac11ef8f0"), looks := false }, kinds := [], alts := [], laidByText := true, laidKinds := [.data, .data, .data, .data], laidTests := true, laidLooks := .later }
def RingDividesUptoCardSaid : Prop := Claim7.holds Tryd.pinned (.plain (OpenSpec.upto ringDividesSpec)) ringDividesUptoCard

/-- THE SECOND FORM's CARD OF 'spoondriftlaw01.RingField'. -/
def ringFieldUptoCard : Claim7 := { stood := { row := ringFieldUptoRow, standIns := [], harness := (true, "58576eecc914721e0cf6326fbec9437b160c6c85afe33ebaf787f8fac11ef8f0"), looks := false }, kinds := [], alts := [], laidByText := true, laidKinds := [.data, .data, .data, .data], laidTests := true, laidLooks := .later }
def RingFieldUptoCardSaid : Prop := Claim7.holds Tryd.pinned (.plain (OpenSpec.upto ringFieldSpec)) ringFieldUptoCard

/-- THE SECOND FORM's CARD OF 'spoondriftlaw01.RingTurned'. -/
def ringTurnedUptoCard : Claim7 := { stood := { row := ringTurnedUptoRow, standIns := [], harness := (true, "58576eecc914721e0cf6326fbec9437b160c6c85afe33ebaf787f8fac11ef8f0"), looks := false }, kinds := [], alts := [], laidByText := true, laidKinds := [.data, .data, .data, .data], laidTests := true, laidLooks := .later }
def RingTurnedUptoCardSaid : Prop := Claim7.holds Tryd.pinned (.plain (OpenSpec.upto ringTurnedSpec)) ringTurnedUptoCard

/-- THE SECOND FORM's CARD OF 'spoondriftlaw01.RingNormed'. -/
def ringNormedUptoCard : Claim7 := { stood := { row := ringNormedUptoRow, standIns := [], harness := (true, "58576eecc914721e0cf6326fbec9437b160c6c85afe33ebaf787f8fac11ef8f0"), looks := false }, kinds := [], alts := [], laidByText := true, laidKinds := [.data, .data, .data, .data], laidTests := true, laidLooks := .later }
def RingNormedUptoCardSaid : Prop := Claim7.holds Tryd.pinned (.plain (OpenSpec.upto ringNormedSpec)) ringNormedUptoCard

/-- THE SECOND FORM's CARD OF 'spoondriftlaw01.RingOrdered'. -/
def ringOrderedUptoCard : Claim7 := { stood := { row := ringOrderedUptoRow, standIns := [], harness := (true, "58576eecc914721e0cf6326fbec9437b160c6c85afe33ebaf787f8fac11ef8f0"), looks := false }, kinds := [], alts := [], laidByText := true, laidKinds := [.data, .data, .data, .data], laidTests := true, laidLooks := .later }
def RingOrderedUptoCardSaid : Prop := Claim7.holds Tryd.pinned (.plain (OpenSpec.upto ringOrderedSpec)) ringOrderedUptoCard

/-- THE SECOND FORM's CARD OF 'spoondriftlaw01.RingDivided'. -/
def ringDividedUptoCard : Claim7 := { stood := { row := ringDividedUptoRow, standIns := [], harness := (true, "58576eecc914721e0cf6326fbec9437b160c6c85afe33ebaf787f8fac11ef8f0"), looks := false }, kinds := [], alts := [], laidByText := true, laidKinds := [.data, .data, .data, .data], laidTests := true, laidLooks := .later }
def RingDividedUptoCardSaid : Prop := Claim7.holds Tryd.pinned (.plain (OpenSpec.upto ringDividedSpec)) ringDividedUptoCard

/-- THE SECOND FORM's CARD OF 'spoondriftlaw01.RingTold'. -/
def ringToldUptoCard : Claim7 := { stood := { row := ringToldUptoRow, standIns := [], harness := (true, "58576eecc914721e0cf6326fbec9437b160c6c85afe33ebaf787f8fac11ef8f0"), looks := false }, kinds := [], alts := [], laidByText := true, laidKinds := [.data, .data, .data, .data], laidTests := true, laidLooks := .later }
def RingToldUptoCardSaid : Prop := Claim7.holds Tryd.pinned (.plain (OpenSpec.upto ringToldSpec)) ringToldUptoCard

/-- THE SECOND FORM's CARD OF 'spoondriftlaw01.RingPhased'. -/
def ringPhasedUptoCard : Claim7 := { stood := { row := ringPhasedUptoRow, standIns := [], harness := (true, "58576eecc914721e0cf6326fbec9437b160c6c85afe33ebaf787f8fac11ef8f0"), looks := false }, kinds := [], alts := [], laidByText := true, laidKinds := [.data, .data, .data, .data], laidTests := true, laidLooks := .later }
def RingPhasedUptoCardSaid : Prop := Claim7.holds Tryd.pinned (.plain (OpenSpec.upto ringPhasedSpec)) ringPhasedUptoCard
end Rows
end Go.Proofs.YtohadcaapmnlaaaDoor
