/-
  DERIVED. GIVEN WITH THE SEED: THE CARDS: each row of YtfbjnincildfiaaDoorRows.lean that lists a variable, with what it lists TIED to the program's text (the seventh form; the later family's looks); each row that meets fmt, with fmt's text TOLD by the authors' own Lean function (tested against real Go, not proved from fmt's source: count such statements apart). THE CARD IS WHAT COUNTS. Prove the row's statement (the work); the ties are given (YtfbjnincildfiaaDoorTie.lean); close each card by the builder's one call (the guide's Derived/Test/ToyasCard.lean, 'card_holds'). Laid BY PROGRAM, IN A SANDBOX (cutbox-door.mjs). By AI agents, Wed Nov 11 2026. No macro, syntax, notation, axiom, sorry.
-/
import Derived.Test.YtfbjnincildfiaaDoorRows
import GoSem.ClaimSeven
namespace Go.Proofs.YtfbjnincildfiaaDoor
namespace Rows

/-- THE TIED CARD OF 'spoondriftlaw01.RingLeast'. -/
def ringLeastCard : Claim7 := { stood := { row := ringLeastRow, standIns := [], harness := (true, "85a18c5c1f2debe4044f854315e4fa5558137f3a1873a21ab997e3335ff6830f"), looks := false }, kinds := [], alts := [], laidByText := true, laidKinds := [.data, .data, .data, .data], laidTests := true, laidLooks := .later }
def RingLeastCardSaid : Prop := Claim7.holds Tryd.pinned (.plain (OpenSpec.ofChange ringLeastSpec)) ringLeastCard

/-- THE TIED CARD OF 'spoondriftlaw01.RingTurns'. -/
def ringTurnsCard : Claim7 := { stood := { row := ringTurnsRow, standIns := [], harness := (true, "85a18c5c1f2debe4044f854315e4fa5558137f3a1873a21ab997e3335ff6830f"), looks := false }, kinds := [], alts := [], laidByText := true, laidKinds := [.data, .data, .data, .data], laidTests := true, laidLooks := .later }
def RingTurnsCardSaid : Prop := Claim7.holds Tryd.pinned (.plain (OpenSpec.ofChange ringTurnsSpec)) ringTurnsCard

/-- THE TIED CARD OF 'spoondriftlaw01.RingOrders'. -/
def ringOrdersCard : Claim7 := { stood := { row := ringOrdersRow, standIns := [], harness := (true, "85a18c5c1f2debe4044f854315e4fa5558137f3a1873a21ab997e3335ff6830f"), looks := false }, kinds := [], alts := [], laidByText := true, laidKinds := [.data, .data, .data, .data], laidTests := true, laidLooks := .later }
def RingOrdersCardSaid : Prop := Claim7.holds Tryd.pinned (.plain (OpenSpec.ofChange ringOrdersSpec)) ringOrdersCard

/-- THE TIED CARD OF 'spoondriftlaw01.RingTexts'. -/
def ringTextsCard : Claim7 := { stood := { row := ringTextsRow, standIns := [], harness := (true, "85a18c5c1f2debe4044f854315e4fa5558137f3a1873a21ab997e3335ff6830f"), looks := false }, kinds := [], alts := [], laidByText := true, laidKinds := [.data, .data, .data, .data], laidTests := true, laidLooks := .later }
def RingTextsCardSaid : Prop := Claim7.holds Tryd.pinned (.plain (OpenSpec.ofChange ringTextsSpec)) ringTextsCard

/-- THE SECOND FORM's CARD OF 'spoondriftlaw01.RingLeast'. -/
def ringLeastUptoCard : Claim7 := { stood := { row := ringLeastUptoRow, standIns := [], harness := (true, "85a18c5c1f2debe4044f854315e4fa5558137f3a1873a21ab997e3335ff6830f"), looks := false }, kinds := [], alts := [], laidByText := true, laidKinds := [.data, .data, .data, .data], laidTests := true, laidLooks := .later }
def RingLeastUptoCardSaid : Prop := Claim7.holds Tryd.pinned (.plain (OpenSpec.upto ringLeastSpec)) ringLeastUptoCard

/-- THE SECOND FORM's CARD OF 'spoondriftlaw01.RingTurns'. -/
def ringTurnsUptoCard : Claim7 := { stood := { row := ringTurnsUptoRow, standIns := [], harness := (true, "85a18c5c1f2debe4044f854315e4fa5558137f3a1873a21ab997e3335ff6830f"), looks := false }, kinds := [], alts := [], laidByText := true, laidKinds := [.data, .data, .data, .data], laidTests := true, laidLooks := .later }
def RingTurnsUptoCardSaid : Prop := Claim7.holds Tryd.pinned (.plain (OpenSpec.upto ringTurnsSpec)) ringTurnsUptoCard

/-- THE SECOND FORM's CARD OF 'spoondriftlaw01.RingOrders'. -/
def ringOrdersUptoCard : Claim7 := { stood := { row := ringOrdersUptoRow, standIns := [], harness := (true, "85a18c5c1f2debe4044f854315e4fa5558137f3a1873a21ab997e3335ff6830f"), looks := false }, kinds := [], alts := [], laidByText := true, laidKinds := [.data, .data, .data, .data], laidTests := true, laidLooks := .later }
def RingOrdersUptoCardSaid : Prop := Claim7.holds Tryd.pinned (.plain (OpenSpec.upto ringOrdersSpec)) ringOrdersUptoCard

/-- THE SECOND FORM's CARD OF 'spoondriftlaw01.RingTexts'. -/
def ringTextsUptoCard : Claim7 := { stood := { row := ringTextsUptoRow, standIns := [], harness := (true, "85a18c5c1f2debe4044f854315e4fa5558137f3a1873a21ab997e3335ff6830f"), looks := false }, kinds := [], alts := [], laidByText := true, laidKinds := [.data, .data, .data, .data], laidTests := true, laidLooks := .later }
def RingTextsUptoCardSaid : Prop := Claim7.holds Tryd.pinned (.plain (OpenSpec.upto ringTextsSpec)) ringTextsUptoCard
end Rows
end Go.Proofs.YtfbjnincildfiaaDoor
