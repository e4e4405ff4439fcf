/-
  DERIVED. GIVEN WITH THE SEED: THE CARDS: each row of YtjalpolciofphaaDoorRows.lean that lists a variable, with what it lists TIED to the program's text (the seventh form; the later family's looks); each row that meets fmt, with fmt's text TOLD by the authors' own Lean function (tested against real Go, not proved from fmt's source: count such statements apart). THE CARD IS WHAT COUNTS. Prove the row's statement (the work); the ties are given (YtjalpolciofphaaDoorTie.lean); close each card by the builder's one call (the guide's Derived/Test/ToyasCard.lean, 'card_holds'). Laid BY PROGRAM, IN A SANDBOX (cutbox-door.mjs). By AI agents, Wed Nov 11 2026. No macro, syntax, notation, axiom, sorry.
-/
import Derived.Test.YtjalpolciofphaaDoorRows
import GoSem.ClaimSeven
namespace Go.Proofs.YtjalpolciofphaaDoor
namespace Rows

/-- THE TIED CARD OF 'spoondriftlaw01.RingAdds'. -/
def ringAddsCard : Claim7 := { stood := { row := ringAddsRow, standIns := [], harness := (true, "9a02e1f7ab0c001f79e635e937a79dc9a73bf1ab2993de74d9cf52965f638a5c"), looks := false }, kinds := [], alts := [], laidByText := true, laidKinds := [.data, .data, .data, .data], laidTests := true, laidLooks := .later }
def RingAddsCardSaid : Prop := Claim7.holds Tryd.pinned (.plain (OpenSpec.ofChange ringAddsSpec)) ringAddsCard

/-- THE TIED CARD OF 'spoondriftlaw01.RingPowers'. -/
def ringPowersCard : Claim7 := { stood := { row := ringPowersRow, standIns := [], harness := (true, "9a02e1f7ab0c001f79e635e937a79dc9a73bf1ab2993de74d9cf52965f638a5c"), looks := false }, kinds := [], alts := [], laidByText := true, laidKinds := [.data, .data, .data, .data], laidTests := true, laidLooks := .later }
def RingPowersCardSaid : Prop := Claim7.holds Tryd.pinned (.plain (OpenSpec.ofChange ringPowersSpec)) ringPowersCard

/-- THE TIED CARD OF 'spoondriftlaw01.RingDivides'. -/
def ringDividesCard : Claim7 := { stood := { row := ringDividesRow, standIns := [], harness := (true, "9a02e1f7ab0c001f79e635e937a79dc9a73bf1ab2993de74d9cf52965f638a5c"), looks := false }, kinds := [], alts := [], laidByText := true, laidKinds := [.data, .data, .data, .data], laidTests := true, laidLooks := .later }
def RingDividesCardSaid : Prop := Claim7.holds Tryd.pinned (.plain (OpenSpec.ofChange ringDividesSpec)) ringDividesCard

/-- THE TIED CARD OF 'spoondriftlaw01.RingOrders'. -/
def ringOrdersCard : Claim7 := { stood := { row := ringOrdersRow, standIns := [], harness := (true, "9a02e1f7ab0c001f79e635e937a79dc9a73bf1ab2993de74d9cf52965f638a5c"), looks := false }, kinds := [], alts := [], laidByText := true, laidKinds := [.data, .data, .data, .data], laidTests := true, laidLooks := .later }
def RingOrdersCardSaid : Prop := Claim7.holds Tryd.pinned (.plain (OpenSpec.ofChange ringOrdersSpec)) ringOrdersCard

/-- THE TIED CARD OF 'spoondriftlaw01.RingTexts'. -/
def ringTextsCard : Claim7 := { stood := { row := ringTextsRow, standIns := [], harness := (true, "9a02e1f7ab0c001f79e635e937a79dc9a73bf1ab2993de74d9cf52965f638a5c"), looks := false }, kinds := [], alts := [], laidByText := true, laidKinds := [.data, .data, .data, .data], laidTests := true, laidLooks := .later }
def RingTextsCardSaid : Prop := Claim7.holds Tryd.pinned (.plain (OpenSpec.ofChange ringTextsSpec)) ringTextsCard

/-- THE SECOND FORM's CARD OF 'spoondriftlaw01.RingAdds'. -/
def ringAddsUptoCard : Claim7 := { stood := { row := ringAddsUptoRow, standIns := [], harness := (true, "9a02e1f7ab0c001f79e635e937a79dc9a73bf1ab2993de74d9cf52965f638a5c"), looks := false }, kinds := [], alts := [], laidByText := true, laidKinds := [.data, .data, .data, .data], laidTests := true, laidLooks := .later }
def RingAddsUptoCardSaid : Prop := Claim7.holds Tryd.pinned (.plain (OpenSpec.upto ringAddsSpec)) ringAddsUptoCard

/-- THE SECOND FORM's CARD OF 'spoondriftlaw01.RingPowers'. -/
def ringPowersUptoCard : Claim7 := { stood := { row := ringPowersUptoRow, standIns := [], harness := (true, "9a02e1f7ab0c001f79e635e937a79dc9a73bf1ab2993de74d9cf52965f638a5c"), looks := false }, kinds := [], alts := [], laidByText := true, laidKinds := [.data, .data, .data, .data], laidTests := true, laidLooks := .later }
def RingPowersUptoCardSaid : Prop := Claim7.holds Tryd.pinned (.plain (OpenSpec.upto ringPowersSpec)) ringPowersUptoCard

/-- THE SECOND FORM's CARD OF 'spoondriftlaw01.RingDivides'. -/
def ringDividesUptoCard : Claim7 := { stood := { row := ringDividesUptoRow, standIns := [], harness := (true, "9a02e1f7ab0c001f79e635e937a79dc9a73bf1ab2993de74d9cf52965f638a5c"), looks := false }, kinds := [], alts := [], laidByText := true, laidKinds := [.data, .data, .data, .data], laidTests := true, laidLooks := .later }
def RingDividesUptoCardSaid : Prop := Claim7.holds Tryd.pinned (.plain (OpenSpec.upto ringDividesSpec)) ringDividesUptoCard

/-- THE SECOND FORM's CARD OF 'spoondriftlaw01.RingOrders'. -/
def ringOrdersUptoCard : Claim7 := { stood := { row := ringOrdersUptoRow, standIns := [], harness := (true, "9a02e1f7ab0c001f79e635e937a79dc9a73bf1ab2993de74d9cf52965f638a5c"), looks := false }, kinds := [], alts := [], laidByText := true, laidKinds := [.data, .data, .data, .data], laidTests := true, laidLooks := .later }
def RingOrdersUptoCardSaid : Prop := Claim7.holds Tryd.pinned (.plain (OpenSpec.upto ringOrdersSpec)) ringOrdersUptoCard

/-- THE SECOND FORM's CARD OF 'spoondriftlaw01.RingTexts'. -/
def ringTextsUptoCard : Claim7 := { stood := { row := ringTextsUptoRow, standIns := [], harness := (true, "9a02e1f7ab0c001f79e635e937a79dc9a73bf1ab2993de74d9cf52965f638a5c"), looks := false }, kinds := [], alts := [], laidByText := true, laidKinds := [.data, .data, .data, .data], laidTests := true, laidLooks := .later }
def RingTextsUptoCardSaid : Prop := Claim7.holds Tryd.pinned (.plain (OpenSpec.upto ringTextsSpec)) ringTextsUptoCard
end Rows
end Go.Proofs.YtjalpolciofphaaDoor
