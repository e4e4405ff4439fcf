/-
  DERIVED. GIVEN WITH THE SEED: THE CARDS: each row of YtcdmcndjbajhlaaGreatDoorRows.lean that lists a variable, with what it lists TIED to the program's text (the seventh form; the later family's looks); each row that meets fmt, with fmt's text TOLD by the authors' own Lean function (tested against real Go, not proved from fmt's source: count such statements apart). THE CARD IS WHAT COUNTS. Prove the row's statement (the work); the ties are given (YtcdmcndjbajhlaaGreatDoorTie.lean); close each card by the builder's one call (the guide's Derived/Test/ToyasCard.lean, 'card_holds'). Laid BY PROGRAM, IN A SANDBOX (cutbox-door.mjs). By AI agents, Wed Nov 11 2026. No macro, syntax, notation, axiom, sorry.
-/
import Derived.Test.YtcdmcndjbajhlaaGreatDoorRows
import GoSem.ClaimSeven
namespace Go.Proofs.YtcdmcndjbajhlaaGreatDoor
namespace Rows

/-- THE TIED CARD OF 'spoondriftlaw01.RingSmall'. -/
def ringSmallCard : Claim7 := { stood := { row := ringSmallRow, standIns := [], harness := (true, "3ac31e6c0f467b8996d02856f66b3d929c17119690c123d583b5c51bcf797c69"), looks := false }, kinds := [], alts := [], laidByText := true, laidKinds := [.data, .data, .data, .data], laidTests := true, laidLooks := .later }
def RingSmallCardSaid : Prop := Claim7.holds Tryz.pinned (.plain (OpenSpec.ofChange ringSmallSpec)) ringSmallCard

/-- THE SECOND FORM's CARD OF 'spoondriftlaw01.RingSmall'. -/
def ringSmallUptoCard : Claim7 := { stood := { row := ringSmallUptoRow, standIns := [], harness := (true, "3ac31e6c0f467b8996d02856f66b3d929c17119690c123d583b5c51bcf797c69"), looks := false }, kinds := [], alts := [], laidByText := true, laidKinds := [.data, .data, .data, .data], laidTests := true, laidLooks := .later }
def RingSmallUptoCardSaid : Prop := Claim7.holds Tryz.pinned (.plain (OpenSpec.upto ringSmallSpec)) ringSmallUptoCard
end Rows
end Go.Proofs.YtcdmcndjbajhlaaGreatDoor
