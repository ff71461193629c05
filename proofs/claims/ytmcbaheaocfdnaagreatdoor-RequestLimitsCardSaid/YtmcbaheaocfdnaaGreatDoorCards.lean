/-
  DERIVED. GIVEN WITH THE SEED: THE CARDS: each row of YtmcbaheaocfdnaaGreatDoorRows.lean that lists a variable, with what it lists TIED to the program's text (the seventh form; the later family's looks); each row that meets fmt, with fmt's text TOLD by the authors' own Lean function (tested against real Go, not proved from fmt's source: count such statements apart). THE CARD IS WHAT COUNTS. Prove the row's statement (the work); the ties are given (YtmcbaheaocfdnaaGreatDoorTie.lean); close each card by the builder's one call (the guide's Derived/Test/ToyasCard.lean, 'card_holds'). Laid BY PROGRAM, IN A SANDBOX (cutbox-door.mjs). By AI agents, Wed Nov 11 2026. No macro, syntax, notation, axiom, sorry.
-/
import Derived.Test.YtmcbaheaocfdnaaGreatDoorRows
import GoSem.ClaimSeven
namespace Go.Proofs.YtmcbaheaocfdnaaGreatDoor
namespace Rows

/-- THE TIED CARD OF 'stewardlaw10.RequestHeads'. -/
def requestHeadsCard : Claim7 := { stood := { row := requestHeadsRow, standIns := [], harness := (true, "e35a26530fc380b0f6701ec115095e900b98dabe5981e9304b85844dd98c67b9"), looks := true }, kinds := [], alts := [], laidByText := true, laidKinds := [.data, .data, .data, .data, .sentinel, .sentinel, .pinned], laidTests := true, laidLooks := .later }
def RequestHeadsCardSaid : Prop := Claim7.holds Tryz.pinned (.plain (OpenSpec.ofChange requestHeadsSpec)) requestHeadsCard

/-- THE TIED CARD OF 'stewardlaw10.RequestLimits'. -/
def requestLimitsCard : Claim7 := { stood := { row := requestLimitsRow, standIns := [], harness := (true, "e35a26530fc380b0f6701ec115095e900b98dabe5981e9304b85844dd98c67b9"), looks := true }, kinds := [], alts := [], laidByText := true, laidKinds := [.data, .data, .data, .data, .sentinel, .sentinel, .pinned], laidTests := true, laidLooks := .later }
def RequestLimitsCardSaid : Prop := Claim7.holds Tryz.pinned (.plain (OpenSpec.ofChange requestLimitsSpec)) requestLimitsCard

/-- THE SECOND FORM's CARD OF 'stewardlaw10.RequestHeads'. -/
def requestHeadsUptoCard : Claim7 := { stood := { row := requestHeadsUptoRow, standIns := [], harness := (true, "e35a26530fc380b0f6701ec115095e900b98dabe5981e9304b85844dd98c67b9"), looks := true }, kinds := [], alts := [], laidByText := true, laidKinds := [.data, .data, .data, .data, .sentinel, .sentinel, .pinned], laidTests := true, laidLooks := .later }
def RequestHeadsUptoCardSaid : Prop := Claim7.holds Tryz.pinned (.plain (OpenSpec.upto requestHeadsSpec)) requestHeadsUptoCard

/-- THE SECOND FORM's CARD OF 'stewardlaw10.RequestLimits'. -/
def requestLimitsUptoCard : Claim7 := { stood := { row := requestLimitsUptoRow, standIns := [], harness := (true, "e35a26530fc380b0f6701ec115095e900b98dabe5981e9304b85844dd98c67b9"), looks := true }, kinds := [], alts := [], laidByText := true, laidKinds := [.data, .data, .data, .data, .sentinel, .sentinel, .pinned], laidTests := true, laidLooks := .later }
def RequestLimitsUptoCardSaid : Prop := Claim7.holds Tryz.pinned (.plain (OpenSpec.upto requestLimitsSpec)) requestLimitsUptoCard
end Rows
end Go.Proofs.YtmcbaheaocfdnaaGreatDoor
