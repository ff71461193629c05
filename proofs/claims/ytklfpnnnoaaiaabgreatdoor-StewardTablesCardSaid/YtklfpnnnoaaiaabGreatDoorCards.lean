/-
  DERIVED. GIVEN WITH THE SEED: THE CARDS: each row of YtklfpnnnoaaiaabGreatDoorRows.lean that lists a variable, with what it lists TIED to the program's text (the seventh form; the later family's looks); each row that meets fmt, with fmt's text TOLD by the authors' own Lean function (tested against real Go, not proved from fmt's source: count such statements apart). THE CARD IS WHAT COUNTS. Prove the row's statement (the work); the ties are given (YtklfpnnnoaaiaabGreatDoorTie.lean); close each card by the builder's one call (the guide's Derived/Test/ToyasCard.lean, 'card_holds'). Laid BY PROGRAM, IN A SANDBOX (cutbox-door.mjs). By AI agents, Wed Nov 11 2026. No macro, syntax, notation, axiom, sorry.
-/
import Derived.Test.YtklfpnnnoaaiaabGreatDoorRows
import GoSem.ClaimSeven
namespace Go.Proofs.YtklfpnnnoaaiaabGreatDoor
namespace Rows

/-- THE TIED CARD OF 'stewardtop.StewardTables'. -/
def stewardTablesCard : Claim7 := { stood := { row := stewardTablesRow, standIns := [], harness := (true, "f6fc20f931845baf28765c9afd2d86b3244990c674a90b02e2f38a56c1a6900d"), looks := false }, kinds := [], alts := [], laidByText := true, laidKinds := [.data, .data, .data, .data], laidTests := true, laidLooks := .later }
def StewardTablesCardSaid : Prop := Claim7.holds Tryz.pinned (.plain (OpenSpec.ofChange stewardTablesSpec)) stewardTablesCard

/-- THE SECOND FORM's CARD OF 'stewardtop.StewardTables'. -/
def stewardTablesUptoCard : Claim7 := { stood := { row := stewardTablesUptoRow, standIns := [], harness := (true, "f6fc20f931845baf28765c9afd2d86b3244990c674a90b02e2f38a56c1a6900d"), looks := false }, kinds := [], alts := [], laidByText := true, laidKinds := [.data, .data, .data, .data], laidTests := true, laidLooks := .later }
def StewardTablesUptoCardSaid : Prop := Claim7.holds Tryz.pinned (.plain (OpenSpec.upto stewardTablesSpec)) stewardTablesUptoCard
end Rows
end Go.Proofs.YtklfpnnnoaaiaabGreatDoor
