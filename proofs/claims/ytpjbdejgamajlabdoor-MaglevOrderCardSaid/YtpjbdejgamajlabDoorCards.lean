/-
  DERIVED. GIVEN WITH THE SEED: THE CARDS: each row of YtpjbdejgamajlabDoorRows.lean that lists a variable, with what it lists TIED to the program's text (the seventh form; the later family's looks); each row that meets fmt, with fmt's text TOLD by the authors' own Lean function (tested against real Go, not proved from fmt's source: count such statements apart). THE CARD IS WHAT COUNTS. Prove the row's statement (the work); the ties are given (YtpjbdejgamajlabDoorTie.lean); close each card by the builder's one call (the guide's Derived/Test/ToyasCard.lean, 'card_holds'). Laid BY PROGRAM, IN A SANDBOX (cutbox-door.mjs). By AI agents, Wed Nov 11 2026. No macro, syntax, notation, axiom, sorry.
-/
import Derived.Test.YtpjbdejgamajlabDoorRows
import GoSem.ClaimSeven
namespace Go.Proofs.YtpjbdejgamajlabDoor
namespace Rows

/-- THE TIED CARD OF 'stewardlaw18.MaglevShares'. -/
def maglevSharesCard : Claim7 := { stood := { row := maglevSharesRow, standIns := [], harness := (true, "7637ee3cd34b87b7f72000c66ef22f3ad40232fd9ddaf1ceb799a1db40e83121"), looks := false }, kinds := [], alts := [], laidByText := true, laidKinds := [.data], laidTests := true, laidLooks := .later }
def MaglevSharesCardSaid : Prop := Claim7.holds Tryd.pinned (.plain (OpenSpec.ofChange maglevSharesSpec)) maglevSharesCard

/-- THE TIED CARD OF 'stewardlaw18.MaglevOrder'. -/
def maglevOrderCard : Claim7 := { stood := { row := maglevOrderRow, standIns := [], harness := (true, "7637ee3cd34b87b7f72000c66ef22f3ad40232fd9ddaf1ceb799a1db40e83121"), looks := false }, kinds := [], alts := [], laidByText := true, laidKinds := [.data], laidTests := true, laidLooks := .later }
def MaglevOrderCardSaid : Prop := Claim7.holds Tryd.pinned (.plain (OpenSpec.ofChange maglevOrderSpec)) maglevOrderCard

/-- THE TIED CARD OF 'stewardtop.StewardEdges'. -/
def stewardEdgesCard : Claim7 := { stood := { row := stewardEdgesRow, standIns := [], harness := (true, "7637ee3cd34b87b7f72000c66ef22f3ad40232fd9ddaf1ceb799a1db40e83121"), looks := false }, kinds := [], alts := [], laidByText := true, laidKinds := [.data, .data, .data, .data, .pinned, .pinned], laidTests := true, laidLooks := .later }
def StewardEdgesCardSaid : Prop := Claim7.holds Tryd.pinned (.plain (OpenSpec.ofChange stewardEdgesSpec)) stewardEdgesCard

/-- THE SECOND FORM's CARD OF 'stewardlaw18.MaglevShares'. -/
def maglevSharesUptoCard : Claim7 := { stood := { row := maglevSharesUptoRow, standIns := [], harness := (true, "7637ee3cd34b87b7f72000c66ef22f3ad40232fd9ddaf1ceb799a1db40e83121"), looks := false }, kinds := [], alts := [], laidByText := true, laidKinds := [.data], laidTests := true, laidLooks := .later }
def MaglevSharesUptoCardSaid : Prop := Claim7.holds Tryd.pinned (.plain (OpenSpec.upto maglevSharesSpec)) maglevSharesUptoCard

/-- THE SECOND FORM's CARD OF 'stewardlaw18.MaglevOrder'. -/
def maglevOrderUptoCard : Claim7 := { stood := { row := maglevOrderUptoRow, standIns := [], harness := (true, "7637ee3cd34b87b7f72000c66ef22f3ad40232fd9ddaf1ceb799a1db40e83121"), looks := false }, kinds := [], alts := [], laidByText := true, laidKinds := [.data], laidTests := true, laidLooks := .later }
def MaglevOrderUptoCardSaid : Prop := Claim7.holds Tryd.pinned (.plain (OpenSpec.upto maglevOrderSpec)) maglevOrderUptoCard

/-- THE SECOND FORM's CARD OF 'stewardtop.StewardEdges'. -/
def stewardEdgesUptoCard : Claim7 := { stood := { row := stewardEdgesUptoRow, standIns := [], harness := (true, "7637ee3cd34b87b7f72000c66ef22f3ad40232fd9ddaf1ceb799a1db40e83121"), looks := false }, kinds := [], alts := [], laidByText := true, laidKinds := [.data, .data, .data, .data, .pinned, .pinned], laidTests := true, laidLooks := .later }
def StewardEdgesUptoCardSaid : Prop := Claim7.holds Tryd.pinned (.plain (OpenSpec.upto stewardEdgesSpec)) stewardEdgesUptoCard
end Rows
end Go.Proofs.YtpjbdejgamajlabDoor
