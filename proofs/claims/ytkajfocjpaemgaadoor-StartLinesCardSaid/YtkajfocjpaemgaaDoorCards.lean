/-
  DERIVED. GIVEN WITH THE SEED: THE CARDS: each row of YtkajfocjpaemgaaDoorRows.lean that lists a variable, with what it lists TIED to the program's text (the seventh form; the later family's looks); each row that meets fmt, with fmt's text TOLD by the authors' own Lean function (tested against real Go, not proved from fmt's source: count such statements apart). THE CARD IS WHAT COUNTS. Prove the row's statement (the work); the ties are given (YtkajfocjpaemgaaDoorTie.lean); close each card by the builder's one call (the guide's Derived/Test/ToyasCard.lean, 'card_holds'). Laid BY PROGRAM, IN A SANDBOX (cutbox-door.mjs). By AI agents, Wed Nov 11 2026. No macro, syntax, notation, axiom, sorry.
-/
import Derived.Test.YtkajfocjpaemgaaDoorRows
import GoSem.ClaimSeven
namespace Go.Proofs.YtkajfocjpaemgaaDoor
namespace Rows

/-- THE TIED CARD OF 'stewardlaw07.StartRequests'. -/
def startRequestsCard : Claim7 := { stood := { row := startRequestsRow, standIns := [], harness := (true, "a7a143bc6d9ce68070cd89190942591abda605a830553ff89e18d3e79e8b0b37"), looks := true }, kinds := [], alts := [], laidByText := true, laidKinds := [.data, .data, .data, .data, .sentinel, .sentinel, .data, .pinned], laidTests := true, laidLooks := .later }
def StartRequestsCardSaid : Prop := Claim7.holds Tryd.pinned (.plain (OpenSpec.ofChange startRequestsSpec)) startRequestsCard

/-- THE TIED CARD OF 'stewardlaw07.StartStatuses'. -/
def startStatusesCard : Claim7 := { stood := { row := startStatusesRow, standIns := [], harness := (true, "a7a143bc6d9ce68070cd89190942591abda605a830553ff89e18d3e79e8b0b37"), looks := true }, kinds := [], alts := [], laidByText := true, laidKinds := [.data, .data, .data, .data, .sentinel, .sentinel, .data, .pinned], laidTests := true, laidLooks := .later }
def StartStatusesCardSaid : Prop := Claim7.holds Tryd.pinned (.plain (OpenSpec.ofChange startStatusesSpec)) startStatusesCard

/-- THE TIED CARD OF 'stewardlaw07.StartLines'. -/
def startLinesCard : Claim7 := { stood := { row := startLinesRow, standIns := [], harness := (true, "a7a143bc6d9ce68070cd89190942591abda605a830553ff89e18d3e79e8b0b37"), looks := true }, kinds := [], alts := [], laidByText := true, laidKinds := [.data, .data, .data, .data, .sentinel, .sentinel, .data, .pinned], laidTests := true, laidLooks := .later }
def StartLinesCardSaid : Prop := Claim7.holds Tryd.pinned (.plain (OpenSpec.ofChange startLinesSpec)) startLinesCard

/-- THE TIED CARD OF 'stewardlaw07.StartCodes'. -/
def startCodesCard : Claim7 := { stood := { row := startCodesRow, standIns := [], harness := (true, "a7a143bc6d9ce68070cd89190942591abda605a830553ff89e18d3e79e8b0b37"), looks := true }, kinds := [], alts := [], laidByText := true, laidKinds := [.data, .data, .data, .data, .sentinel, .sentinel, .data, .pinned], laidTests := true, laidLooks := .later }
def StartCodesCardSaid : Prop := Claim7.holds Tryd.pinned (.plain (OpenSpec.ofChange startCodesSpec)) startCodesCard

/-- THE SECOND FORM's CARD OF 'stewardlaw07.StartRequests'. -/
def startRequestsUptoCard : Claim7 := { stood := { row := startRequestsUptoRow, standIns := [], harness := (true, "a7a143bc6d9ce68070cd89190942591abda605a830553ff89e18d3e79e8b0b37"), looks := true }, kinds := [], alts := [], laidByText := true, laidKinds := [.data, .data, .data, .data, .sentinel, .sentinel, .data, .pinned], laidTests := true, laidLooks := .later }
def StartRequestsUptoCardSaid : Prop := Claim7.holds Tryd.pinned (.plain (OpenSpec.upto startRequestsSpec)) startRequestsUptoCard

/-- THE SECOND FORM's CARD OF 'stewardlaw07.StartStatuses'. -/
def startStatusesUptoCard : Claim7 := { stood := { row := startStatusesUptoRow, standIns := [], harness := (true, "a7a143bc6d9ce68070cd89190942591abda605a830553ff89e18d3e79e8b0b37"), looks := true }, kinds := [], alts := [], laidByText := true, laidKinds := [.data, .data, .data, .data, .sentinel, .sentinel, .data, .pinned], laidTests := true, laidLooks := .later }
def StartStatusesUptoCardSaid : Prop := Claim7.holds Tryd.pinned (.plain (OpenSpec.upto startStatusesSpec)) startStatusesUptoCard

/-- THE SECOND FORM's CARD OF 'stewardlaw07.StartLines'. -/
def startLinesUptoCard : Claim7 := { stood := { row := startLinesUptoRow, standIns := [], harness := (true, "a7a143bc6d9ce68070cd89190942591abda605a830553ff89e18d3e79e8b0b37"), looks := true }, kinds := [], alts := [], laidByText := true, laidKinds := [.data, .data, .data, .data, .sentinel, .sentinel, .data, .pinned], laidTests := true, laidLooks := .later }
def StartLinesUptoCardSaid : Prop := Claim7.holds Tryd.pinned (.plain (OpenSpec.upto startLinesSpec)) startLinesUptoCard

/-- THE SECOND FORM's CARD OF 'stewardlaw07.StartCodes'. -/
def startCodesUptoCard : Claim7 := { stood := { row := startCodesUptoRow, standIns := [], harness := (true, "a7a143bc6d9ce68070cd89190942591abda605a830553ff89e18d3e79e8b0b37"), looks := true }, kinds := [], alts := [], laidByText := true, laidKinds := [.data, .data, .data, .data, .sentinel, .sentinel, .data, .pinned], laidTests := true, laidLooks := .later }
def StartCodesUptoCardSaid : Prop := Claim7.holds Tryd.pinned (.plain (OpenSpec.upto startCodesSpec)) startCodesUptoCard
end Rows
end Go.Proofs.YtkajfocjpaemgaaDoor
