/-
  DERIVED. GIVEN WITH THE SEED: THE CARDS: each row of YtbbphklhnngjmaaGreatDoorRows.lean that lists a variable, with what it lists TIED to the program's text (the seventh form; the later family's looks); each row that meets fmt, with fmt's text TOLD by the authors' own Lean function (tested against real Go, not proved from fmt's source: count such statements apart). THE CARD IS WHAT COUNTS. Prove the row's statement (the work); the ties are given (YtbbphklhnngjmaaGreatDoorTie.lean); close each card by the builder's one call (the guide's Derived/Test/ToyasCard.lean, 'card_holds'). Laid BY PROGRAM, IN A SANDBOX (cutbox-door.mjs). By AI agents, Wed Nov 11 2026. No macro, syntax, notation, axiom, sorry.
-/
import Derived.Test.YtbbphklhnngjmaaGreatDoorRows
import GoSem.ClaimSeven
namespace Go.Proofs.YtbbphklhnngjmaaGreatDoor
namespace Rows

/-- THE TIED CARD OF 'stewardlaw11.ResponseTexts'. -/
def responseTextsCard : Claim7 := { stood := { row := responseTextsRow, standIns := [], harness := (true, "bbca4f03a42cf4fcf9ab61a85393cfbf38b026d9ffbe77f7fb6aee5b137be8bd"), looks := true }, kinds := [], alts := [], laidByText := true, laidKinds := [.data, .data, .data, .data, .sentinel, .sentinel, .data, .pinned], laidTests := true, laidLooks := .later }
def ResponseTextsCardSaid : Prop := Claim7.holds Tryz.pinned (.plain (OpenSpec.ofChange responseTextsSpec)) responseTextsCard

/-- THE TIED CARD OF 'stewardlaw12.RewriteRequests'. -/
def rewriteRequestsCard : Claim7 := { stood := { row := rewriteRequestsRow, standIns := [], harness := (true, "bbca4f03a42cf4fcf9ab61a85393cfbf38b026d9ffbe77f7fb6aee5b137be8bd"), looks := true }, kinds := [], alts := [], laidByText := true, laidKinds := [.data, .data, .data, .data, .data, .pinned], laidTests := true, laidLooks := .later }
def RewriteRequestsCardSaid : Prop := Claim7.holds Tryz.pinned (.plain (OpenSpec.ofChange rewriteRequestsSpec)) rewriteRequestsCard

/-- THE TIED CARD OF 'stewardlaw12.RewriteReads'. -/
def rewriteReadsCard : Claim7 := { stood := { row := rewriteReadsRow, standIns := [], harness := (true, "bbca4f03a42cf4fcf9ab61a85393cfbf38b026d9ffbe77f7fb6aee5b137be8bd"), looks := true }, kinds := [], alts := [], laidByText := true, laidKinds := [.data, .data, .data, .data, .sentinel, .sentinel, .data, .pinned], laidTests := true, laidLooks := .later }
def RewriteReadsCardSaid : Prop := Claim7.holds Tryz.pinned (.plain (OpenSpec.ofChange rewriteReadsSpec)) rewriteReadsCard

/-- THE TIED CARD OF 'stewardlaw12.RewriteAnswers'. -/
def rewriteAnswersCard : Claim7 := { stood := { row := rewriteAnswersRow, standIns := [], harness := (true, "bbca4f03a42cf4fcf9ab61a85393cfbf38b026d9ffbe77f7fb6aee5b137be8bd"), looks := true }, kinds := [], alts := [], laidByText := true, laidKinds := [.data, .data, .data, .data, .sentinel, .sentinel, .data, .pinned], laidTests := true, laidLooks := .later }
def RewriteAnswersCardSaid : Prop := Claim7.holds Tryz.pinned (.plain (OpenSpec.ofChange rewriteAnswersSpec)) rewriteAnswersCard

/-- THE SECOND FORM's CARD OF 'stewardlaw11.ResponseTexts'. -/
def responseTextsUptoCard : Claim7 := { stood := { row := responseTextsUptoRow, standIns := [], harness := (true, "bbca4f03a42cf4fcf9ab61a85393cfbf38b026d9ffbe77f7fb6aee5b137be8bd"), looks := true }, kinds := [], alts := [], laidByText := true, laidKinds := [.data, .data, .data, .data, .sentinel, .sentinel, .data, .pinned], laidTests := true, laidLooks := .later }
def ResponseTextsUptoCardSaid : Prop := Claim7.holds Tryz.pinned (.plain (OpenSpec.upto responseTextsSpec)) responseTextsUptoCard

/-- THE SECOND FORM's CARD OF 'stewardlaw12.RewriteRequests'. -/
def rewriteRequestsUptoCard : Claim7 := { stood := { row := rewriteRequestsUptoRow, standIns := [], harness := (true, "bbca4f03a42cf4fcf9ab61a85393cfbf38b026d9ffbe77f7fb6aee5b137be8bd"), looks := true }, kinds := [], alts := [], laidByText := true, laidKinds := [.data, .data, .data, .data, .data, .pinned], laidTests := true, laidLooks := .later }
def RewriteRequestsUptoCardSaid : Prop := Claim7.holds Tryz.pinned (.plain (OpenSpec.upto rewriteRequestsSpec)) rewriteRequestsUptoCard

/-- THE SECOND FORM's CARD OF 'stewardlaw12.RewriteReads'. -/
def rewriteReadsUptoCard : Claim7 := { stood := { row := rewriteReadsUptoRow, standIns := [], harness := (true, "bbca4f03a42cf4fcf9ab61a85393cfbf38b026d9ffbe77f7fb6aee5b137be8bd"), looks := true }, kinds := [], alts := [], laidByText := true, laidKinds := [.data, .data, .data, .data, .sentinel, .sentinel, .data, .pinned], laidTests := true, laidLooks := .later }
def RewriteReadsUptoCardSaid : Prop := Claim7.holds Tryz.pinned (.plain (OpenSpec.upto rewriteReadsSpec)) rewriteReadsUptoCard

/-- THE SECOND FORM's CARD OF 'stewardlaw12.RewriteAnswers'. -/
def rewriteAnswersUptoCard : Claim7 := { stood := { row := rewriteAnswersUptoRow, standIns := [], harness := (true, "bbca4f03a42cf4fcf9ab61a85393cfbf38b026d9ffbe77f7fb6aee5b137be8bd"), looks := true }, kinds := [], alts := [], laidByText := true, laidKinds := [.data, .data, .data, .data, .sentinel, .sentinel, .data, .pinned], laidTests := true, laidLooks := .later }
def RewriteAnswersUptoCardSaid : Prop := Claim7.holds Tryz.pinned (.plain (OpenSpec.upto rewriteAnswersSpec)) rewriteAnswersUptoCard
end Rows
end Go.Proofs.YtbbphklhnngjmaaGreatDoor
