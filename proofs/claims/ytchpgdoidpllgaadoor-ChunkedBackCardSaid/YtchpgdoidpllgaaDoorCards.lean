/-
  DERIVED. GIVEN WITH THE SEED: THE CARDS: each row of YtchpgdoidpllgaaDoorRows.lean that lists a variable, with what it lists TIED to the program's text (the seventh form; the later family's looks); each row that meets fmt, with fmt's text TOLD by the authors' own Lean function (tested against real Go, not proved from fmt's source: count such statements apart). THE CARD IS WHAT COUNTS. Prove the row's statement (the work); the ties are given (YtchpgdoidpllgaaDoorTie.lean); close each card by the builder's one call (the guide's Derived/Test/ToyasCard.lean, 'card_holds'). Laid BY PROGRAM, IN A SANDBOX (cutbox-door.mjs). By AI agents, Wed Nov 11 2026. No macro, syntax, notation, axiom, sorry.
-/
import Derived.Test.YtchpgdoidpllgaaDoorRows
import GoSem.ClaimSeven
namespace Go.Proofs.YtchpgdoidpllgaaDoor
namespace Rows

/-- THE TIED CARD OF 'stewardlaw09.ChunkedDecodes'. -/
def chunkedDecodesCard : Claim7 := { stood := { row := chunkedDecodesRow, standIns := [], harness := (true, "1bbe3a3f272450d39512882c73cc17a56eddaeda8c135dea80ff6bb082aac0ba"), looks := true }, kinds := [], alts := [], laidByText := true, laidKinds := [.data, .data, .data, .sentinel, .sentinel], laidTests := true, laidLooks := .later }
def ChunkedDecodesCardSaid : Prop := Claim7.holds Tryd.pinned (.plain (OpenSpec.ofChange chunkedDecodesSpec)) chunkedDecodesCard

/-- THE TIED CARD OF 'stewardlaw09.ChunkedBack'. -/
def chunkedBackCard : Claim7 := { stood := { row := chunkedBackRow, standIns := [], harness := (true, "1bbe3a3f272450d39512882c73cc17a56eddaeda8c135dea80ff6bb082aac0ba"), looks := true }, kinds := [], alts := [], laidByText := true, laidKinds := [.data, .data, .data, .sentinel, .sentinel], laidTests := true, laidLooks := .later }
def ChunkedBackCardSaid : Prop := Claim7.holds Tryd.pinned (.plain (OpenSpec.ofChange chunkedBackSpec)) chunkedBackCard

/-- THE TIED CARD OF 'stewardlaw09.ChunkedBig'. -/
def chunkedBigCard : Claim7 := { stood := { row := chunkedBigRow, standIns := [], harness := (true, "1bbe3a3f272450d39512882c73cc17a56eddaeda8c135dea80ff6bb082aac0ba"), looks := true }, kinds := [], alts := [], laidByText := true, laidKinds := [.data, .data, .data, .sentinel, .sentinel], laidTests := true, laidLooks := .later }
def ChunkedBigCardSaid : Prop := Claim7.holds Tryd.pinned (.plain (OpenSpec.ofChange chunkedBigSpec)) chunkedBigCard

/-- THE SECOND FORM's CARD OF 'stewardlaw09.ChunkedDecodes'. -/
def chunkedDecodesUptoCard : Claim7 := { stood := { row := chunkedDecodesUptoRow, standIns := [], harness := (true, "1bbe3a3f272450d39512882c73cc17a56eddaeda8c135dea80ff6bb082aac0ba"), looks := true }, kinds := [], alts := [], laidByText := true, laidKinds := [.data, .data, .data, .sentinel, .sentinel], laidTests := true, laidLooks := .later }
def ChunkedDecodesUptoCardSaid : Prop := Claim7.holds Tryd.pinned (.plain (OpenSpec.upto chunkedDecodesSpec)) chunkedDecodesUptoCard

/-- THE SECOND FORM's CARD OF 'stewardlaw09.ChunkedBack'. -/
def chunkedBackUptoCard : Claim7 := { stood := { row := chunkedBackUptoRow, standIns := [], harness := (true, "1bbe3a3f272450d39512882c73cc17a56eddaeda8c135dea80ff6bb082aac0ba"), looks := true }, kinds := [], alts := [], laidByText := true, laidKinds := [.data, .data, .data, .sentinel, .sentinel], laidTests := true, laidLooks := .later }
def ChunkedBackUptoCardSaid : Prop := Claim7.holds Tryd.pinned (.plain (OpenSpec.upto chunkedBackSpec)) chunkedBackUptoCard

/-- THE SECOND FORM's CARD OF 'stewardlaw09.ChunkedBig'. -/
def chunkedBigUptoCard : Claim7 := { stood := { row := chunkedBigUptoRow, standIns := [], harness := (true, "1bbe3a3f272450d39512882c73cc17a56eddaeda8c135dea80ff6bb082aac0ba"), looks := true }, kinds := [], alts := [], laidByText := true, laidKinds := [.data, .data, .data, .sentinel, .sentinel], laidTests := true, laidLooks := .later }
def ChunkedBigUptoCardSaid : Prop := Claim7.holds Tryd.pinned (.plain (OpenSpec.upto chunkedBigSpec)) chunkedBigUptoCard
end Rows
end Go.Proofs.YtchpgdoidpllgaaDoor
