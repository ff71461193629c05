/-
  DERIVED. GIVEN WITH THE SEED: THE CARDS: each row of YtpmkcmkohobmfaaDoorRows.lean that lists a variable, with what it lists TIED to the program's text (the seventh form; the later family's looks); each row that meets fmt, with fmt's text TOLD by the authors' own Lean function (tested against real Go, not proved from fmt's source: count such statements apart). THE CARD IS WHAT COUNTS. Prove the row's statement (the work); the ties are given (YtpmkcmkohobmfaaDoorTie.lean); close each card by the builder's one call (the guide's Derived/Test/ToyasCard.lean, 'card_holds'). Laid BY PROGRAM, IN A SANDBOX (cutbox-door.mjs). By AI agents, Wed Nov 11 2026. No macro, syntax, notation, axiom, sorry.
-/
import Derived.Test.YtpmkcmkohobmfaaDoorRows
import GoSem.ClaimSeven
namespace Go.Proofs.YtpmkcmkohobmfaaDoor
namespace Rows

/-- THE TIED CARD OF 'stewardlaw01.SiphashSums'. -/
def siphashSumsCard : Claim7 := { stood := { row := siphashSumsRow, standIns := [], harness := (true, "85b778260c35baa101ab0103468df7546118ba9b6d9d49a41caaa1e3b01fd159"), looks := false }, kinds := [], alts := [], laidByText := true, laidKinds := [.data], laidTests := true, laidLooks := .later }
def SiphashSumsCardSaid : Prop := Claim7.holds Tryd.pinned (.plain (OpenSpec.ofChange siphashSumsSpec)) siphashSumsCard

/-- THE TIED CARD OF 'stewardlaw01.SiphashParts'. -/
def siphashPartsCard : Claim7 := { stood := { row := siphashPartsRow, standIns := [], harness := (true, "85b778260c35baa101ab0103468df7546118ba9b6d9d49a41caaa1e3b01fd159"), looks := false }, kinds := [], alts := [], laidByText := true, laidKinds := [.data], laidTests := true, laidLooks := .later }
def SiphashPartsCardSaid : Prop := Claim7.holds Tryd.pinned (.plain (OpenSpec.ofChange siphashPartsSpec)) siphashPartsCard

/-- THE TIED CARD OF 'stewardlaw01.SiphashBelow'. -/
def siphashBelowCard : Claim7 := { stood := { row := siphashBelowRow, standIns := [], harness := (true, "85b778260c35baa101ab0103468df7546118ba9b6d9d49a41caaa1e3b01fd159"), looks := false }, kinds := [], alts := [], laidByText := true, laidKinds := [.data], laidTests := true, laidLooks := .later }
def SiphashBelowCardSaid : Prop := Claim7.holds Tryd.pinned (.plain (OpenSpec.ofChange siphashBelowSpec)) siphashBelowCard

/-- THE TIED CARD OF 'stewardlaw01.SiphashKeys'. -/
def siphashKeysCard : Claim7 := { stood := { row := siphashKeysRow, standIns := [], harness := (true, "85b778260c35baa101ab0103468df7546118ba9b6d9d49a41caaa1e3b01fd159"), looks := false }, kinds := [], alts := [], laidByText := true, laidKinds := [.data], laidTests := true, laidLooks := .later }
def SiphashKeysCardSaid : Prop := Claim7.holds Tryd.pinned (.plain (OpenSpec.ofChange siphashKeysSpec)) siphashKeysCard

/-- THE TIED CARD OF 'stewardlaw02.BlakeSums'. -/
def blakeSumsCard : Claim7 := { stood := { row := blakeSumsRow, standIns := [], harness := (true, "85b778260c35baa101ab0103468df7546118ba9b6d9d49a41caaa1e3b01fd159"), looks := false }, kinds := [], alts := [], laidByText := true, laidKinds := [.data, .data], laidTests := true, laidLooks := .later }
def BlakeSumsCardSaid : Prop := Claim7.holds Tryd.pinned (.plain (OpenSpec.ofChange blakeSumsSpec)) blakeSumsCard

/-- THE TIED CARD OF 'stewardlaw02.BlakeParts'. -/
def blakePartsCard : Claim7 := { stood := { row := blakePartsRow, standIns := [], harness := (true, "85b778260c35baa101ab0103468df7546118ba9b6d9d49a41caaa1e3b01fd159"), looks := false }, kinds := [], alts := [], laidByText := true, laidKinds := [.data, .data], laidTests := true, laidLooks := .later }
def BlakePartsCardSaid : Prop := Claim7.holds Tryd.pinned (.plain (OpenSpec.ofChange blakePartsSpec)) blakePartsCard

/-- THE TIED CARD OF 'stewardlaw02.BlakeHex'. -/
def blakeHexCard : Claim7 := { stood := { row := blakeHexRow, standIns := [], harness := (true, "85b778260c35baa101ab0103468df7546118ba9b6d9d49a41caaa1e3b01fd159"), looks := false }, kinds := [], alts := [], laidByText := true, laidKinds := [.data, .data], laidTests := true, laidLooks := .later }
def BlakeHexCardSaid : Prop := Claim7.holds Tryd.pinned (.plain (OpenSpec.ofChange blakeHexSpec)) blakeHexCard

/-- THE SECOND FORM's CARD OF 'stewardlaw01.SiphashSums'. -/
def siphashSumsUptoCard : Claim7 := { stood := { row := siphashSumsUptoRow, standIns := [], harness := (true, "85b778260c35baa101ab0103468df7546118ba9b6d9d49a41caaa1e3b01fd159"), looks := false }, kinds := [], alts := [], laidByText := true, laidKinds := [.data], laidTests := true, laidLooks := .later }
def SiphashSumsUptoCardSaid : Prop := Claim7.holds Tryd.pinned (.plain (OpenSpec.upto siphashSumsSpec)) siphashSumsUptoCard

/-- THE SECOND FORM's CARD OF 'stewardlaw01.SiphashParts'. -/
def siphashPartsUptoCard : Claim7 := { stood := { row := siphashPartsUptoRow, standIns := [], harness := (true, "85b778260c35baa101ab0103468df7546118ba9b6d9d49a41caaa1e3b01fd159"), looks := false }, kinds := [], alts := [], laidByText := true, laidKinds := [.data], laidTests := true, laidLooks := .later }
def SiphashPartsUptoCardSaid : Prop := Claim7.holds Tryd.pinned (.plain (OpenSpec.upto siphashPartsSpec)) siphashPartsUptoCard

/-- THE SECOND FORM's CARD OF 'stewardlaw01.SiphashBelow'. -/
def siphashBelowUptoCard : Claim7 := { stood := { row := siphashBelowUptoRow, standIns := [], harness := (true, "85b778260c35baa101ab0103468df7546118ba9b6d9d49a41caaa1e3b01fd159"), looks := false }, kinds := [], alts := [], laidByText := true, laidKinds := [.data], laidTests := true, laidLooks := .later }
def SiphashBelowUptoCardSaid : Prop := Claim7.holds Tryd.pinned (.plain (OpenSpec.upto siphashBelowSpec)) siphashBelowUptoCard

/-- THE SECOND FORM's CARD OF 'stewardlaw01.SiphashKeys'. -/
def siphashKeysUptoCard : Claim7 := { stood := { row := siphashKeysUptoRow, standIns := [], harness := (true, "85b778260c35baa101ab0103468df7546118ba9b6d9d49a41caaa1e3b01fd159"), looks := false }, kinds := [], alts := [], laidByText := true, laidKinds := [.data], laidTests := true, laidLooks := .later }
def SiphashKeysUptoCardSaid : Prop := Claim7.holds Tryd.pinned (.plain (OpenSpec.upto siphashKeysSpec)) siphashKeysUptoCard

/-- THE SECOND FORM's CARD OF 'stewardlaw02.BlakeSums'. -/
def blakeSumsUptoCard : Claim7 := { stood := { row := blakeSumsUptoRow, standIns := [], harness := (true, "85b778260c35baa101ab0103468df7546118ba9b6d9d49a41caaa1e3b01fd159"), looks := false }, kinds := [], alts := [], laidByText := true, laidKinds := [.data, .data], laidTests := true, laidLooks := .later }
def BlakeSumsUptoCardSaid : Prop := Claim7.holds Tryd.pinned (.plain (OpenSpec.upto blakeSumsSpec)) blakeSumsUptoCard

/-- THE SECOND FORM's CARD OF 'stewardlaw02.BlakeParts'. -/
def blakePartsUptoCard : Claim7 := { stood := { row := blakePartsUptoRow, standIns := [], harness := (true, "85b778260c35baa101ab0103468df7546118ba9b6d9d49a41caaa1e3b01fd159"), looks := false }, kinds := [], alts := [], laidByText := true, laidKinds := [.data, .data], laidTests := true, laidLooks := .later }
def BlakePartsUptoCardSaid : Prop := Claim7.holds Tryd.pinned (.plain (OpenSpec.upto blakePartsSpec)) blakePartsUptoCard

/-- THE SECOND FORM's CARD OF 'stewardlaw02.BlakeHex'. -/
def blakeHexUptoCard : Claim7 := { stood := { row := blakeHexUptoRow, standIns := [], harness := (true, "85b778260c35baa101ab0103468df7546118ba9b6d9d49a41caaa1e3b01fd159"), looks := false }, kinds := [], alts := [], laidByText := true, laidKinds := [.data, .data], laidTests := true, laidLooks := .later }
def BlakeHexUptoCardSaid : Prop := Claim7.holds Tryd.pinned (.plain (OpenSpec.upto blakeHexSpec)) blakeHexUptoCard
end Rows
end Go.Proofs.YtpmkcmkohobmfaaDoor
