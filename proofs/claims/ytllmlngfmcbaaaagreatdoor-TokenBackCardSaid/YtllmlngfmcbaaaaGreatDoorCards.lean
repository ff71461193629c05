/-
  DERIVED. GIVEN WITH THE SEED: THE CARDS: each row of YtllmlngfmcbaaaaGreatDoorRows.lean that lists a variable, with what it lists TIED to the program's text (the seventh form; the later family's looks); each row that meets fmt, with fmt's text TOLD by the authors' own Lean function (tested against real Go, not proved from fmt's source: count such statements apart). THE CARD IS WHAT COUNTS. Prove the row's statement (the work); the ties are given (YtllmlngfmcbaaaaGreatDoorTie.lean); close each card by the builder's one call (the guide's Derived/Test/ToyasCard.lean, 'card_holds'). Laid BY PROGRAM, IN A SANDBOX (cutbox-door.mjs). By AI agents, Wed Nov 11 2026. No macro, syntax, notation, axiom, sorry.
-/
import Derived.Test.YtllmlngfmcbaaaaGreatDoorRows
import GoSem.ClaimSeven
namespace Go.Proofs.YtllmlngfmcbaaaaGreatDoor
namespace Rows

/-- THE TIED CARD OF 'stewardlaw04.TokenSigns'. -/
def tokenSignsCard : Claim7 := { stood := { row := tokenSignsRow, standIns := [], harness := (true, "df18873a54065f430dc76b61671b27cb3116b1340ae6fa2a146b5ca3a8676007"), looks := true }, kinds := [], alts := [], laidByText := true, laidKinds := [.data, .data, .data, .data, .sentinel, .sentinel, .data, .data, .pinned], laidTests := true, laidLooks := .later }
def TokenSignsCardSaid : Prop := Claim7.holds Tryz.pinned (.plain (OpenSpec.ofChange tokenSignsSpec)) tokenSignsCard

/-- THE TIED CARD OF 'stewardlaw04.TokenVerifies'. -/
def tokenVerifiesCard : Claim7 := { stood := { row := tokenVerifiesRow, standIns := [], harness := (true, "df18873a54065f430dc76b61671b27cb3116b1340ae6fa2a146b5ca3a8676007"), looks := true }, kinds := [], alts := [], laidByText := true, laidKinds := [.data, .data, .data, .data, .sentinel, .sentinel, .data, .data, .pinned], laidTests := true, laidLooks := .later }
def TokenVerifiesCardSaid : Prop := Claim7.holds Tryz.pinned (.plain (OpenSpec.ofChange tokenVerifiesSpec)) tokenVerifiesCard

/-- THE TIED CARD OF 'stewardlaw04.TokenBack'. -/
def tokenBackCard : Claim7 := { stood := { row := tokenBackRow, standIns := [], harness := (true, "df18873a54065f430dc76b61671b27cb3116b1340ae6fa2a146b5ca3a8676007"), looks := true }, kinds := [], alts := [], laidByText := true, laidKinds := [.data, .data, .data, .data, .sentinel, .sentinel, .data, .data, .pinned], laidTests := true, laidLooks := .later }
def TokenBackCardSaid : Prop := Claim7.holds Tryz.pinned (.plain (OpenSpec.ofChange tokenBackSpec)) tokenBackCard

/-- THE TIED CARD OF 'stewardlaw04.TokenTaken'. -/
def tokenTakenCard : Claim7 := { stood := { row := tokenTakenRow, standIns := [], harness := (true, "df18873a54065f430dc76b61671b27cb3116b1340ae6fa2a146b5ca3a8676007"), looks := true }, kinds := [], alts := [], laidByText := true, laidKinds := [.data, .data, .data, .data, .sentinel, .sentinel, .data, .data, .pinned], laidTests := true, laidLooks := .later }
def TokenTakenCardSaid : Prop := Claim7.holds Tryz.pinned (.plain (OpenSpec.ofChange tokenTakenSpec)) tokenTakenCard

/-- THE TIED CARD OF 'stewardlaw04.TokenFinds'. -/
def tokenFindsCard : Claim7 := { stood := { row := tokenFindsRow, standIns := [], harness := (true, "df18873a54065f430dc76b61671b27cb3116b1340ae6fa2a146b5ca3a8676007"), looks := true }, kinds := [], alts := [], laidByText := true, laidKinds := [.data, .data, .data, .data, .sentinel, .sentinel, .data, .data, .pinned], laidTests := true, laidLooks := .later }
def TokenFindsCardSaid : Prop := Claim7.holds Tryz.pinned (.plain (OpenSpec.ofChange tokenFindsSpec)) tokenFindsCard

/-- THE TIED CARD OF 'stewardtop.StewardPins'. -/
def stewardPinsCard : Claim7 := { stood := { row := stewardPinsRow, standIns := [], harness := (true, "df18873a54065f430dc76b61671b27cb3116b1340ae6fa2a146b5ca3a8676007"), looks := true }, kinds := [], alts := [], laidByText := true, laidKinds := [.data, .data, .data, .data, .sentinel, .sentinel, .data, .data, .pinned], laidTests := true, laidLooks := .later }
def StewardPinsCardSaid : Prop := Claim7.holds Tryz.pinned (.plain (OpenSpec.ofChange stewardPinsSpec)) stewardPinsCard

/-- THE SECOND FORM's CARD OF 'stewardlaw04.TokenSigns'. -/
def tokenSignsUptoCard : Claim7 := { stood := { row := tokenSignsUptoRow, standIns := [], harness := (true, "df18873a54065f430dc76b61671b27cb3116b1340ae6fa2a146b5ca3a8676007"), looks := true }, kinds := [], alts := [], laidByText := true, laidKinds := [.data, .data, .data, .data, .sentinel, .sentinel, .data, .data, .pinned], laidTests := true, laidLooks := .later }
def TokenSignsUptoCardSaid : Prop := Claim7.holds Tryz.pinned (.plain (OpenSpec.upto tokenSignsSpec)) tokenSignsUptoCard

/-- THE SECOND FORM's CARD OF 'stewardlaw04.TokenVerifies'. -/
def tokenVerifiesUptoCard : Claim7 := { stood := { row := tokenVerifiesUptoRow, standIns := [], harness := (true, "df18873a54065f430dc76b61671b27cb3116b1340ae6fa2a146b5ca3a8676007"), looks := true }, kinds := [], alts := [], laidByText := true, laidKinds := [.data, .data, .data, .data, .sentinel, .sentinel, .data, .data, .pinned], laidTests := true, laidLooks := .later }
def TokenVerifiesUptoCardSaid : Prop := Claim7.holds Tryz.pinned (.plain (OpenSpec.upto tokenVerifiesSpec)) tokenVerifiesUptoCard

/-- THE SECOND FORM's CARD OF 'stewardlaw04.TokenBack'. -/
def tokenBackUptoCard : Claim7 := { stood := { row := tokenBackUptoRow, standIns := [], harness := (true, "df18873a54065f430dc76b61671b27cb3116b1340ae6fa2a146b5ca3a8676007"), looks := true }, kinds := [], alts := [], laidByText := true, laidKinds := [.data, .data, .data, .data, .sentinel, .sentinel, .data, .data, .pinned], laidTests := true, laidLooks := .later }
def TokenBackUptoCardSaid : Prop := Claim7.holds Tryz.pinned (.plain (OpenSpec.upto tokenBackSpec)) tokenBackUptoCard

/-- THE SECOND FORM's CARD OF 'stewardlaw04.TokenTaken'. -/
def tokenTakenUptoCard : Claim7 := { stood := { row := tokenTakenUptoRow, standIns := [], harness := (true, "df18873a54065f430dc76b61671b27cb3116b1340ae6fa2a146b5ca3a8676007"), looks := true }, kinds := [], alts := [], laidByText := true, laidKinds := [.data, .data, .data, .data, .sentinel, .sentinel, .data, .data, .pinned], laidTests := true, laidLooks := .later }
def TokenTakenUptoCardSaid : Prop := Claim7.holds Tryz.pinned (.plain (OpenSpec.upto tokenTakenSpec)) tokenTakenUptoCard

/-- THE SECOND FORM's CARD OF 'stewardlaw04.TokenFinds'. -/
def tokenFindsUptoCard : Claim7 := { stood := { row := tokenFindsUptoRow, standIns := [], harness := (true, "df18873a54065f430dc76b61671b27cb3116b1340ae6fa2a146b5ca3a8676007"), looks := true }, kinds := [], alts := [], laidByText := true, laidKinds := [.data, .data, .data, .data, .sentinel, .sentinel, .data, .data, .pinned], laidTests := true, laidLooks := .later }
def TokenFindsUptoCardSaid : Prop := Claim7.holds Tryz.pinned (.plain (OpenSpec.upto tokenFindsSpec)) tokenFindsUptoCard

/-- THE SECOND FORM's CARD OF 'stewardtop.StewardPins'. -/
def stewardPinsUptoCard : Claim7 := { stood := { row := stewardPinsUptoRow, standIns := [], harness := (true, "df18873a54065f430dc76b61671b27cb3116b1340ae6fa2a146b5ca3a8676007"), looks := true }, kinds := [], alts := [], laidByText := true, laidKinds := [.data, .data, .data, .data, .sentinel, .sentinel, .data, .data, .pinned], laidTests := true, laidLooks := .later }
def StewardPinsUptoCardSaid : Prop := Claim7.holds Tryz.pinned (.plain (OpenSpec.upto stewardPinsSpec)) stewardPinsUptoCard
end Rows
end Go.Proofs.YtllmlngfmcbaaaaGreatDoor
