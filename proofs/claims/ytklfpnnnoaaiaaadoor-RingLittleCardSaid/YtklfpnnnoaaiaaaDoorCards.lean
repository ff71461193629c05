/-
  DERIVED. GIVEN WITH THE SEED: THE CARDS: each row of YtklfpnnnoaaiaaaDoorRows.lean that lists a variable, with what it lists TIED to the program's text (the seventh form; the later family's looks); each row that meets fmt, with fmt's text TOLD by the authors' own Lean function (tested against real Go, not proved from fmt's source: count such statements apart). THE CARD IS WHAT COUNTS. Prove the row's statement (the work); the ties are given (YtklfpnnnoaaiaaaDoorTie.lean); close each card by the builder's one call (the guide's Derived/Test/ToyasCard.lean, 'card_holds'). Laid BY PROGRAM, IN A SANDBOX (cutbox-door.mjs). By AI agents, Wed Nov 11 2026. No macro, syntax, notation, axiom, sorry.
-/
import Derived.Test.YtklfpnnnoaaiaaaDoorRows
import GoSem.ClaimSeven
namespace Go.Proofs.YtklfpnnnoaaiaaaDoor
namespace Rows

/-- THE TIED CARD OF 'stewardlaw19.RingPicks'. -/
def ringPicksCard : Claim7 := { stood := { row := ringPicksRow, standIns := [], harness := (true, "38ae634a0dd1d9e85f031cd7793f1d12d943ceed3c56097ceecc7100a00611ae"), looks := false }, kinds := [], alts := [], laidByText := true, laidKinds := [.data, .data, .data, .data], laidTests := true, laidLooks := .later }
def RingPicksCardSaid : Prop := Claim7.holds Tryd.pinned (.plain (OpenSpec.ofChange ringPicksSpec)) ringPicksCard

/-- THE TIED CARD OF 'stewardlaw19.RingLittle'. -/
def ringLittleCard : Claim7 := { stood := { row := ringLittleRow, standIns := [], harness := (true, "38ae634a0dd1d9e85f031cd7793f1d12d943ceed3c56097ceecc7100a00611ae"), looks := false }, kinds := [], alts := [], laidByText := true, laidKinds := [.data, .data, .data, .data], laidTests := true, laidLooks := .later }
def RingLittleCardSaid : Prop := Claim7.holds Tryd.pinned (.plain (OpenSpec.ofChange ringLittleSpec)) ringLittleCard

/-- THE SECOND FORM's CARD OF 'stewardlaw19.RingPicks'. -/
def ringPicksUptoCard : Claim7 := { stood := { row := ringPicksUptoRow, standIns := [], harness := (true, "38ae634a0dd1d9e85f031cd7793f1d12d943ceed3c56097ceecc7100a00611ae"), looks := false }, kinds := [], alts := [], laidByText := true, laidKinds := [.data, .data, .data, .data], laidTests := true, laidLooks := .later }
def RingPicksUptoCardSaid : Prop := Claim7.holds Tryd.pinned (.plain (OpenSpec.upto ringPicksSpec)) ringPicksUptoCard

/-- THE SECOND FORM's CARD OF 'stewardlaw19.RingLittle'. -/
def ringLittleUptoCard : Claim7 := { stood := { row := ringLittleUptoRow, standIns := [], harness := (true, "38ae634a0dd1d9e85f031cd7793f1d12d943ceed3c56097ceecc7100a00611ae"), looks := false }, kinds := [], alts := [], laidByText := true, laidKinds := [.data, .data, .data, .data], laidTests := true, laidLooks := .later }
def RingLittleUptoCardSaid : Prop := Claim7.holds Tryd.pinned (.plain (OpenSpec.upto ringLittleSpec)) ringLittleUptoCard
end Rows
end Go.Proofs.YtklfpnnnoaaiaaaDoor
