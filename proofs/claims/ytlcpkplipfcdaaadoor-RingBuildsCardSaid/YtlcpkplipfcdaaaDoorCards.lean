/-
  DERIVED. GIVEN WITH THE SEED: THE CARDS: each row of YtlcpkplipfcdaaaDoorRows.lean that lists a variable, with what it lists TIED to the program's text (the seventh form; the later family's looks); each row that meets fmt, with fmt's text TOLD by the authors' own Lean function (tested against real Go, not proved from fmt's source: count such statements apart). THE CARD IS WHAT COUNTS. Prove the row's statement (the work); the ties are given (YtlcpkplipfcdaaaDoorTie.lean); close each card by the builder's one call (the guide's Derived/Test/ToyasCard.lean, 'card_holds'). Laid BY PROGRAM, IN A SANDBOX (cutbox-door.mjs). By AI agents, Wed Nov 11 2026. No macro, syntax, notation, axiom, sorry.
-/
import Derived.Test.YtlcpkplipfcdaaaDoorRows
import GoSem.ClaimSeven
namespace Go.Proofs.YtlcpkplipfcdaaaDoor
namespace Rows

/-- THE TIED CARD OF 'stewardlaw18.MaglevBuilds'. -/
def maglevBuildsCard : Claim7 := { stood := { row := maglevBuildsRow, standIns := [], harness := (true, "d541f8ef6954eaa8231764c73a5f04076e35357f6359d847479f0e6d6a9e06ac"), looks := false }, kinds := [], alts := [], laidByText := true, laidKinds := [.data], laidTests := true, laidLooks := .later }
def MaglevBuildsCardSaid : Prop := Claim7.holds Tryd.pinned (.plain (OpenSpec.ofChange maglevBuildsSpec)) maglevBuildsCard

/-- THE TIED CARD OF 'stewardlaw18.MaglevPicks'. -/
def maglevPicksCard : Claim7 := { stood := { row := maglevPicksRow, standIns := [], harness := (true, "d541f8ef6954eaa8231764c73a5f04076e35357f6359d847479f0e6d6a9e06ac"), looks := false }, kinds := [], alts := [], laidByText := true, laidKinds := [.data], laidTests := true, laidLooks := .later }
def MaglevPicksCardSaid : Prop := Claim7.holds Tryd.pinned (.plain (OpenSpec.ofChange maglevPicksSpec)) maglevPicksCard

/-- THE TIED CARD OF 'stewardlaw19.RingBuilds'. -/
def ringBuildsCard : Claim7 := { stood := { row := ringBuildsRow, standIns := [], harness := (true, "d541f8ef6954eaa8231764c73a5f04076e35357f6359d847479f0e6d6a9e06ac"), looks := false }, kinds := [], alts := [], laidByText := true, laidKinds := [.data, .data, .data, .data], laidTests := true, laidLooks := .later }
def RingBuildsCardSaid : Prop := Claim7.holds Tryd.pinned (.plain (OpenSpec.ofChange ringBuildsSpec)) ringBuildsCard

/-- THE TIED CARD OF 'stewardlaw19.RingPicks'. -/
def ringPicksCard : Claim7 := { stood := { row := ringPicksRow, standIns := [], harness := (true, "d541f8ef6954eaa8231764c73a5f04076e35357f6359d847479f0e6d6a9e06ac"), looks := false }, kinds := [], alts := [], laidByText := true, laidKinds := [.data, .data, .data, .data], laidTests := true, laidLooks := .later }
def RingPicksCardSaid : Prop := Claim7.holds Tryd.pinned (.plain (OpenSpec.ofChange ringPicksSpec)) ringPicksCard

/-- THE TIED CARD OF 'stewardlaw19.RingLittle'. -/
def ringLittleCard : Claim7 := { stood := { row := ringLittleRow, standIns := [], harness := (true, "d541f8ef6954eaa8231764c73a5f04076e35357f6359d847479f0e6d6a9e06ac"), looks := false }, kinds := [], alts := [], laidByText := true, laidKinds := [.data, .data, .data, .data], laidTests := true, laidLooks := .later }
def RingLittleCardSaid : Prop := Claim7.holds Tryd.pinned (.plain (OpenSpec.ofChange ringLittleSpec)) ringLittleCard

/-- THE TIED CARD OF 'stewardlaw19.RingOrder'. -/
def ringOrderCard : Claim7 := { stood := { row := ringOrderRow, standIns := [], harness := (true, "d541f8ef6954eaa8231764c73a5f04076e35357f6359d847479f0e6d6a9e06ac"), looks := false }, kinds := [], alts := [], laidByText := true, laidKinds := [.data, .data, .data, .data], laidTests := true, laidLooks := .later }
def RingOrderCardSaid : Prop := Claim7.holds Tryd.pinned (.plain (OpenSpec.ofChange ringOrderSpec)) ringOrderCard

/-- THE SECOND FORM's CARD OF 'stewardlaw18.MaglevBuilds'. -/
def maglevBuildsUptoCard : Claim7 := { stood := { row := maglevBuildsUptoRow, standIns := [], harness := (true, "d541f8ef6954eaa8231764c73a5f04076e35357f6359d847479f0e6d6a9e06ac"), looks := false }, kinds := [], alts := [], laidByText := true, laidKinds := [.data], laidTests := true, laidLooks := .later }
def MaglevBuildsUptoCardSaid : Prop := Claim7.holds Tryd.pinned (.plain (OpenSpec.upto maglevBuildsSpec)) maglevBuildsUptoCard

/-- THE SECOND FORM's CARD OF 'stewardlaw18.MaglevPicks'. -/
def maglevPicksUptoCard : Claim7 := { stood := { row := maglevPicksUptoRow, standIns := [], harness := (true, "d541f8ef6954eaa8231764c73a5f04076e35357f6359d847479f0e6d6a9e06ac"), looks := false }, kinds := [], alts := [], laidByText := true, laidKinds := [.data], laidTests := true, laidLooks := .later }
def MaglevPicksUptoCardSaid : Prop := Claim7.holds Tryd.pinned (.plain (OpenSpec.upto maglevPicksSpec)) maglevPicksUptoCard

/-- THE SECOND FORM's CARD OF 'stewardlaw19.RingBuilds'. -/
def ringBuildsUptoCard : Claim7 := { stood := { row := ringBuildsUptoRow, standIns := [], harness := (true, "d541f8ef6954eaa8231764c73a5f04076e35357f6359d847479f0e6d6a9e06ac"), looks := false }, kinds := [], alts := [], laidByText := true, laidKinds := [.data, .data, .data, .data], laidTests := true, laidLooks := .later }
def RingBuildsUptoCardSaid : Prop := Claim7.holds Tryd.pinned (.plain (OpenSpec.upto ringBuildsSpec)) ringBuildsUptoCard

/-- THE SECOND FORM's CARD OF 'stewardlaw19.RingPicks'. -/
def ringPicksUptoCard : Claim7 := { stood := { row := ringPicksUptoRow, standIns := [], harness := (true, "d541f8ef6954eaa8231764c73a5f04076e35357f6359d847479f0e6d6a9e06ac"), looks := false }, kinds := [], alts := [], laidByText := true, laidKinds := [.data, .data, .data, .data], laidTests := true, laidLooks := .later }
def RingPicksUptoCardSaid : Prop := Claim7.holds Tryd.pinned (.plain (OpenSpec.upto ringPicksSpec)) ringPicksUptoCard

/-- THE SECOND FORM's CARD OF 'stewardlaw19.RingLittle'. -/
def ringLittleUptoCard : Claim7 := { stood := { row := ringLittleUptoRow, standIns := [], harness := (true, "d541f8ef6954eaa8231764c73a5f04076e35357f6359d847479f0e6d6a9e06ac"), looks := false }, kinds := [], alts := [], laidByText := true, laidKinds := [.data, .data, .data, .data], laidTests := true, laidLooks := .later }
def RingLittleUptoCardSaid : Prop := Claim7.holds Tryd.pinned (.plain (OpenSpec.upto ringLittleSpec)) ringLittleUptoCard

/-- THE SECOND FORM's CARD OF 'stewardlaw19.RingOrder'. -/
def ringOrderUptoCard : Claim7 := { stood := { row := ringOrderUptoRow, standIns := [], harness := (true, "d541f8ef6954eaa8231764c73a5f04076e35357f6359d847479f0e6d6a9e06ac"), looks := false }, kinds := [], alts := [], laidByText := true, laidKinds := [.data, .data, .data, .data], laidTests := true, laidLooks := .later }
def RingOrderUptoCardSaid : Prop := Claim7.holds Tryd.pinned (.plain (OpenSpec.upto ringOrderSpec)) ringOrderUptoCard
end Rows
end Go.Proofs.YtlcpkplipfcdaaaDoor
