/-
  DERIVED. GIVEN WITH THE SEED: THE CARDS: each row of YtneagccakoakpaaDoorRows.lean that lists a variable, with what it lists TIED to the program's text (the seventh form; the later family's looks); each row that meets fmt, with fmt's text TOLD by the authors' own Lean function (tested against real Go, not proved from fmt's source: count such statements apart). THE CARD IS WHAT COUNTS. Prove the row's statement (the work); the ties are given (YtneagccakoakpaaDoorTie.lean); close each card by the builder's one call (the guide's Derived/Test/ToyasCard.lean, 'card_holds'). Laid BY PROGRAM, IN A SANDBOX (cutbox-door.mjs). By AI agents, Wed Nov 11 2026. No macro, syntax, notation, axiom, sorry.
-/
import Derived.Test.YtneagccakoakpaaDoorRows
import GoSem.ClaimSeven
namespace Go.Proofs.YtneagccakoakpaaDoor
namespace Rows

/-- THE TIED CARD OF 'stewardlaw05.OctetMay'. -/
def octetMayCard : Claim7 := { stood := { row := octetMayRow, standIns := [], harness := (true, "c7fa427598e5f9d3d3a6ee3c7a00be3ed2fe384899e037c528d3a686d19c139d"), looks := true }, kinds := [], alts := [], laidByText := true, laidKinds := [.data, .data, .data, .data, .sentinel, .sentinel, .pinned], laidTests := true, laidLooks := .later }
def OctetMayCardSaid : Prop := Claim7.holds Tryd.pinned (.plain (OpenSpec.ofChange octetMaySpec)) octetMayCard

/-- THE TIED CARD OF 'stewardlaw05.OctetCases'. -/
def octetCasesCard : Claim7 := { stood := { row := octetCasesRow, standIns := [], harness := (true, "c7fa427598e5f9d3d3a6ee3c7a00be3ed2fe384899e037c528d3a686d19c139d"), looks := true }, kinds := [], alts := [], laidByText := true, laidKinds := [.data, .data, .data, .data, .sentinel, .sentinel, .pinned], laidTests := true, laidLooks := .later }
def OctetCasesCardSaid : Prop := Claim7.holds Tryd.pinned (.plain (OpenSpec.ofChange octetCasesSpec)) octetCasesCard

/-- THE TIED CARD OF 'stewardlaw05.OctetNumbers'. -/
def octetNumbersCard : Claim7 := { stood := { row := octetNumbersRow, standIns := [], harness := (true, "c7fa427598e5f9d3d3a6ee3c7a00be3ed2fe384899e037c528d3a686d19c139d"), looks := true }, kinds := [], alts := [], laidByText := true, laidKinds := [.data, .data, .data, .data, .sentinel, .sentinel, .pinned], laidTests := true, laidLooks := .later }
def OctetNumbersCardSaid : Prop := Claim7.holds Tryd.pinned (.plain (OpenSpec.ofChange octetNumbersSpec)) octetNumbersCard

/-- THE TIED CARD OF 'stewardlaw05.OctetDigits'. -/
def octetDigitsCard : Claim7 := { stood := { row := octetDigitsRow, standIns := [], harness := (true, "c7fa427598e5f9d3d3a6ee3c7a00be3ed2fe384899e037c528d3a686d19c139d"), looks := true }, kinds := [], alts := [], laidByText := true, laidKinds := [.data, .data, .data, .data, .sentinel, .sentinel, .pinned], laidTests := true, laidLooks := .later }
def OctetDigitsCardSaid : Prop := Claim7.holds Tryd.pinned (.plain (OpenSpec.ofChange octetDigitsSpec)) octetDigitsCard

/-- THE TIED CARD OF 'stewardlaw05.OctetLists'. -/
def octetListsCard : Claim7 := { stood := { row := octetListsRow, standIns := [], harness := (true, "c7fa427598e5f9d3d3a6ee3c7a00be3ed2fe384899e037c528d3a686d19c139d"), looks := true }, kinds := [], alts := [], laidByText := true, laidKinds := [.data, .data, .data, .data, .sentinel, .sentinel, .pinned], laidTests := true, laidLooks := .later }
def OctetListsCardSaid : Prop := Claim7.holds Tryd.pinned (.plain (OpenSpec.ofChange octetListsSpec)) octetListsCard

/-- THE TIED CARD OF 'stewardlaw06.FieldsParse'. -/
def fieldsParseCard : Claim7 := { stood := { row := fieldsParseRow, standIns := [], harness := (true, "c7fa427598e5f9d3d3a6ee3c7a00be3ed2fe384899e037c528d3a686d19c139d"), looks := true }, kinds := [], alts := [], laidByText := true, laidKinds := [.data, .pinned], laidTests := true, laidLooks := .later }
def FieldsParseCardSaid : Prop := Claim7.holds Tryd.pinned (.plain (OpenSpec.ofChange fieldsParseSpec)) fieldsParseCard

/-- THE TIED CARD OF 'stewardlaw06.FieldsLists'. -/
def fieldsListsCard : Claim7 := { stood := { row := fieldsListsRow, standIns := [], harness := (true, "c7fa427598e5f9d3d3a6ee3c7a00be3ed2fe384899e037c528d3a686d19c139d"), looks := true }, kinds := [], alts := [], laidByText := true, laidKinds := [.data, .pinned], laidTests := true, laidLooks := .later }
def FieldsListsCardSaid : Prop := Claim7.holds Tryd.pinned (.plain (OpenSpec.ofChange fieldsListsSpec)) fieldsListsCard

/-- THE TIED CARD OF 'stewardlaw06.FieldsDrops'. -/
def fieldsDropsCard : Claim7 := { stood := { row := fieldsDropsRow, standIns := [], harness := (true, "c7fa427598e5f9d3d3a6ee3c7a00be3ed2fe384899e037c528d3a686d19c139d"), looks := true }, kinds := [], alts := [], laidByText := true, laidKinds := [.data, .pinned], laidTests := true, laidLooks := .later }
def FieldsDropsCardSaid : Prop := Claim7.holds Tryd.pinned (.plain (OpenSpec.ofChange fieldsDropsSpec)) fieldsDropsCard

/-- THE TIED CARD OF 'stewardlaw06.FieldsSame'. -/
def fieldsSameCard : Claim7 := { stood := { row := fieldsSameRow, standIns := [], harness := (true, "c7fa427598e5f9d3d3a6ee3c7a00be3ed2fe384899e037c528d3a686d19c139d"), looks := true }, kinds := [], alts := [], laidByText := true, laidKinds := [.data, .pinned], laidTests := true, laidLooks := .later }
def FieldsSameCardSaid : Prop := Claim7.holds Tryd.pinned (.plain (OpenSpec.ofChange fieldsSameSpec)) fieldsSameCard

/-- THE SECOND FORM's CARD OF 'stewardlaw05.OctetMay'. -/
def octetMayUptoCard : Claim7 := { stood := { row := octetMayUptoRow, standIns := [], harness := (true, "c7fa427598e5f9d3d3a6ee3c7a00be3ed2fe384899e037c528d3a686d19c139d"), looks := true }, kinds := [], alts := [], laidByText := true, laidKinds := [.data, .data, .data, .data, .sentinel, .sentinel, .pinned], laidTests := true, laidLooks := .later }
def OctetMayUptoCardSaid : Prop := Claim7.holds Tryd.pinned (.plain (OpenSpec.upto octetMaySpec)) octetMayUptoCard

/-- THE SECOND FORM's CARD OF 'stewardlaw05.OctetCases'. -/
def octetCasesUptoCard : Claim7 := { stood := { row := octetCasesUptoRow, standIns := [], harness := (true, "c7fa427598e5f9d3d3a6ee3c7a00be3ed2fe384899e037c528d3a686d19c139d"), looks := true }, kinds := [], alts := [], laidByText := true, laidKinds := [.data, .data, .data, .data, .sentinel, .sentinel, .pinned], laidTests := true, laidLooks := .later }
def OctetCasesUptoCardSaid : Prop := Claim7.holds Tryd.pinned (.plain (OpenSpec.upto octetCasesSpec)) octetCasesUptoCard

/-- THE SECOND FORM's CARD OF 'stewardlaw05.OctetNumbers'. -/
def octetNumbersUptoCard : Claim7 := { stood := { row := octetNumbersUptoRow, standIns := [], harness := (true, "c7fa427598e5f9d3d3a6ee3c7a00be3ed2fe384899e037c528d3a686d19c139d"), looks := true }, kinds := [], alts := [], laidByText := true, laidKinds := [.data, .data, .data, .data, .sentinel, .sentinel, .pinned], laidTests := true, laidLooks := .later }
def OctetNumbersUptoCardSaid : Prop := Claim7.holds Tryd.pinned (.plain (OpenSpec.upto octetNumbersSpec)) octetNumbersUptoCard

/-- THE SECOND FORM's CARD OF 'stewardlaw05.OctetDigits'. -/
def octetDigitsUptoCard : Claim7 := { stood := { row := octetDigitsUptoRow, standIns := [], harness := (true, "c7fa427598e5f9d3d3a6ee3c7a00be3ed2fe384899e037c528d3a686d19c139d"), looks := true }, kinds := [], alts := [], laidByText := true, laidKinds := [.data, .data, .data, .data, .sentinel, .sentinel, .pinned], laidTests := true, laidLooks := .later }
def OctetDigitsUptoCardSaid : Prop := Claim7.holds Tryd.pinned (.plain (OpenSpec.upto octetDigitsSpec)) octetDigitsUptoCard

/-- THE SECOND FORM's CARD OF 'stewardlaw05.OctetLists'. -/
def octetListsUptoCard : Claim7 := { stood := { row := octetListsUptoRow, standIns := [], harness := (true, "c7fa427598e5f9d3d3a6ee3c7a00be3ed2fe384899e037c528d3a686d19c139d"), looks := true }, kinds := [], alts := [], laidByText := true, laidKinds := [.data, .data, .data, .data, .sentinel, .sentinel, .pinned], laidTests := true, laidLooks := .later }
def OctetListsUptoCardSaid : Prop := Claim7.holds Tryd.pinned (.plain (OpenSpec.upto octetListsSpec)) octetListsUptoCard

/-- THE SECOND FORM's CARD OF 'stewardlaw06.FieldsParse'. -/
def fieldsParseUptoCard : Claim7 := { stood := { row := fieldsParseUptoRow, standIns := [], harness := (true, "c7fa427598e5f9d3d3a6ee3c7a00be3ed2fe384899e037c528d3a686d19c139d"), looks := true }, kinds := [], alts := [], laidByText := true, laidKinds := [.data, .pinned], laidTests := true, laidLooks := .later }
def FieldsParseUptoCardSaid : Prop := Claim7.holds Tryd.pinned (.plain (OpenSpec.upto fieldsParseSpec)) fieldsParseUptoCard

/-- THE SECOND FORM's CARD OF 'stewardlaw06.FieldsLists'. -/
def fieldsListsUptoCard : Claim7 := { stood := { row := fieldsListsUptoRow, standIns := [], harness := (true, "c7fa427598e5f9d3d3a6ee3c7a00be3ed2fe384899e037c528d3a686d19c139d"), looks := true }, kinds := [], alts := [], laidByText := true, laidKinds := [.data, .pinned], laidTests := true, laidLooks := .later }
def FieldsListsUptoCardSaid : Prop := Claim7.holds Tryd.pinned (.plain (OpenSpec.upto fieldsListsSpec)) fieldsListsUptoCard

/-- THE SECOND FORM's CARD OF 'stewardlaw06.FieldsDrops'. -/
def fieldsDropsUptoCard : Claim7 := { stood := { row := fieldsDropsUptoRow, standIns := [], harness := (true, "c7fa427598e5f9d3d3a6ee3c7a00be3ed2fe384899e037c528d3a686d19c139d"), looks := true }, kinds := [], alts := [], laidByText := true, laidKinds := [.data, .pinned], laidTests := true, laidLooks := .later }
def FieldsDropsUptoCardSaid : Prop := Claim7.holds Tryd.pinned (.plain (OpenSpec.upto fieldsDropsSpec)) fieldsDropsUptoCard

/-- THE SECOND FORM's CARD OF 'stewardlaw06.FieldsSame'. -/
def fieldsSameUptoCard : Claim7 := { stood := { row := fieldsSameUptoRow, standIns := [], harness := (true, "c7fa427598e5f9d3d3a6ee3c7a00be3ed2fe384899e037c528d3a686d19c139d"), looks := true }, kinds := [], alts := [], laidByText := true, laidKinds := [.data, .pinned], laidTests := true, laidLooks := .later }
def FieldsSameUptoCardSaid : Prop := Claim7.holds Tryd.pinned (.plain (OpenSpec.upto fieldsSameSpec)) fieldsSameUptoCard
end Rows
end Go.Proofs.YtneagccakoakpaaDoor
