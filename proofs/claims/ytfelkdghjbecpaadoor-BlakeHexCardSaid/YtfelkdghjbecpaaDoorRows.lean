/-
  NARROWER THAN 'FOR EVERY INPUT', by the rows' own cells (each row's printed sentence says how): BlakeSums: laid · BlakeParts: laid · BlakeHex: laid · MacSums: laid · MacParts: laid · MacFits: laid · MacSame: laid.
  DERIVED. THE GIVEN ROWS OF THIS SEAT. 7 by the template 'for every input the law returns true; each argument reads behind the call as it read before'; 0 by the template 'total and deterministic' (their statements: YtfelkdghjbecpaaDoorTotals.lean).
  GIVEN WITH THE SEED: the statements are not yours to turn. If you find one false, say at which input.
  Laid BY PROGRAM, IN A SANDBOX (cutbox-rows.mjs): the forced cells as the released guide's own fill.sh prints them over the translation 1ad69fc75ebd744e… (all of the seat's roots in one cut). By AI agents, Wed Nov 11 2026. No macro, syntax, notation, axiom, sorry.
-/
import Derived.Test.YtfelkdghjbecpaaDoorChecked
import GoSem.Claim
import GoSem.ClaimJoined
import GoSem.ClaimMapViews
import Derived.JoinedTies
import Derived.KernelRfl
namespace Go.Proofs.YtfelkdghjbecpaaDoor
/- THE CELL 'sum', in the pinned program and in every row, IS THE sha256 OF THE DUMP (.gsa) THAT YtfelkdghjbecpaaDoorProg.lean LOADS. Nothing in Lean hashes anything: it is a label: what it is worth is what the hold of that sum in a sandbox is worth. -/
noncomputable def Tryd.pinned : Pinned := { name := "ytfelkdghjbecpaadoor", sum := "1ad69fc75ebd744e6d661693a5ff0fb3fed9898ebb62adfe425d1e77dbf857ac", checked := Tryd.checked }
namespace Rows
def none {H : Type} : Left H := { results := [], args := [] }

/- WHAT THE LISTED PACKAGE-LEVEL VARIABLES READ AS WHEN THE CALL BEGINS. Each datum BY PROGRAM (the guide's laid-datum.mjs) off the statement by which the dump's own 'gosem.cut.vars' lays the variable. In a bare row this is a premise. The card (YtfelkdghjbecpaaDoorCards.lean) ties it to the program's text. -/
def laid_steward_blake_initial {H : Type} : DataW H := .agg [.lit (.int .u32 1779033703), .lit (.int .u32 3144134277), .lit (.int .u32 1013904242), .lit (.int .u32 2773480762), .lit (.int .u32 1359893119), .lit (.int .u32 2600822924), .lit (.int .u32 528734635), .lit (.int .u32 1541459225)]
def laid_steward_blake_permutations {H : Type} : DataW H := .agg [.agg [.lit (.int .u8 0), .lit (.int .u8 1), .lit (.int .u8 2), .lit (.int .u8 3), .lit (.int .u8 4), .lit (.int .u8 5), .lit (.int .u8 6), .lit (.int .u8 7), .lit (.int .u8 8), .lit (.int .u8 9), .lit (.int .u8 10), .lit (.int .u8 11), .lit (.int .u8 12), .lit (.int .u8 13), .lit (.int .u8 14), .lit (.int .u8 15)], .agg [.lit (.int .u8 14), .lit (.int .u8 10), .lit (.int .u8 4), .lit (.int .u8 8), .lit (.int .u8 9), .lit (.int .u8 15), .lit (.int .u8 13), .lit (.int .u8 6), .lit (.int .u8 1), .lit (.int .u8 12), .lit (.int .u8 0), .lit (.int .u8 2), .lit (.int .u8 11), .lit (.int .u8 7), .lit (.int .u8 5), .lit (.int .u8 3)], .agg [.lit (.int .u8 11), .lit (.int .u8 8), .lit (.int .u8 12), .lit (.int .u8 0), .lit (.int .u8 5), .lit (.int .u8 2), .lit (.int .u8 15), .lit (.int .u8 13), .lit (.int .u8 10), .lit (.int .u8 14), .lit (.int .u8 3), .lit (.int .u8 6), .lit (.int .u8 7), .lit (.int .u8 1), .lit (.int .u8 9), .lit (.int .u8 4)], .agg [.lit (.int .u8 7), .lit (.int .u8 9), .lit (.int .u8 3), .lit (.int .u8 1), .lit (.int .u8 13), .lit (.int .u8 12), .lit (.int .u8 11), .lit (.int .u8 14), .lit (.int .u8 2), .lit (.int .u8 6), .lit (.int .u8 5), .lit (.int .u8 10), .lit (.int .u8 4), .lit (.int .u8 0), .lit (.int .u8 15), .lit (.int .u8 8)], .agg [.lit (.int .u8 9), .lit (.int .u8 0), .lit (.int .u8 5), .lit (.int .u8 7), .lit (.int .u8 2), .lit (.int .u8 4), .lit (.int .u8 10), .lit (.int .u8 15), .lit (.int .u8 14), .lit (.int .u8 1), .lit (.int .u8 11), .lit (.int .u8 12), .lit (.int .u8 6), .lit (.int .u8 8), .lit (.int .u8 3), .lit (.int .u8 13)], .agg [.lit (.int .u8 2), .lit (.int .u8 12), .lit (.int .u8 6), .lit (.int .u8 10), .lit (.int .u8 0), .lit (.int .u8 11), .lit (.int .u8 8), .lit (.int .u8 3), .lit (.int .u8 4), .lit (.int .u8 13), .lit (.int .u8 7), .lit (.int .u8 5), .lit (.int .u8 15), .lit (.int .u8 14), .lit (.int .u8 1), .lit (.int .u8 9)], .agg [.lit (.int .u8 12), .lit (.int .u8 5), .lit (.int .u8 1), .lit (.int .u8 15), .lit (.int .u8 14), .lit (.int .u8 13), .lit (.int .u8 4), .lit (.int .u8 10), .lit (.int .u8 0), .lit (.int .u8 7), .lit (.int .u8 6), .lit (.int .u8 3), .lit (.int .u8 9), .lit (.int .u8 2), .lit (.int .u8 8), .lit (.int .u8 11)], .agg [.lit (.int .u8 13), .lit (.int .u8 11), .lit (.int .u8 7), .lit (.int .u8 14), .lit (.int .u8 12), .lit (.int .u8 1), .lit (.int .u8 3), .lit (.int .u8 9), .lit (.int .u8 5), .lit (.int .u8 0), .lit (.int .u8 15), .lit (.int .u8 4), .lit (.int .u8 8), .lit (.int .u8 6), .lit (.int .u8 2), .lit (.int .u8 10)], .agg [.lit (.int .u8 6), .lit (.int .u8 15), .lit (.int .u8 14), .lit (.int .u8 9), .lit (.int .u8 11), .lit (.int .u8 3), .lit (.int .u8 0), .lit (.int .u8 8), .lit (.int .u8 12), .lit (.int .u8 2), .lit (.int .u8 13), .lit (.int .u8 7), .lit (.int .u8 1), .lit (.int .u8 4), .lit (.int .u8 10), .lit (.int .u8 5)], .agg [.lit (.int .u8 10), .lit (.int .u8 2), .lit (.int .u8 8), .lit (.int .u8 4), .lit (.int .u8 7), .lit (.int .u8 6), .lit (.int .u8 1), .lit (.int .u8 5), .lit (.int .u8 15), .lit (.int .u8 11), .lit (.int .u8 9), .lit (.int .u8 14), .lit (.int .u8 3), .lit (.int .u8 12), .lit (.int .u8 13), .lit (.int .u8 0)]]

/-- 'stewardlaw02.BlakeSums': WHATEVER THE INPUT: true; the input reads as it did. -/
def blakeSumsSpec : ChangeSpec := { name := "blakeSums", fn := fun _ => fun
  | [d] => { results := [.lit (.bool true)], args := [d] }
  | _ => none }
def blakeSumsRow : OpenClaim := { program := "ytfelkdghjbecpaadoor", sum := "1ad69fc75ebd744e6d661693a5ff0fb3fed9898ebb62adfe425d1e77dbf857ac", func := "steward/stewardlaw02.BlakeSums", spec := "blakeSums", inPlace := ["internal/abi.NoEscape", "internal/bytealg.MakeNoZero"], named := ["steward/blake.initial", "steward/blake.permutations"], apart := false, laid := [("steward/blake.initial", laid_steward_blake_initial), ("steward/blake.permutations", laid_steward_blake_permutations)] }
def BlakeSumsSaid : Prop := blakeSumsRow.holds Tryd.pinned (OpenSpec.ofChange blakeSumsSpec)

/-- ITS FALSE NEIGHBOUR: 'it returns false'. Refute it at one input. -/
def blakeSumsWrong : ChangeSpec := { name := "blakeSums", fn := fun _ => fun
  | [d] => { results := [.lit (.bool false)], args := [d] }
  | _ => none }
def BlakeSumsWrongFalsely : Prop := blakeSumsRow.holds Tryd.pinned (OpenSpec.ofChange blakeSumsWrong)

/-- 'stewardlaw02.BlakeParts': WHATEVER THE INPUT: true; the input reads as it did. -/
def blakePartsSpec : ChangeSpec := { name := "blakeParts", fn := fun _ => fun
  | [d] => { results := [.lit (.bool true)], args := [d] }
  | _ => none }
def blakePartsRow : OpenClaim := { program := "ytfelkdghjbecpaadoor", sum := "1ad69fc75ebd744e6d661693a5ff0fb3fed9898ebb62adfe425d1e77dbf857ac", func := "steward/stewardlaw02.BlakeParts", spec := "blakeParts", inPlace := ["internal/abi.NoEscape", "internal/bytealg.MakeNoZero"], named := ["steward/blake.initial", "steward/blake.permutations"], apart := false, laid := [("steward/blake.initial", laid_steward_blake_initial), ("steward/blake.permutations", laid_steward_blake_permutations)] }
def BlakePartsSaid : Prop := blakePartsRow.holds Tryd.pinned (OpenSpec.ofChange blakePartsSpec)

/-- ITS FALSE NEIGHBOUR: 'it returns false'. Refute it at one input. -/
def blakePartsWrong : ChangeSpec := { name := "blakeParts", fn := fun _ => fun
  | [d] => { results := [.lit (.bool false)], args := [d] }
  | _ => none }
def BlakePartsWrongFalsely : Prop := blakePartsRow.holds Tryd.pinned (OpenSpec.ofChange blakePartsWrong)

/-- 'stewardlaw02.BlakeHex': WHATEVER THE INPUT: true; the input reads as it did. -/
def blakeHexSpec : ChangeSpec := { name := "blakeHex", fn := fun _ => fun
  | [d] => { results := [.lit (.bool true)], args := [d] }
  | _ => none }
def blakeHexRow : OpenClaim := { program := "ytfelkdghjbecpaadoor", sum := "1ad69fc75ebd744e6d661693a5ff0fb3fed9898ebb62adfe425d1e77dbf857ac", func := "steward/stewardlaw02.BlakeHex", spec := "blakeHex", inPlace := ["internal/abi.NoEscape", "internal/bytealg.MakeNoZero", "internal/bytealg.IndexByteString"], named := ["steward/blake.initial", "steward/blake.permutations"], apart := false, laid := [("steward/blake.initial", laid_steward_blake_initial), ("steward/blake.permutations", laid_steward_blake_permutations)] }
def BlakeHexSaid : Prop := blakeHexRow.holds Tryd.pinned (OpenSpec.ofChange blakeHexSpec)

/-- ITS FALSE NEIGHBOUR: 'it returns false'. Refute it at one input. -/
def blakeHexWrong : ChangeSpec := { name := "blakeHex", fn := fun _ => fun
  | [d] => { results := [.lit (.bool false)], args := [d] }
  | _ => none }
def BlakeHexWrongFalsely : Prop := blakeHexRow.holds Tryd.pinned (OpenSpec.ofChange blakeHexWrong)

/-- 'stewardlaw03.MacSums': WHATEVER THE INPUT: true; the input reads as it did. -/
def macSumsSpec : ChangeSpec := { name := "macSums", fn := fun _ => fun
  | [d1, d2] => { results := [.lit (.bool true)], args := [d1, d2] }
  | _ => none }
def macSumsRow : OpenClaim := { program := "ytfelkdghjbecpaadoor", sum := "1ad69fc75ebd744e6d661693a5ff0fb3fed9898ebb62adfe425d1e77dbf857ac", func := "steward/stewardlaw03.MacSums", spec := "macSums", inPlace := ["internal/abi.NoEscape", "internal/bytealg.MakeNoZero"], named := ["steward/blake.initial", "steward/blake.permutations"], apart := false, laid := [("steward/blake.initial", laid_steward_blake_initial), ("steward/blake.permutations", laid_steward_blake_permutations)] }
def MacSumsSaid : Prop := macSumsRow.holds Tryd.pinned (OpenSpec.ofChange macSumsSpec)

/-- ITS FALSE NEIGHBOUR: 'it returns false'. Refute it at one input. -/
def macSumsWrong : ChangeSpec := { name := "macSums", fn := fun _ => fun
  | [d1, d2] => { results := [.lit (.bool false)], args := [d1, d2] }
  | _ => none }
def MacSumsWrongFalsely : Prop := macSumsRow.holds Tryd.pinned (OpenSpec.ofChange macSumsWrong)

/-- 'stewardlaw03.MacParts': WHATEVER THE INPUT: true; the input reads as it did. -/
def macPartsSpec : ChangeSpec := { name := "macParts", fn := fun _ => fun
  | [d1, d2] => { results := [.lit (.bool true)], args := [d1, d2] }
  | _ => none }
def macPartsRow : OpenClaim := { program := "ytfelkdghjbecpaadoor", sum := "1ad69fc75ebd744e6d661693a5ff0fb3fed9898ebb62adfe425d1e77dbf857ac", func := "steward/stewardlaw03.MacParts", spec := "macParts", inPlace := ["internal/abi.NoEscape", "internal/bytealg.MakeNoZero"], named := ["steward/blake.initial", "steward/blake.permutations"], apart := false, laid := [("steward/blake.initial", laid_steward_blake_initial), ("steward/blake.permutations", laid_steward_blake_permutations)] }
def MacPartsSaid : Prop := macPartsRow.holds Tryd.pinned (OpenSpec.ofChange macPartsSpec)

/-- ITS FALSE NEIGHBOUR: 'it returns false'. Refute it at one input. -/
def macPartsWrong : ChangeSpec := { name := "macParts", fn := fun _ => fun
  | [d1, d2] => { results := [.lit (.bool false)], args := [d1, d2] }
  | _ => none }
def MacPartsWrongFalsely : Prop := macPartsRow.holds Tryd.pinned (OpenSpec.ofChange macPartsWrong)

/-- 'stewardlaw03.MacFits': WHATEVER THE INPUT: true; the input reads as it did. -/
def macFitsSpec : ChangeSpec := { name := "macFits", fn := fun _ => fun
  | [d1, d2, d3] => { results := [.lit (.bool true)], args := [d1, d2, d3] }
  | _ => none }
def macFitsRow : OpenClaim := { program := "ytfelkdghjbecpaadoor", sum := "1ad69fc75ebd744e6d661693a5ff0fb3fed9898ebb62adfe425d1e77dbf857ac", func := "steward/stewardlaw03.MacFits", spec := "macFits", inPlace := ["internal/abi.NoEscape", "internal/bytealg.MakeNoZero"], named := ["steward/blake.initial", "steward/blake.permutations"], apart := false, laid := [("steward/blake.initial", laid_steward_blake_initial), ("steward/blake.permutations", laid_steward_blake_permutations)] }
def MacFitsSaid : Prop := macFitsRow.holds Tryd.pinned (OpenSpec.ofChange macFitsSpec)

/-- ITS FALSE NEIGHBOUR: 'it returns false'. Refute it at one input. -/
def macFitsWrong : ChangeSpec := { name := "macFits", fn := fun _ => fun
  | [d1, d2, d3] => { results := [.lit (.bool false)], args := [d1, d2, d3] }
  | _ => none }
def MacFitsWrongFalsely : Prop := macFitsRow.holds Tryd.pinned (OpenSpec.ofChange macFitsWrong)

/-- 'stewardlaw03.MacSame': WHATEVER THE INPUT: true; the input reads as it did. -/
def macSameSpec : ChangeSpec := { name := "macSame", fn := fun _ => fun
  | [d1, d2] => { results := [.lit (.bool true)], args := [d1, d2] }
  | _ => none }
def macSameRow : OpenClaim := { program := "ytfelkdghjbecpaadoor", sum := "1ad69fc75ebd744e6d661693a5ff0fb3fed9898ebb62adfe425d1e77dbf857ac", func := "steward/stewardlaw03.MacSame", spec := "macSame", inPlace := ["internal/abi.NoEscape", "internal/bytealg.MakeNoZero"], named := ["steward/blake.initial", "steward/blake.permutations"], apart := false, laid := [("steward/blake.initial", laid_steward_blake_initial), ("steward/blake.permutations", laid_steward_blake_permutations)] }
def MacSameSaid : Prop := macSameRow.holds Tryd.pinned (OpenSpec.ofChange macSameSpec)

/-- ITS FALSE NEIGHBOUR: 'it returns false'. Refute it at one input. -/
def macSameWrong : ChangeSpec := { name := "macSame", fn := fun _ => fun
  | [d1, d2] => { results := [.lit (.bool false)], args := [d1, d2] }
  | _ => none }
def MacSameWrongFalsely : Prop := macSameRow.holds Tryd.pinned (OpenSpec.ofChange macSameWrong)

/- THE SECOND FORM. 'bulk': how many values and letters a reading holds, each counted each time it is reached (what is shared counts as often as it is met; a slice's spare places count too). A statement '..UptoSaid' is the law's where the arguments, and the package variables that the reading takes, are together of bulk at most 1048576: NARROWER than '..Said'. Prove '..Said' where nothing that the law and all that it calls make is longer than what came in: it says more and counts as full. Else prove '..UptoSaid'. A law counts once. -/
mutual
def uptoBulk {H : Type} : DataW H → Nat
  | .lit (.string bytes) => bytes.length + 1
  | .lit _ => 1
  | .nil => 1
  | .ptr d => uptoBulk d + 1
  | .slice elems spare => uptoBulkAll elems + uptoBulkAll spare + 1
  | .agg parts => uptoBulkAll parts + 1
  | .iface _ d => uptoBulk d + 1
  | .map entries => uptoBulkEntries entries + 1
  | .held _ => 1
def uptoBulkAll {H : Type} : List (DataW H) → Nat
  | [] => 0
  | d :: r => uptoBulk d + uptoBulkAll r
def uptoBulkEntries {H : Type} : List (Lit × DataW H) → Nat
  | [] => 0
  | x :: r => uptoBulkEntry x + uptoBulkEntries r
def uptoBulkEntry {H : Type} : Lit × DataW H → Nat
  | (.string bytes, d) => bytes.length + uptoBulk d + 1
  | (_, d) => uptoBulk d + 1
 end
def uptoSmall : (H : Type) → List (DataW H) → Bool := fun _ ds => decide (uptoBulkAll ds ≤ 1048576)
def OpenSpec.upto (s : _root_.Go.ChangeSpec) : _root_.Go.OpenSpec := { _root_.Go.OpenSpec.ofChange s with cond := some uptoSmall }

/-- 'stewardlaw02.BlakeSums', WHERE WHAT IT READS IS OF BULK AT MOST 1048576: true; the input reads as it did. -/
def blakeSumsUptoRow : OpenClaim := { program := "ytfelkdghjbecpaadoor", sum := "1ad69fc75ebd744e6d661693a5ff0fb3fed9898ebb62adfe425d1e77dbf857ac", func := "steward/stewardlaw02.BlakeSums", spec := "blakeSums", inPlace := ["internal/abi.NoEscape", "internal/bytealg.MakeNoZero"], named := ["steward/blake.initial", "steward/blake.permutations"], apart := false, laid := [("steward/blake.initial", laid_steward_blake_initial), ("steward/blake.permutations", laid_steward_blake_permutations)], narrowed := true }
def BlakeSumsUptoSaid : Prop := blakeSumsUptoRow.holds Tryd.pinned (OpenSpec.upto blakeSumsSpec)

/-- 'stewardlaw02.BlakeParts', WHERE WHAT IT READS IS OF BULK AT MOST 1048576: true; the input reads as it did. -/
def blakePartsUptoRow : OpenClaim := { program := "ytfelkdghjbecpaadoor", sum := "1ad69fc75ebd744e6d661693a5ff0fb3fed9898ebb62adfe425d1e77dbf857ac", func := "steward/stewardlaw02.BlakeParts", spec := "blakeParts", inPlace := ["internal/abi.NoEscape", "internal/bytealg.MakeNoZero"], named := ["steward/blake.initial", "steward/blake.permutations"], apart := false, laid := [("steward/blake.initial", laid_steward_blake_initial), ("steward/blake.permutations", laid_steward_blake_permutations)], narrowed := true }
def BlakePartsUptoSaid : Prop := blakePartsUptoRow.holds Tryd.pinned (OpenSpec.upto blakePartsSpec)

/-- 'stewardlaw02.BlakeHex', WHERE WHAT IT READS IS OF BULK AT MOST 1048576: true; the input reads as it did. -/
def blakeHexUptoRow : OpenClaim := { program := "ytfelkdghjbecpaadoor", sum := "1ad69fc75ebd744e6d661693a5ff0fb3fed9898ebb62adfe425d1e77dbf857ac", func := "steward/stewardlaw02.BlakeHex", spec := "blakeHex", inPlace := ["internal/abi.NoEscape", "internal/bytealg.MakeNoZero", "internal/bytealg.IndexByteString"], named := ["steward/blake.initial", "steward/blake.permutations"], apart := false, laid := [("steward/blake.initial", laid_steward_blake_initial), ("steward/blake.permutations", laid_steward_blake_permutations)], narrowed := true }
def BlakeHexUptoSaid : Prop := blakeHexUptoRow.holds Tryd.pinned (OpenSpec.upto blakeHexSpec)

/-- 'stewardlaw03.MacSums', WHERE WHAT IT READS IS OF BULK AT MOST 1048576: true; the input reads as it did. -/
def macSumsUptoRow : OpenClaim := { program := "ytfelkdghjbecpaadoor", sum := "1ad69fc75ebd744e6d661693a5ff0fb3fed9898ebb62adfe425d1e77dbf857ac", func := "steward/stewardlaw03.MacSums", spec := "macSums", inPlace := ["internal/abi.NoEscape", "internal/bytealg.MakeNoZero"], named := ["steward/blake.initial", "steward/blake.permutations"], apart := false, laid := [("steward/blake.initial", laid_steward_blake_initial), ("steward/blake.permutations", laid_steward_blake_permutations)], narrowed := true }
def MacSumsUptoSaid : Prop := macSumsUptoRow.holds Tryd.pinned (OpenSpec.upto macSumsSpec)

/-- 'stewardlaw03.MacParts', WHERE WHAT IT READS IS OF BULK AT MOST 1048576: true; the input reads as it did. -/
def macPartsUptoRow : OpenClaim := { program := "ytfelkdghjbecpaadoor", sum := "1ad69fc75ebd744e6d661693a5ff0fb3fed9898ebb62adfe425d1e77dbf857ac", func := "steward/stewardlaw03.MacParts", spec := "macParts", inPlace := ["internal/abi.NoEscape", "internal/bytealg.MakeNoZero"], named := ["steward/blake.initial", "steward/blake.permutations"], apart := false, laid := [("steward/blake.initial", laid_steward_blake_initial), ("steward/blake.permutations", laid_steward_blake_permutations)], narrowed := true }
def MacPartsUptoSaid : Prop := macPartsUptoRow.holds Tryd.pinned (OpenSpec.upto macPartsSpec)

/-- 'stewardlaw03.MacFits', WHERE WHAT IT READS IS OF BULK AT MOST 1048576: true; the input reads as it did. -/
def macFitsUptoRow : OpenClaim := { program := "ytfelkdghjbecpaadoor", sum := "1ad69fc75ebd744e6d661693a5ff0fb3fed9898ebb62adfe425d1e77dbf857ac", func := "steward/stewardlaw03.MacFits", spec := "macFits", inPlace := ["internal/abi.NoEscape", "internal/bytealg.MakeNoZero"], named := ["steward/blake.initial", "steward/blake.permutations"], apart := false, laid := [("steward/blake.initial", laid_steward_blake_initial), ("steward/blake.permutations", laid_steward_blake_permutations)], narrowed := true }
def MacFitsUptoSaid : Prop := macFitsUptoRow.holds Tryd.pinned (OpenSpec.upto macFitsSpec)

/-- 'stewardlaw03.MacSame', WHERE WHAT IT READS IS OF BULK AT MOST 1048576: true; the input reads as it did. -/
def macSameUptoRow : OpenClaim := { program := "ytfelkdghjbecpaadoor", sum := "1ad69fc75ebd744e6d661693a5ff0fb3fed9898ebb62adfe425d1e77dbf857ac", func := "steward/stewardlaw03.MacSame", spec := "macSame", inPlace := ["internal/abi.NoEscape", "internal/bytealg.MakeNoZero"], named := ["steward/blake.initial", "steward/blake.permutations"], apart := false, laid := [("steward/blake.initial", laid_steward_blake_initial), ("steward/blake.permutations", laid_steward_blake_permutations)], narrowed := true }
def MacSameUptoSaid : Prop := macSameUptoRow.holds Tryd.pinned (OpenSpec.upto macSameSpec)

end Rows
end Go.Proofs.YtfelkdghjbecpaaDoor
