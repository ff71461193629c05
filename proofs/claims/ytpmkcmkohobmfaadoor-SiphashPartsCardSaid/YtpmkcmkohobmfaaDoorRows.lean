/-
  NARROWER THAN 'FOR EVERY INPUT', by the rows' own cells (each row's printed sentence says how): SiphashSums: laid · SiphashParts: laid · SiphashBelow: laid · SiphashKeys: laid · BlakeSums: laid · BlakeParts: laid · BlakeHex: laid.
  DERIVED. THE GIVEN ROWS OF THIS SEAT. 7 by the template 'for every input the law returns true; each argument reads behind the call as it read before'; 0 by the template 'total and deterministic' (their statements: YtpmkcmkohobmfaaDoorTotals.lean).
  GIVEN WITH THE SEED: the statements are not yours to turn. If you find one false, say at which input.
  Laid BY PROGRAM, IN A SANDBOX (cutbox-rows.mjs): the forced cells as the released guide's own fill.sh prints them over the translation 188a089514f45813… (all of the seat's roots in one cut). By AI agents, Wed Nov 11 2026. No macro, syntax, notation, axiom, sorry.
-/
import Derived.Test.YtpmkcmkohobmfaaDoorChecked
import GoSem.Claim
import GoSem.ClaimJoined
import GoSem.ClaimMapViews
import Derived.JoinedTies
import Derived.KernelRfl
namespace Go.Proofs.YtpmkcmkohobmfaaDoor
/- THE CELL 'sum', in the pinned program and in every row, IS THE sha256 OF THE DUMP (.gsa) THAT YtpmkcmkohobmfaaDoorProg.lean LOADS. Nothing in Lean hashes anything: it is a label: what it is worth is what the hold of that sum in a sandbox is worth. -/
noncomputable def Tryd.pinned : Pinned := { name := "ytpmkcmkohobmfaadoor", sum := "188a089514f45813b2ead46261cda49187ed86bf038e5f0872076855afb3016d", checked := Tryd.checked }
namespace Rows
def none {H : Type} : Left H := { results := [], args := [] }

/- WHAT THE LISTED PACKAGE-LEVEL VARIABLES READ AS WHEN THE CALL BEGINS. Each datum BY PROGRAM (the guide's laid-datum.mjs) off the statement by which the dump's own 'gosem.cut.vars' lays the variable. In a bare row this is a premise. The card (YtpmkcmkohobmfaaDoorCards.lean) ties it to the program's text. -/
def laid_steward_siphash_initial {H : Type} : DataW H := .agg [.lit (.int .u64 8317987319222330741), .lit (.int .u64 7237128888997146477), .lit (.int .u64 7816392313619706465), .lit (.int .u64 8387220255154660723)]
def laid_steward_blake_initial {H : Type} : DataW H := .agg [.lit (.int .u32 1779033703), .lit (.int .u32 3144134277), .lit (.int .u32 1013904242), .lit (.int .u32 2773480762), .lit (.int .u32 1359893119), .lit (.int .u32 2600822924), .lit (.int .u32 528734635), .lit (.int .u32 1541459225)]
def laid_steward_blake_permutations {H : Type} : DataW H := .agg [.agg [.lit (.int .u8 0), .lit (.int .u8 1), .lit (.int .u8 2), .lit (.int .u8 3), .lit (.int .u8 4), .lit (.int .u8 5), .lit (.int .u8 6), .lit (.int .u8 7), .lit (.int .u8 8), .lit (.int .u8 9), .lit (.int .u8 10), .lit (.int .u8 11), .lit (.int .u8 12), .lit (.int .u8 13), .lit (.int .u8 14), .lit (.int .u8 15)], .agg [.lit (.int .u8 14), .lit (.int .u8 10), .lit (.int .u8 4), .lit (.int .u8 8), .lit (.int .u8 9), .lit (.int .u8 15), .lit (.int .u8 13), .lit (.int .u8 6), .lit (.int .u8 1), .lit (.int .u8 12), .lit (.int .u8 0), .lit (.int .u8 2), .lit (.int .u8 11), .lit (.int .u8 7), .lit (.int .u8 5), .lit (.int .u8 3)], .agg [.lit (.int .u8 11), .lit (.int .u8 8), .lit (.int .u8 12), .lit (.int .u8 0), .lit (.int .u8 5), .lit (.int .u8 2), .lit (.int .u8 15), .lit (.int .u8 13), .lit (.int .u8 10), .lit (.int .u8 14), .lit (.int .u8 3), .lit (.int .u8 6), .lit (.int .u8 7), .lit (.int .u8 1), .lit (.int .u8 9), .lit (.int .u8 4)], .agg [.lit (.int .u8 7), .lit (.int .u8 9), .lit (.int .u8 3), .lit (.int .u8 1), .lit (.int .u8 13), .lit (.int .u8 12), .lit (.int .u8 11), .lit (.int .u8 14), .lit (.int .u8 2), .lit (.int .u8 6), .lit (.int .u8 5), .lit (.int .u8 10), .lit (.int .u8 4), .lit (.int .u8 0), .lit (.int .u8 15), .lit (.int .u8 8)], .agg [.lit (.int .u8 9), .lit (.int .u8 0), .lit (.int .u8 5), .lit (.int .u8 7), .lit (.int .u8 2), .lit (.int .u8 4), .lit (.int .u8 10), .lit (.int .u8 15), .lit (.int .u8 14), .lit (.int .u8 1), .lit (.int .u8 11), .lit (.int .u8 12), .lit (.int .u8 6), .lit (.int .u8 8), .lit (.int .u8 3), .lit (.int .u8 13)], .agg [.lit (.int .u8 2), .lit (.int .u8 12), .lit (.int .u8 6), .lit (.int .u8 10), .lit (.int .u8 0), .lit (.int .u8 11), .lit (.int .u8 8), .lit (.int .u8 3), .lit (.int .u8 4), .lit (.int .u8 13), .lit (.int .u8 7), .lit (.int .u8 5), .lit (.int .u8 15), .lit (.int .u8 14), .lit (.int .u8 1), .lit (.int .u8 9)], .agg [.lit (.int .u8 12), .lit (.int .u8 5), .lit (.int .u8 1), .lit (.int .u8 15), .lit (.int .u8 14), .lit (.int .u8 13), .lit (.int .u8 4), .lit (.int .u8 10), .lit (.int .u8 0), .lit (.int .u8 7), .lit (.int .u8 6), .lit (.int .u8 3), .lit (.int .u8 9), .lit (.int .u8 2), .lit (.int .u8 8), .lit (.int .u8 11)], .agg [.lit (.int .u8 13), .lit (.int .u8 11), .lit (.int .u8 7), .lit (.int .u8 14), .lit (.int .u8 12), .lit (.int .u8 1), .lit (.int .u8 3), .lit (.int .u8 9), .lit (.int .u8 5), .lit (.int .u8 0), .lit (.int .u8 15), .lit (.int .u8 4), .lit (.int .u8 8), .lit (.int .u8 6), .lit (.int .u8 2), .lit (.int .u8 10)], .agg [.lit (.int .u8 6), .lit (.int .u8 15), .lit (.int .u8 14), .lit (.int .u8 9), .lit (.int .u8 11), .lit (.int .u8 3), .lit (.int .u8 0), .lit (.int .u8 8), .lit (.int .u8 12), .lit (.int .u8 2), .lit (.int .u8 13), .lit (.int .u8 7), .lit (.int .u8 1), .lit (.int .u8 4), .lit (.int .u8 10), .lit (.int .u8 5)], .agg [.lit (.int .u8 10), .lit (.int .u8 2), .lit (.int .u8 8), .lit (.int .u8 4), .lit (.int .u8 7), .lit (.int .u8 6), .lit (.int .u8 1), .lit (.int .u8 5), .lit (.int .u8 15), .lit (.int .u8 11), .lit (.int .u8 9), .lit (.int .u8 14), .lit (.int .u8 3), .lit (.int .u8 12), .lit (.int .u8 13), .lit (.int .u8 0)]]

/-- 'stewardlaw01.SiphashSums': WHATEVER THE INPUT: true; the input reads as it did. -/
def siphashSumsSpec : ChangeSpec := { name := "siphashSums", fn := fun _ => fun
  | [d1, d2] => { results := [.lit (.bool true)], args := [d1, d2] }
  | _ => none }
def siphashSumsRow : OpenClaim := { program := "ytpmkcmkohobmfaadoor", sum := "188a089514f45813b2ead46261cda49187ed86bf038e5f0872076855afb3016d", func := "steward/stewardlaw01.SiphashSums", spec := "siphashSums", inPlace := ["internal/abi.NoEscape", "internal/bytealg.MakeNoZero"], named := ["steward/siphash.initial"], apart := false, laid := [("steward/siphash.initial", laid_steward_siphash_initial)] }
def SiphashSumsSaid : Prop := siphashSumsRow.holds Tryd.pinned (OpenSpec.ofChange siphashSumsSpec)

/-- ITS FALSE NEIGHBOUR: 'it returns false'. Refute it at one input. -/
def siphashSumsWrong : ChangeSpec := { name := "siphashSums", fn := fun _ => fun
  | [d1, d2] => { results := [.lit (.bool false)], args := [d1, d2] }
  | _ => none }
def SiphashSumsWrongFalsely : Prop := siphashSumsRow.holds Tryd.pinned (OpenSpec.ofChange siphashSumsWrong)

/-- 'stewardlaw01.SiphashParts': WHATEVER THE INPUT: true; the input reads as it did. -/
def siphashPartsSpec : ChangeSpec := { name := "siphashParts", fn := fun _ => fun
  | [d1, d2] => { results := [.lit (.bool true)], args := [d1, d2] }
  | _ => none }
def siphashPartsRow : OpenClaim := { program := "ytpmkcmkohobmfaadoor", sum := "188a089514f45813b2ead46261cda49187ed86bf038e5f0872076855afb3016d", func := "steward/stewardlaw01.SiphashParts", spec := "siphashParts", inPlace := ["internal/abi.NoEscape", "internal/bytealg.MakeNoZero"], named := ["steward/siphash.initial"], apart := false, laid := [("steward/siphash.initial", laid_steward_siphash_initial)] }
def SiphashPartsSaid : Prop := siphashPartsRow.holds Tryd.pinned (OpenSpec.ofChange siphashPartsSpec)

/-- ITS FALSE NEIGHBOUR: 'it returns false'. Refute it at one input. -/
def siphashPartsWrong : ChangeSpec := { name := "siphashParts", fn := fun _ => fun
  | [d1, d2] => { results := [.lit (.bool false)], args := [d1, d2] }
  | _ => none }
def SiphashPartsWrongFalsely : Prop := siphashPartsRow.holds Tryd.pinned (OpenSpec.ofChange siphashPartsWrong)

/-- 'stewardlaw01.SiphashBelow': WHATEVER THE INPUT: true; the input reads as it did. -/
def siphashBelowSpec : ChangeSpec := { name := "siphashBelow", fn := fun _ => fun
  | [d1, d2, d3] => { results := [.lit (.bool true)], args := [d1, d2, d3] }
  | _ => none }
def siphashBelowRow : OpenClaim := { program := "ytpmkcmkohobmfaadoor", sum := "188a089514f45813b2ead46261cda49187ed86bf038e5f0872076855afb3016d", func := "steward/stewardlaw01.SiphashBelow", spec := "siphashBelow", inPlace := ["internal/abi.NoEscape", "internal/bytealg.MakeNoZero"], named := ["steward/siphash.initial"], apart := false, laid := [("steward/siphash.initial", laid_steward_siphash_initial)] }
def SiphashBelowSaid : Prop := siphashBelowRow.holds Tryd.pinned (OpenSpec.ofChange siphashBelowSpec)

/-- ITS FALSE NEIGHBOUR: 'it returns false'. Refute it at one input. -/
def siphashBelowWrong : ChangeSpec := { name := "siphashBelow", fn := fun _ => fun
  | [d1, d2, d3] => { results := [.lit (.bool false)], args := [d1, d2, d3] }
  | _ => none }
def SiphashBelowWrongFalsely : Prop := siphashBelowRow.holds Tryd.pinned (OpenSpec.ofChange siphashBelowWrong)

/-- 'stewardlaw01.SiphashKeys': WHATEVER THE INPUT: true; the input reads as it did. -/
def siphashKeysSpec : ChangeSpec := { name := "siphashKeys", fn := fun _ => fun
  | [d] => { results := [.lit (.bool true)], args := [d] }
  | _ => none }
def siphashKeysRow : OpenClaim := { program := "ytpmkcmkohobmfaadoor", sum := "188a089514f45813b2ead46261cda49187ed86bf038e5f0872076855afb3016d", func := "steward/stewardlaw01.SiphashKeys", spec := "siphashKeys", inPlace := ["internal/abi.NoEscape", "internal/bytealg.MakeNoZero"], named := ["steward/siphash.initial"], apart := false, laid := [("steward/siphash.initial", laid_steward_siphash_initial)] }
def SiphashKeysSaid : Prop := siphashKeysRow.holds Tryd.pinned (OpenSpec.ofChange siphashKeysSpec)

/-- ITS FALSE NEIGHBOUR: 'it returns false'. Refute it at one input. -/
def siphashKeysWrong : ChangeSpec := { name := "siphashKeys", fn := fun _ => fun
  | [d] => { results := [.lit (.bool false)], args := [d] }
  | _ => none }
def SiphashKeysWrongFalsely : Prop := siphashKeysRow.holds Tryd.pinned (OpenSpec.ofChange siphashKeysWrong)

/-- 'stewardlaw02.BlakeSums': WHATEVER THE INPUT: true; the input reads as it did. -/
def blakeSumsSpec : ChangeSpec := { name := "blakeSums", fn := fun _ => fun
  | [d] => { results := [.lit (.bool true)], args := [d] }
  | _ => none }
def blakeSumsRow : OpenClaim := { program := "ytpmkcmkohobmfaadoor", sum := "188a089514f45813b2ead46261cda49187ed86bf038e5f0872076855afb3016d", func := "steward/stewardlaw02.BlakeSums", spec := "blakeSums", inPlace := ["internal/abi.NoEscape", "internal/bytealg.MakeNoZero"], named := ["steward/blake.initial", "steward/blake.permutations"], apart := false, laid := [("steward/blake.initial", laid_steward_blake_initial), ("steward/blake.permutations", laid_steward_blake_permutations)] }
def BlakeSumsSaid : Prop := blakeSumsRow.holds Tryd.pinned (OpenSpec.ofChange blakeSumsSpec)

/-- ITS FALSE NEIGHBOUR: 'it returns false'. Refute it at one input. -/
def blakeSumsWrong : ChangeSpec := { name := "blakeSums", fn := fun _ => fun
  | [d] => { results := [.lit (.bool false)], args := [d] }
  | _ => none }
def BlakeSumsWrongFalsely : Prop := blakeSumsRow.holds Tryd.pinned (OpenSpec.ofChange blakeSumsWrong)

/-- 'stewardlaw02.BlakeParts': WHATEVER THE INPUT: true; the input reads as it did. -/
def blakePartsSpec : ChangeSpec := { name := "blakeParts", fn := fun _ => fun
  | [d] => { results := [.lit (.bool true)], args := [d] }
  | _ => none }
def blakePartsRow : OpenClaim := { program := "ytpmkcmkohobmfaadoor", sum := "188a089514f45813b2ead46261cda49187ed86bf038e5f0872076855afb3016d", func := "steward/stewardlaw02.BlakeParts", spec := "blakeParts", inPlace := ["internal/abi.NoEscape", "internal/bytealg.MakeNoZero"], named := ["steward/blake.initial", "steward/blake.permutations"], apart := false, laid := [("steward/blake.initial", laid_steward_blake_initial), ("steward/blake.permutations", laid_steward_blake_permutations)] }
def BlakePartsSaid : Prop := blakePartsRow.holds Tryd.pinned (OpenSpec.ofChange blakePartsSpec)

/-- ITS FALSE NEIGHBOUR: 'it returns false'. Refute it at one input. -/
def blakePartsWrong : ChangeSpec := { name := "blakeParts", fn := fun _ => fun
  | [d] => { results := [.lit (.bool false)], args := [d] }
  | _ => none }
def BlakePartsWrongFalsely : Prop := blakePartsRow.holds Tryd.pinned (OpenSpec.ofChange blakePartsWrong)

/-- 'stewardlaw02.BlakeHex': WHATEVER THE INPUT: true; the input reads as it did. -/
def blakeHexSpec : ChangeSpec := { name := "blakeHex", fn := fun _ => fun
  | [d] => { results := [.lit (.bool true)], args := [d] }
  | _ => none }
def blakeHexRow : OpenClaim := { program := "ytpmkcmkohobmfaadoor", sum := "188a089514f45813b2ead46261cda49187ed86bf038e5f0872076855afb3016d", func := "steward/stewardlaw02.BlakeHex", spec := "blakeHex", inPlace := ["internal/abi.NoEscape", "internal/bytealg.MakeNoZero", "internal/bytealg.IndexByteString"], named := ["steward/blake.initial", "steward/blake.permutations"], apart := false, laid := [("steward/blake.initial", laid_steward_blake_initial), ("steward/blake.permutations", laid_steward_blake_permutations)] }
def BlakeHexSaid : Prop := blakeHexRow.holds Tryd.pinned (OpenSpec.ofChange blakeHexSpec)

/-- ITS FALSE NEIGHBOUR: 'it returns false'. Refute it at one input. -/
def blakeHexWrong : ChangeSpec := { name := "blakeHex", fn := fun _ => fun
  | [d] => { results := [.lit (.bool false)], args := [d] }
  | _ => none }
def BlakeHexWrongFalsely : Prop := blakeHexRow.holds Tryd.pinned (OpenSpec.ofChange blakeHexWrong)

/- THE SECOND FORM. 'bulk': how many values and letters a reading holds, each counted each time it is reached (what is shared counts as often as it is met; a slice's spare places count too). A statement '..UptoSaid' is the law's where the arguments, and the package variables that the reading takes, are together of bulk at most 1048576: NARROWER than '..Said'. Prove '..Said' where nothing that the law and all that it calls make is longer than what came in: it says more and counts as full. Else prove '..UptoSaid'. A law counts once. -/
mutual
def uptoBulk {H : Type} : DataW H → Nat
  | .lit (.string bytes) => bytes.length + 1
  | .lit _ => 1
  | .nil => 1
  | .ptr d => uptoBulk d + 1
  | .slice elems spare => uptoBulkAll elems + uptoBulkAll spare + 1
  | .agg parts => uptoBulkAll parts + 1
  | .iface _ d => uptoBulk d + 1
  | .map entries => uptoBulkEntries entries + 1
  | .held _ => 1
def uptoBulkAll {H : Type} : List (DataW H) → Nat
  | [] => 0
  | d :: r => uptoBulk d + uptoBulkAll r
def uptoBulkEntries {H : Type} : List (Lit × DataW H) → Nat
  | [] => 0
  | x :: r => uptoBulkEntry x + uptoBulkEntries r
def uptoBulkEntry {H : Type} : Lit × DataW H → Nat
  | (.string bytes, d) => bytes.length + uptoBulk d + 1
  | (_, d) => uptoBulk d + 1
 end
def uptoSmall : (H : Type) → List (DataW H) → Bool := fun _ ds => decide (uptoBulkAll ds ≤ 1048576)
def OpenSpec.upto (s : _root_.Go.ChangeSpec) : _root_.Go.OpenSpec := { _root_.Go.OpenSpec.ofChange s with cond := some uptoSmall }

/-- 'stewardlaw01.SiphashSums', WHERE WHAT IT READS IS OF BULK AT MOST 1048576: true; the input reads as it did. -/
def siphashSumsUptoRow : OpenClaim := { program := "ytpmkcmkohobmfaadoor", sum := "188a089514f45813b2ead46261cda49187ed86bf038e5f0872076855afb3016d", func := "steward/stewardlaw01.SiphashSums", spec := "siphashSums", inPlace := ["internal/abi.NoEscape", "internal/bytealg.MakeNoZero"], named := ["steward/siphash.initial"], apart := false, laid := [("steward/siphash.initial", laid_steward_siphash_initial)], narrowed := true }
def SiphashSumsUptoSaid : Prop := siphashSumsUptoRow.holds Tryd.pinned (OpenSpec.upto siphashSumsSpec)

/-- 'stewardlaw01.SiphashParts', WHERE WHAT IT READS IS OF BULK AT MOST 1048576: true; the input reads as it did. -/
def siphashPartsUptoRow : OpenClaim := { program := "ytpmkcmkohobmfaadoor", sum := "188a089514f45813b2ead46261cda49187ed86bf038e5f0872076855afb3016d", func := "steward/stewardlaw01.SiphashParts", spec := "siphashParts", inPlace := ["internal/abi.NoEscape", "internal/bytealg.MakeNoZero"], named := ["steward/siphash.initial"], apart := false, laid := [("steward/siphash.initial", laid_steward_siphash_initial)], narrowed := true }
def SiphashPartsUptoSaid : Prop := siphashPartsUptoRow.holds Tryd.pinned (OpenSpec.upto siphashPartsSpec)

/-- 'stewardlaw01.SiphashBelow', WHERE WHAT IT READS IS OF BULK AT MOST 1048576: true; the input reads as it did. -/
def siphashBelowUptoRow : OpenClaim := { program := "ytpmkcmkohobmfaadoor", sum := "188a089514f45813b2ead46261cda49187ed86bf038e5f0872076855afb3016d", func := "steward/stewardlaw01.SiphashBelow", spec := "siphashBelow", inPlace := ["internal/abi.NoEscape", "internal/bytealg.MakeNoZero"], named := ["steward/siphash.initial"], apart := false, laid := [("steward/siphash.initial", laid_steward_siphash_initial)], narrowed := true }
def SiphashBelowUptoSaid : Prop := siphashBelowUptoRow.holds Tryd.pinned (OpenSpec.upto siphashBelowSpec)

/-- 'stewardlaw01.SiphashKeys', WHERE WHAT IT READS IS OF BULK AT MOST 1048576: true; the input reads as it did. -/
def siphashKeysUptoRow : OpenClaim := { program := "ytpmkcmkohobmfaadoor", sum := "188a089514f45813b2ead46261cda49187ed86bf038e5f0872076855afb3016d", func := "steward/stewardlaw01.SiphashKeys", spec := "siphashKeys", inPlace := ["internal/abi.NoEscape", "internal/bytealg.MakeNoZero"], named := ["steward/siphash.initial"], apart := false, laid := [("steward/siphash.initial", laid_steward_siphash_initial)], narrowed := true }
def SiphashKeysUptoSaid : Prop := siphashKeysUptoRow.holds Tryd.pinned (OpenSpec.upto siphashKeysSpec)

/-- 'stewardlaw02.BlakeSums', WHERE WHAT IT READS IS OF BULK AT MOST 1048576: true; the input reads as it did. -/
def blakeSumsUptoRow : OpenClaim := { program := "ytpmkcmkohobmfaadoor", sum := "188a089514f45813b2ead46261cda49187ed86bf038e5f0872076855afb3016d", func := "steward/stewardlaw02.BlakeSums", spec := "blakeSums", inPlace := ["internal/abi.NoEscape", "internal/bytealg.MakeNoZero"], named := ["steward/blake.initial", "steward/blake.permutations"], apart := false, laid := [("steward/blake.initial", laid_steward_blake_initial), ("steward/blake.permutations", laid_steward_blake_permutations)], narrowed := true }
def BlakeSumsUptoSaid : Prop := blakeSumsUptoRow.holds Tryd.pinned (OpenSpec.upto blakeSumsSpec)

/-- 'stewardlaw02.BlakeParts', WHERE WHAT IT READS IS OF BULK AT MOST 1048576: true; the input reads as it did. -/
def blakePartsUptoRow : OpenClaim := { program := "ytpmkcmkohobmfaadoor", sum := "188a089514f45813b2ead46261cda49187ed86bf038e5f0872076855afb3016d", func := "steward/stewardlaw02.BlakeParts", spec := "blakeParts", inPlace := ["internal/abi.NoEscape", "internal/bytealg.MakeNoZero"], named := ["steward/blake.initial", "steward/blake.permutations"], apart := false, laid := [("steward/blake.initial", laid_steward_blake_initial), ("steward/blake.permutations", laid_steward_blake_permutations)], narrowed := true }
def BlakePartsUptoSaid : Prop := blakePartsUptoRow.holds Tryd.pinned (OpenSpec.upto blakePartsSpec)

/-- 'stewardlaw02.BlakeHex', WHERE WHAT IT READS IS OF BULK AT MOST 1048576: true; the input reads as it did. -/
def blakeHexUptoRow : OpenClaim := { program := "ytpmkcmkohobmfaadoor", sum := "188a089514f45813b2ead46261cda49187ed86bf038e5f0872076855afb3016d", func := "steward/stewardlaw02.BlakeHex", spec := "blakeHex", inPlace := ["internal/abi.NoEscape", "internal/bytealg.MakeNoZero", "internal/bytealg.IndexByteString"], named := ["steward/blake.initial", "steward/blake.permutations"], apart := false, laid := [("steward/blake.initial", laid_steward_blake_initial), ("steward/blake.permutations", laid_steward_blake_permutations)], narrowed := true }
def BlakeHexUptoSaid : Prop := blakeHexUptoRow.holds Tryd.pinned (OpenSpec.upto blakeHexSpec)

end Rows
end Go.Proofs.YtpmkcmkohobmfaaDoor
