/-
  No cell of these rows narrows 'for every input' (looked for: loops, veiled, ifaces, maps, wideKeys, modest, calm, conditions, laid).
  DERIVED. THE GIVEN ROWS OF THIS SEAT. 3 by the template 'for every input the law returns true; each argument reads behind the call as it read before'; 0 by the template 'total and deterministic' (their statements: YtklfpnnnoaaiaabTotals.lean).
  GIVEN WITH THE SEED: the statements are not yours to turn. If you find one false, say at which input.
  Laid BY PROGRAM, IN A SANDBOX (cutbox-rows.mjs): the forced cells as the released guide's own fill.sh prints them over the translation 3d7c2e72f75bfd6c… (all of the seat's roots in one cut). By AI agents, Wed Nov 11 2026. No macro, syntax, notation, axiom, sorry.
-/
import Derived.Test.YtklfpnnnoaaiaabChecked
import GoSem.Claim
import GoSem.ClaimJoined
import GoSem.ClaimMapViews
import Derived.JoinedTies
import Derived.KernelRfl
namespace Go.Proofs.Ytklfpnnnoaaiaab
/- THE CELL 'sum', in the pinned program and in every row, IS THE sha256 OF THE DUMP (.gsa) THAT YtklfpnnnoaaiaabProg.lean LOADS. Nothing in Lean hashes anything: it is a label: what it is worth is what the hold of that sum in a sandbox is worth. -/
noncomputable def Try.pinned : Pinned := { name := "ytklfpnnnoaaiaab", sum := "3d7c2e72f75bfd6c7d25f3bf0d230c6de30af9fdf8fb162e528f4d616ac9c0b0", checked := Try.checked }
namespace Rows
def none {H : Type} : Left H := { results := [], args := [] }

/-- 'stewardlaw22.RampWeights': WHATEVER THE INPUT: true; the input reads as it did. -/
def rampWeightsSpec : ChangeSpec := { name := "rampWeights", fn := fun _ => fun
  | [d] => { results := [.lit (.bool true)], args := [d] }
  | _ => none }
def rampWeightsRow : OpenClaim := { program := "ytklfpnnnoaaiaab", sum := "3d7c2e72f75bfd6c7d25f3bf0d230c6de30af9fdf8fb162e528f4d616ac9c0b0", func := "steward/stewardlaw22.RampWeights", spec := "rampWeights", apart := false }
def RampWeightsSaid : Prop := rampWeightsRow.holds Try.pinned (OpenSpec.ofChange rampWeightsSpec)

/-- ITS FALSE NEIGHBOUR: 'it returns false'. Refute it at one input. -/
def rampWeightsWrong : ChangeSpec := { name := "rampWeights", fn := fun _ => fun
  | [d] => { results := [.lit (.bool false)], args := [d] }
  | _ => none }
def RampWeightsWrongFalsely : Prop := rampWeightsRow.holds Try.pinned (OpenSpec.ofChange rampWeightsWrong)

/-- 'stewardlaw22.RampRises': WHATEVER THE INPUT: true; the input reads as it did. -/
def rampRisesSpec : ChangeSpec := { name := "rampRises", fn := fun _ => fun
  | [d1, d2] => { results := [.lit (.bool true)], args := [d1, d2] }
  | _ => none }
def rampRisesRow : OpenClaim := { program := "ytklfpnnnoaaiaab", sum := "3d7c2e72f75bfd6c7d25f3bf0d230c6de30af9fdf8fb162e528f4d616ac9c0b0", func := "steward/stewardlaw22.RampRises", spec := "rampRises", apart := false }
def RampRisesSaid : Prop := rampRisesRow.holds Try.pinned (OpenSpec.ofChange rampRisesSpec)

/-- ITS FALSE NEIGHBOUR: 'it returns false'. Refute it at one input. -/
def rampRisesWrong : ChangeSpec := { name := "rampRises", fn := fun _ => fun
  | [d1, d2] => { results := [.lit (.bool false)], args := [d1, d2] }
  | _ => none }
def RampRisesWrongFalsely : Prop := rampRisesRow.holds Try.pinned (OpenSpec.ofChange rampRisesWrong)

/-- 'stewardlaw22.RampNext': WHATEVER THE INPUT: true; the input reads as it did. -/
def rampNextSpec : ChangeSpec := { name := "rampNext", fn := fun _ => fun
  | [d] => { results := [.lit (.bool true)], args := [d] }
  | _ => none }
def rampNextRow : OpenClaim := { program := "ytklfpnnnoaaiaab", sum := "3d7c2e72f75bfd6c7d25f3bf0d230c6de30af9fdf8fb162e528f4d616ac9c0b0", func := "steward/stewardlaw22.RampNext", spec := "rampNext", apart := false }
def RampNextSaid : Prop := rampNextRow.holds Try.pinned (OpenSpec.ofChange rampNextSpec)

/-- ITS FALSE NEIGHBOUR: 'it returns false'. Refute it at one input. -/
def rampNextWrong : ChangeSpec := { name := "rampNext", fn := fun _ => fun
  | [d] => { results := [.lit (.bool false)], args := [d] }
  | _ => none }
def RampNextWrongFalsely : Prop := rampNextRow.holds Try.pinned (OpenSpec.ofChange rampNextWrong)

/- THE SECOND FORM. 'bulk': how many values and letters a reading holds, each counted each time it is reached (what is shared counts as often as it is met; a slice's spare places count too). A statement '..UptoSaid' is the law's where the arguments, and the package variables that the reading takes, are together of bulk at most 1048576: NARROWER than '..Said'. Prove '..Said' where nothing that the law and all that it calls make is longer than what came in: it says more and counts as full. Else prove '..UptoSaid'. A law counts once. -/
mutual
def uptoBulk {H : Type} : DataW H → Nat
  | .lit (.string bytes) => bytes.length + 1
  | .lit _ => 1
  | .nil => 1
  | .ptr d => uptoBulk d + 1
  | .slice elems spare => uptoBulkAll elems + uptoBulkAll spare + 1
  | .agg parts => uptoBulkAll parts + 1
  | .iface _ d => uptoBulk d + 1
  | .map entries => uptoBulkEntries entries + 1
  | .held _ => 1
def uptoBulkAll {H : Type} : List (DataW H) → Nat
  | [] => 0
  | d :: r => uptoBulk d + uptoBulkAll r
def uptoBulkEntries {H : Type} : List (Lit × DataW H) → Nat
  | [] => 0
  | x :: r => uptoBulkEntry x + uptoBulkEntries r
def uptoBulkEntry {H : Type} : Lit × DataW H → Nat
  | (.string bytes, d) => bytes.length + uptoBulk d + 1
  | (_, d) => uptoBulk d + 1
 end
def uptoSmall : (H : Type) → List (DataW H) → Bool := fun _ ds => decide (uptoBulkAll ds ≤ 1048576)
def OpenSpec.upto (s : _root_.Go.ChangeSpec) : _root_.Go.OpenSpec := { _root_.Go.OpenSpec.ofChange s with cond := some uptoSmall }

/-- 'stewardlaw22.RampWeights', WHERE WHAT IT READS IS OF BULK AT MOST 1048576: true; the input reads as it did. -/
def rampWeightsUptoRow : OpenClaim := { program := "ytklfpnnnoaaiaab", sum := "3d7c2e72f75bfd6c7d25f3bf0d230c6de30af9fdf8fb162e528f4d616ac9c0b0", func := "steward/stewardlaw22.RampWeights", spec := "rampWeights", apart := false, narrowed := true }
def RampWeightsUptoSaid : Prop := rampWeightsUptoRow.holds Try.pinned (OpenSpec.upto rampWeightsSpec)

/-- 'stewardlaw22.RampRises', WHERE WHAT IT READS IS OF BULK AT MOST 1048576: true; the input reads as it did. -/
def rampRisesUptoRow : OpenClaim := { program := "ytklfpnnnoaaiaab", sum := "3d7c2e72f75bfd6c7d25f3bf0d230c6de30af9fdf8fb162e528f4d616ac9c0b0", func := "steward/stewardlaw22.RampRises", spec := "rampRises", apart := false, narrowed := true }
def RampRisesUptoSaid : Prop := rampRisesUptoRow.holds Try.pinned (OpenSpec.upto rampRisesSpec)

/-- 'stewardlaw22.RampNext', WHERE WHAT IT READS IS OF BULK AT MOST 1048576: true; the input reads as it did. -/
def rampNextUptoRow : OpenClaim := { program := "ytklfpnnnoaaiaab", sum := "3d7c2e72f75bfd6c7d25f3bf0d230c6de30af9fdf8fb162e528f4d616ac9c0b0", func := "steward/stewardlaw22.RampNext", spec := "rampNext", apart := false, narrowed := true }
def RampNextUptoSaid : Prop := rampNextUptoRow.holds Try.pinned (OpenSpec.upto rampNextSpec)

end Rows
end Go.Proofs.Ytklfpnnnoaaiaab
