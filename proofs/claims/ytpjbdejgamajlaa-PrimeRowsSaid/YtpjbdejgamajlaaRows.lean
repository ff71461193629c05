/-
  No cell of these rows narrows 'for every input' (looked for: loops, veiled, ifaces, maps, wideKeys, modest, calm, conditions, laid).
  DERIVED. THE GIVEN ROWS OF THIS SEAT. 4 by the template 'for every input the law returns true; each argument reads behind the call as it read before'; 0 by the template 'total and deterministic' (their statements: YtpjbdejgamajlaaTotals.lean).
  GIVEN WITH THE SEED: the statements are not yours to turn. If you find one false, say at which input.
  Laid BY PROGRAM, IN A SANDBOX (cutbox-rows.mjs): the forced cells as the released guide's own fill.sh prints them over the translation eee259a93745c88c… (all of the seat's roots in one cut). By AI agents, Wed Nov 11 2026. No macro, syntax, notation, axiom, sorry.
-/
import Derived.Test.YtpjbdejgamajlaaChecked
import GoSem.Claim
import GoSem.ClaimJoined
import GoSem.ClaimMapViews
import Derived.JoinedTies
import Derived.KernelRfl
namespace Go.Proofs.Ytpjbdejgamajlaa
/- THE CELL 'sum', in the pinned program and in every row, IS THE sha256 OF THE DUMP (.gsa) THAT YtpjbdejgamajlaaProg.lean LOADS. Nothing in Lean hashes anything: it is a label: what it is worth is what the hold of that sum in a sandbox is worth. -/
noncomputable def Try.pinned : Pinned := { name := "ytpjbdejgamajlaa", sum := "eee259a93745c88c7907a05a55b0b4a9ef52150f150ec143f4bd847dbb56e4a9", checked := Try.checked }
namespace Rows
def none {H : Type} : Left H := { results := [], args := [] }

/-- 'stewardlaw17.PrimeGcd': WHATEVER THE INPUT: true; the input reads as it did. -/
def primeGcdSpec : ChangeSpec := { name := "primeGcd", fn := fun _ => fun
  | [d1, d2] => { results := [.lit (.bool true)], args := [d1, d2] }
  | _ => none }
def primeGcdRow : OpenClaim := { program := "ytpjbdejgamajlaa", sum := "eee259a93745c88c7907a05a55b0b4a9ef52150f150ec143f4bd847dbb56e4a9", func := "steward/stewardlaw17.PrimeGcd", spec := "primeGcd", recurses := true, apart := false }
def PrimeGcdSaid : Prop := primeGcdRow.holds Try.pinned (OpenSpec.ofChange primeGcdSpec)

/-- ITS FALSE NEIGHBOUR: 'it returns false'. Refute it at one input. -/
def primeGcdWrong : ChangeSpec := { name := "primeGcd", fn := fun _ => fun
  | [d1, d2] => { results := [.lit (.bool false)], args := [d1, d2] }
  | _ => none }
def PrimeGcdWrongFalsely : Prop := primeGcdRow.holds Try.pinned (OpenSpec.ofChange primeGcdWrong)

/-- 'stewardlaw17.PrimeFactors': WHATEVER THE INPUT: true; the input reads as it did. -/
def primeFactorsSpec : ChangeSpec := { name := "primeFactors", fn := fun _ => fun
  | [d] => { results := [.lit (.bool true)], args := [d] }
  | _ => none }
def primeFactorsRow : OpenClaim := { program := "ytpjbdejgamajlaa", sum := "eee259a93745c88c7907a05a55b0b4a9ef52150f150ec143f4bd847dbb56e4a9", func := "steward/stewardlaw17.PrimeFactors", spec := "primeFactors", apart := false }
def PrimeFactorsSaid : Prop := primeFactorsRow.holds Try.pinned (OpenSpec.ofChange primeFactorsSpec)

/-- ITS FALSE NEIGHBOUR: 'it returns false'. Refute it at one input. -/
def primeFactorsWrong : ChangeSpec := { name := "primeFactors", fn := fun _ => fun
  | [d] => { results := [.lit (.bool false)], args := [d] }
  | _ => none }
def PrimeFactorsWrongFalsely : Prop := primeFactorsRow.holds Try.pinned (OpenSpec.ofChange primeFactorsWrong)

/-- 'stewardlaw17.PrimeRows': WHATEVER THE INPUT: true; the input reads as it did. -/
def primeRowsSpec : ChangeSpec := { name := "primeRows", fn := fun _ => fun
  | [d1, d2, d3] => { results := [.lit (.bool true)], args := [d1, d2, d3] }
  | _ => none }
def primeRowsRow : OpenClaim := { program := "ytpjbdejgamajlaa", sum := "eee259a93745c88c7907a05a55b0b4a9ef52150f150ec143f4bd847dbb56e4a9", func := "steward/stewardlaw17.PrimeRows", spec := "primeRows", recurses := true, apart := false }
def PrimeRowsSaid : Prop := primeRowsRow.holds Try.pinned (OpenSpec.ofChange primeRowsSpec)

/-- ITS FALSE NEIGHBOUR: 'it returns false'. Refute it at one input. -/
def primeRowsWrong : ChangeSpec := { name := "primeRows", fn := fun _ => fun
  | [d1, d2, d3] => { results := [.lit (.bool false)], args := [d1, d2, d3] }
  | _ => none }
def PrimeRowsWrongFalsely : Prop := primeRowsRow.holds Try.pinned (OpenSpec.ofChange primeRowsWrong)

/-- 'stewardlaw17.PrimeInverse': WHATEVER THE INPUT: true; the input reads as it did. -/
def primeInverseSpec : ChangeSpec := { name := "primeInverse", fn := fun _ => fun
  | [d1, d2] => { results := [.lit (.bool true)], args := [d1, d2] }
  | _ => none }
def primeInverseRow : OpenClaim := { program := "ytpjbdejgamajlaa", sum := "eee259a93745c88c7907a05a55b0b4a9ef52150f150ec143f4bd847dbb56e4a9", func := "steward/stewardlaw17.PrimeInverse", spec := "primeInverse", recurses := true, apart := false }
def PrimeInverseSaid : Prop := primeInverseRow.holds Try.pinned (OpenSpec.ofChange primeInverseSpec)

/-- ITS FALSE NEIGHBOUR: 'it returns false'. Refute it at one input. -/
def primeInverseWrong : ChangeSpec := { name := "primeInverse", fn := fun _ => fun
  | [d1, d2] => { results := [.lit (.bool false)], args := [d1, d2] }
  | _ => none }
def PrimeInverseWrongFalsely : Prop := primeInverseRow.holds Try.pinned (OpenSpec.ofChange primeInverseWrong)

/- THE SECOND FORM. 'bulk': how many values and letters a reading holds, each counted each time it is reached (what is shared counts as often as it is met; a slice's spare places count too). A statement '..UptoSaid' is the law's where the arguments, and the package variables that the reading takes, are together of bulk at most 1048576: NARROWER than '..Said'. Prove '..Said' where nothing that the law and all that it calls make is longer than what came in: it says more and counts as full. Else prove '..UptoSaid'. A law counts once. -/
mutual
def uptoBulk {H : Type} : DataW H → Nat
  | .lit (.string bytes) => bytes.length + 1
  | .lit _ => 1
  | .nil => 1
  | .ptr d => uptoBulk d + 1
  | .slice elems spare => uptoBulkAll elems + uptoBulkAll spare + 1
  | .agg parts => uptoBulkAll parts + 1
  | .iface _ d => uptoBulk d + 1
  | .map entries => uptoBulkEntries entries + 1
  | .held _ => 1
def uptoBulkAll {H : Type} : List (DataW H) → Nat
  | [] => 0
  | d :: r => uptoBulk d + uptoBulkAll r
def uptoBulkEntries {H : Type} : List (Lit × DataW H) → Nat
  | [] => 0
  | x :: r => uptoBulkEntry x + uptoBulkEntries r
def uptoBulkEntry {H : Type} : Lit × DataW H → Nat
  | (.string bytes, d) => bytes.length + uptoBulk d + 1
  | (_, d) => uptoBulk d + 1
 end
def uptoSmall : (H : Type) → List (DataW H) → Bool := fun _ ds => decide (uptoBulkAll ds ≤ 1048576)
def OpenSpec.upto (s : _root_.Go.ChangeSpec) : _root_.Go.OpenSpec := { _root_.Go.OpenSpec.ofChange s with cond := some uptoSmall }

/-- 'stewardlaw17.PrimeGcd', WHERE WHAT IT READS IS OF BULK AT MOST 1048576: true; the input reads as it did. -/
def primeGcdUptoRow : OpenClaim := { program := "ytpjbdejgamajlaa", sum := "eee259a93745c88c7907a05a55b0b4a9ef52150f150ec143f4bd847dbb56e4a9", func := "steward/stewardlaw17.PrimeGcd", spec := "primeGcd", recurses := true, apart := false, narrowed := true }
def PrimeGcdUptoSaid : Prop := primeGcdUptoRow.holds Try.pinned (OpenSpec.upto primeGcdSpec)

/-- 'stewardlaw17.PrimeFactors', WHERE WHAT IT READS IS OF BULK AT MOST 1048576: true; the input reads as it did. -/
def primeFactorsUptoRow : OpenClaim := { program := "ytpjbdejgamajlaa", sum := "eee259a93745c88c7907a05a55b0b4a9ef52150f150ec143f4bd847dbb56e4a9", func := "steward/stewardlaw17.PrimeFactors", spec := "primeFactors", apart := false, narrowed := true }
def PrimeFactorsUptoSaid : Prop := primeFactorsUptoRow.holds Try.pinned (OpenSpec.upto primeFactorsSpec)

/-- 'stewardlaw17.PrimeRows', WHERE WHAT IT READS IS OF BULK AT MOST 1048576: true; the input reads as it did. -/
def primeRowsUptoRow : OpenClaim := { program := "ytpjbdejgamajlaa", sum := "eee259a93745c88c7907a05a55b0b4a9ef52150f150ec143f4bd847dbb56e4a9", func := "steward/stewardlaw17.PrimeRows", spec := "primeRows", recurses := true, apart := false, narrowed := true }
def PrimeRowsUptoSaid : Prop := primeRowsUptoRow.holds Try.pinned (OpenSpec.upto primeRowsSpec)

/-- 'stewardlaw17.PrimeInverse', WHERE WHAT IT READS IS OF BULK AT MOST 1048576: true; the input reads as it did. -/
def primeInverseUptoRow : OpenClaim := { program := "ytpjbdejgamajlaa", sum := "eee259a93745c88c7907a05a55b0b4a9ef52150f150ec143f4bd847dbb56e4a9", func := "steward/stewardlaw17.PrimeInverse", spec := "primeInverse", recurses := true, apart := false, narrowed := true }
def PrimeInverseUptoSaid : Prop := primeInverseUptoRow.holds Try.pinned (OpenSpec.upto primeInverseSpec)

end Rows
end Go.Proofs.Ytpjbdejgamajlaa
