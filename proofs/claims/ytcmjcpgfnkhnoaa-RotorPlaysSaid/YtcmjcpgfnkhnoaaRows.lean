/-
  No cell of these rows narrows 'for every input' (looked for: loops, veiled, ifaces, maps, wideKeys, modest, calm, conditions, laid).
  DERIVED. THE GIVEN ROWS OF THIS SEAT. 4 by the template 'for every input the law returns true; each argument reads behind the call as it read before'; 0 by the template 'total and deterministic' (their statements: YtcmjcpgfnkhnoaaTotals.lean).
  GIVEN WITH THE SEED: the statements are not yours to turn. If you find one false, say at which input.
  Laid BY PROGRAM, IN A SANDBOX (cutbox-rows.mjs): the forced cells as the released guide's own fill.sh prints them over the translation d5acbcbe3a91a822… (all of the seat's roots in one cut). By AI agents, Wed Nov 11 2026. No macro, syntax, notation, axiom, sorry.
-/
import Derived.Test.YtcmjcpgfnkhnoaaChecked
import GoSem.Claim
import GoSem.ClaimJoined
import GoSem.ClaimMapViews
import Derived.JoinedTies
import Derived.KernelRfl
namespace Go.Proofs.Ytcmjcpgfnkhnoaa
/- THE CELL 'sum', in the pinned program and in every row, IS THE sha256 OF THE DUMP (.gsa) THAT YtcmjcpgfnkhnoaaProg.lean LOADS. Nothing in Lean hashes anything: it is a label: what it is worth is what the hold of that sum in a sandbox is worth. -/
noncomputable def Try.pinned : Pinned := { name := "ytcmjcpgfnkhnoaa", sum := "d5acbcbe3a91a82242358dcafd9b0949b8d12d37d1c6162f15505cad4129ede2", checked := Try.checked }
namespace Rows
def none {H : Type} : Left H := { results := [], args := [] }

/-- 'stewardlaw15.RotorPlays': WHATEVER THE INPUT: true; the input reads as it did. -/
def rotorPlaysSpec : ChangeSpec := { name := "rotorPlays", fn := fun _ => fun
  | [d1, d2] => { results := [.lit (.bool true)], args := [d1, d2] }
  | _ => none }
def rotorPlaysRow : OpenClaim := { program := "ytcmjcpgfnkhnoaa", sum := "d5acbcbe3a91a82242358dcafd9b0949b8d12d37d1c6162f15505cad4129ede2", func := "steward/stewardlaw15.RotorPlays", spec := "rotorPlays", inPlace := ["maps.clone"], unfollowed := true, recurses := true, apart := false }
def RotorPlaysSaid : Prop := rotorPlaysRow.holds Try.pinned (OpenSpec.ofChange rotorPlaysSpec)

/-- ITS FALSE NEIGHBOUR: 'it returns false'. Refute it at one input. -/
def rotorPlaysWrong : ChangeSpec := { name := "rotorPlays", fn := fun _ => fun
  | [d1, d2] => { results := [.lit (.bool false)], args := [d1, d2] }
  | _ => none }
def RotorPlaysWrongFalsely : Prop := rotorPlaysRow.holds Try.pinned (OpenSpec.ofChange rotorPlaysWrong)

/-- 'stewardlaw15.RotorRounds': WHATEVER THE INPUT: true; the input reads as it did. -/
def rotorRoundsSpec : ChangeSpec := { name := "rotorRounds", fn := fun _ => fun
  | [d] => { results := [.lit (.bool true)], args := [d] }
  | _ => none }
def rotorRoundsRow : OpenClaim := { program := "ytcmjcpgfnkhnoaa", sum := "d5acbcbe3a91a82242358dcafd9b0949b8d12d37d1c6162f15505cad4129ede2", func := "steward/stewardlaw15.RotorRounds", spec := "rotorRounds", apart := false }
def RotorRoundsSaid : Prop := rotorRoundsRow.holds Try.pinned (OpenSpec.ofChange rotorRoundsSpec)

/-- ITS FALSE NEIGHBOUR: 'it returns false'. Refute it at one input. -/
def rotorRoundsWrong : ChangeSpec := { name := "rotorRounds", fn := fun _ => fun
  | [d] => { results := [.lit (.bool false)], args := [d] }
  | _ => none }
def RotorRoundsWrongFalsely : Prop := rotorRoundsRow.holds Try.pinned (OpenSpec.ofChange rotorRoundsWrong)

/-- 'stewardlaw15.RotorFair': WHATEVER THE INPUT: true; the input reads as it did. -/
def rotorFairSpec : ChangeSpec := { name := "rotorFair", fn := fun _ => fun
  | [d1, d2] => { results := [.lit (.bool true)], args := [d1, d2] }
  | _ => none }
def rotorFairRow : OpenClaim := { program := "ytcmjcpgfnkhnoaa", sum := "d5acbcbe3a91a82242358dcafd9b0949b8d12d37d1c6162f15505cad4129ede2", func := "steward/stewardlaw15.RotorFair", spec := "rotorFair", apart := false }
def RotorFairSaid : Prop := rotorFairRow.holds Try.pinned (OpenSpec.ofChange rotorFairSpec)

/-- ITS FALSE NEIGHBOUR: 'it returns false'. Refute it at one input. -/
def rotorFairWrong : ChangeSpec := { name := "rotorFair", fn := fun _ => fun
  | [d1, d2] => { results := [.lit (.bool false)], args := [d1, d2] }
  | _ => none }
def RotorFairWrongFalsely : Prop := rotorFairRow.holds Try.pinned (OpenSpec.ofChange rotorFairWrong)

/-- 'stewardlaw16.ChoiceWhole': WHATEVER THE INPUT: true; the input reads as it did. -/
def choiceWholeSpec : ChangeSpec := { name := "choiceWhole", fn := fun _ => fun
  | [d] => { results := [.lit (.bool true)], args := [d] }
  | _ => none }
def choiceWholeRow : OpenClaim := { program := "ytcmjcpgfnkhnoaa", sum := "d5acbcbe3a91a82242358dcafd9b0949b8d12d37d1c6162f15505cad4129ede2", func := "steward/stewardlaw16.ChoiceWhole", spec := "choiceWhole", inPlace := ["math.Float64frombits"], unfollowed := true, recurses := true, apart := false }
def ChoiceWholeSaid : Prop := choiceWholeRow.holds Try.pinned (OpenSpec.ofChange choiceWholeSpec)

/-- ITS FALSE NEIGHBOUR: 'it returns false'. Refute it at one input. -/
def choiceWholeWrong : ChangeSpec := { name := "choiceWhole", fn := fun _ => fun
  | [d] => { results := [.lit (.bool false)], args := [d] }
  | _ => none }
def ChoiceWholeWrongFalsely : Prop := choiceWholeRow.holds Try.pinned (OpenSpec.ofChange choiceWholeWrong)

/- THE SECOND FORM. 'bulk': how many values and letters a reading holds, each counted each time it is reached (what is shared counts as often as it is met; a slice's spare places count too). A statement '..UptoSaid' is the law's where the arguments, and the package variables that the reading takes, are together of bulk at most 1048576: NARROWER than '..Said'. Prove '..Said' where nothing that the law and all that it calls make is longer than what came in: it says more and counts as full. Else prove '..UptoSaid'. A law counts once. -/
mutual
def uptoBulk {H : Type} : DataW H → Nat
  | .lit (.string bytes) => bytes.length + 1
  | .lit _ => 1
  | .nil => 1
  | .ptr d => uptoBulk d + 1
  | .slice elems spare => uptoBulkAll elems + uptoBulkAll spare + 1
  | .agg parts => uptoBulkAll parts + 1
  | .iface _ d => uptoBulk d + 1
  | .map entries => uptoBulkEntries entries + 1
  | .held _ => 1
def uptoBulkAll {H : Type} : List (DataW H) → Nat
  | [] => 0
  | d :: r => uptoBulk d + uptoBulkAll r
def uptoBulkEntries {H : Type} : List (Lit × DataW H) → Nat
  | [] => 0
  | x :: r => uptoBulkEntry x + uptoBulkEntries r
def uptoBulkEntry {H : Type} : Lit × DataW H → Nat
  | (.string bytes, d) => bytes.length + uptoBulk d + 1
  | (_, d) => uptoBulk d + 1
 end
def uptoSmall : (H : Type) → List (DataW H) → Bool := fun _ ds => decide (uptoBulkAll ds ≤ 1048576)
def OpenSpec.upto (s : _root_.Go.ChangeSpec) : _root_.Go.OpenSpec := { _root_.Go.OpenSpec.ofChange s with cond := some uptoSmall }

/-- 'stewardlaw15.RotorPlays', WHERE WHAT IT READS IS OF BULK AT MOST 1048576: true; the input reads as it did. -/
def rotorPlaysUptoRow : OpenClaim := { program := "ytcmjcpgfnkhnoaa", sum := "d5acbcbe3a91a82242358dcafd9b0949b8d12d37d1c6162f15505cad4129ede2", func := "steward/stewardlaw15.RotorPlays", spec := "rotorPlays", inPlace := ["maps.clone"], unfollowed := true, recurses := true, apart := false, narrowed := true }
def RotorPlaysUptoSaid : Prop := rotorPlaysUptoRow.holds Try.pinned (OpenSpec.upto rotorPlaysSpec)

/-- 'stewardlaw15.RotorRounds', WHERE WHAT IT READS IS OF BULK AT MOST 1048576: true; the input reads as it did. -/
def rotorRoundsUptoRow : OpenClaim := { program := "ytcmjcpgfnkhnoaa", sum := "d5acbcbe3a91a82242358dcafd9b0949b8d12d37d1c6162f15505cad4129ede2", func := "steward/stewardlaw15.RotorRounds", spec := "rotorRounds", apart := false, narrowed := true }
def RotorRoundsUptoSaid : Prop := rotorRoundsUptoRow.holds Try.pinned (OpenSpec.upto rotorRoundsSpec)

/-- 'stewardlaw15.RotorFair', WHERE WHAT IT READS IS OF BULK AT MOST 1048576: true; the input reads as it did. -/
def rotorFairUptoRow : OpenClaim := { program := "ytcmjcpgfnkhnoaa", sum := "d5acbcbe3a91a82242358dcafd9b0949b8d12d37d1c6162f15505cad4129ede2", func := "steward/stewardlaw15.RotorFair", spec := "rotorFair", apart := false, narrowed := true }
def RotorFairUptoSaid : Prop := rotorFairUptoRow.holds Try.pinned (OpenSpec.upto rotorFairSpec)

/-- 'stewardlaw16.ChoiceWhole', WHERE WHAT IT READS IS OF BULK AT MOST 1048576: true; the input reads as it did. -/
def choiceWholeUptoRow : OpenClaim := { program := "ytcmjcpgfnkhnoaa", sum := "d5acbcbe3a91a82242358dcafd9b0949b8d12d37d1c6162f15505cad4129ede2", func := "steward/stewardlaw16.ChoiceWhole", spec := "choiceWhole", inPlace := ["math.Float64frombits"], unfollowed := true, recurses := true, apart := false, narrowed := true }
def ChoiceWholeUptoSaid : Prop := choiceWholeUptoRow.holds Try.pinned (OpenSpec.upto choiceWholeSpec)

end Rows
end Go.Proofs.Ytcmjcpgfnkhnoaa
