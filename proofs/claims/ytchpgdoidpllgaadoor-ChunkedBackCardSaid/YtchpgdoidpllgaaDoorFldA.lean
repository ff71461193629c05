/- fields: Parse, Line; the reference's Parse. -/
import Derived.Test.YtchpgdoidpllgaaDoorSeqC
namespace Go.Proofs.YtchpgdoidpllgaaDoor
open Go.RowKit

/-- A field: its name, its value. -/
abbrev Fld := List UInt8 × List UInt8
def bs (l : List UInt8) : ByteArray := ⟨l.toArray⟩
theorem bs_list (l : List UInt8) : (bs l).data.toList = l := rfl
theorem bs_size (l : List UInt8) : (bs l).size = l.length := by rw [Lib.size_eq, bs_list]
theorem bs_of (t : ByteArray) : bs t.data.toList = t := (str_eq t _ rfl).symm
def fldV (f : Fld) : Value := .agg #[.string (bs f.1), .string (bs f.2)]
/-- A line's field. -/
def parseL (l : List UInt8) : Option Fld :=
  let i := Lib.indexByte l 58
  if 0 ≤ i ∧ tokB (l.take i.toNat) = true ∧ valB (trimB (l.drop (i.toNat + 1))) = true then some (l.take i.toNat, trimB (l.drop (i.toNat + 1))) else none
def parseV (l : List UInt8) : Value := match parseL l with
  | some f => .tuple #[fldV f, .int .i64 0]
  | none => .tuple #[fldV ([], []), .int .i64 2]
theorem cut58 (l : List UInt8) : Lib.cut l [58] = if 0 ≤ Lib.indexByte l 58 then (l.take (Lib.indexByte l 58).toNat, l.drop ((Lib.indexByte l 58).toNat + 1), true) else (l, [], false) := by
  unfold Lib.cut
  rw [Lib.index_one]
  rfl
end Go.Proofs.YtchpgdoidpllgaaDoor
