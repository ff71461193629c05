/- fields: Parse, Line; the reference's Parse. -/
import Derived.Test.YtkajfocjpaemgaaDoorSeqC
namespace Go.Proofs.YtkajfocjpaemgaaDoor
open Go.RowKit

/-- A field: its name, its value. -/
abbrev Fld := List UInt8 × List UInt8
def bs (l : List UInt8) : ByteArray := ⟨l.toArray⟩
theorem bs_list (l : List UInt8) : (bs l).data.toList = l := rfl
theorem bs_size (l : List UInt8) : (bs l).size = l.length := by rw [Lib.size_eq, bs_list]
theorem bs_of (t : ByteArray) : bs t.data.toList = t := (str_eq t _ rfl).symm
def fldV (f : Fld) : Value := .agg #[.string (bs f.1), .string (bs f.2)]
/-- A line's field. -/
def parseL (l : List UInt8) : Option Fld :=
  let i := Lib.indexByte l 58
  if 0 ≤ i ∧ tokB (l.take i.toNat) = true ∧ valB (trimB (l.drop (i.toNat + 1))) = true then some (l.take i.toNat, trimB (l.drop (i.toNat + 1))) else none
def parseV (l : List UInt8) : Value := match parseL l with
  | some f => .tuple #[fldV f, .int .i64 0]
  | none => .tuple #[fldV ([], []), .int .i64 2]
theorem cut58 (l : List UInt8) : Lib.cut l [58] = if 0 ≤ Lib.indexByte l 58 then (l.take (Lib.indexByte l 58).toNat, l.drop ((Lib.indexByte l 58).toNat + 1), true) else (l, [], false) := by
  unfold Lib.cut
  rw [Lib.index_one]
  rfl
theorem cut69 (s : ByteArray) (hs : s.size ≤ 4000000000) (a b : List UInt8) (q : Bool) (h : Lib.cut s.data.toList [58] = (a, b, q)) (w : World) (hw : MaxL w) :
    Calls Tryd.prog 27 #[.string s, .string ⟨#[58]⟩] w fun e w' => e = .returned (.tuple #[.string (bs a), .string (bs b), .bool q]) ∧ Below w.heap.size w w' := by
  obtain ⟨_, m, hm⟩ := hw
  refine (Tryd.strings_Cut s ⟨#[58]⟩ m w (by omega) hm).mono fun e w' ⟨he, n, hn⟩ => ⟨?_, ?_⟩
  · rw [he]
    have h2 : Lib.cut s.data.toList (⟨#[58]⟩ : ByteArray).data.toList = (a, b, q) := h
    rw [h2]; rfl
  · subst hn; exact ⟨rfl, rfl, rfl, Nat.le_refl _, fun _ _ => rfl⟩
theorem token_l (l : List UInt8) (hl : l.length ≤ 4000000000) (q : Bool) (h : tokB l = q) (w : World) :
    Calls Tryd.prog 31 #[.string (bs l)] w fun e w' => e = .returned (.bool q) ∧ w = w' := by
  subst h; exact token14 (bs l) (by rw [bs_size]; omega) w
theorem value_l (l : List UInt8) (hl : l.length ≤ 4000000000) (q : Bool) (h : valB l = q) (w : World) :
    Calls Tryd.prog 35 #[.string (bs l)] w fun e w' => e = .returned (.bool q) ∧ Below w.heap.size w w' := by
  subst h; exact value18 (bs l) (by rw [bs_size]; omega) w
theorem trim_b (y : List UInt8) (hy : y.length ≤ 4611686018427387904) (w : World) :
    Calls Tryd.prog 49 #[.string (bs y)] w fun e w' => e = .returned (.string (bs (trimB y))) ∧ Below w.heap.size w w' := trim_list y hy w
end Go.Proofs.YtkajfocjpaemgaaDoor
