/- fields: Line; the reference's Parse. -/
import Derived.Test.YtchpgdoidpllgaaDoorFldA
namespace Go.Proofs.YtchpgdoidpllgaaDoor
open Go.RowKit

/-- A field's line. -/
def lineL (f : Fld) : List UInt8 := f.1 ++ [58, 32] ++ f.2 ++ [13, 10]
theorem add_str (x y : List UInt8) (h : x.length + y.length ≤ 9223372036854775807) (W : World) : (Op.stringOp .add (bs x) (bs y)).run Tryd.prog W = .ok (.string (bs (x ++ y))) W := by
  rw [run_string_add_sum W _ _ (by rw [bs_size, bs_size]; exact h)]
  have : bs x ++ bs y = bs (x ++ y) := by
    apply ByteArray.ext
    simp [bs]
  rw [this]
theorem ib_at (c : UInt8) : ∀ (l : List UInt8) (j : Nat), c ∉ l.take j → l[j]? = some c → Lib.indexByte l c = (j : Int)
  | [], j, _, h => by simp at h
  | b :: r, 0, _, h => by
    obtain rfl : b = c := by simpa using h
    simp [Lib.indexByte]
  | b :: r, j + 1, hn, h => by
    rw [List.take_succ_cons, List.mem_cons, not_or] at hn
    have ih := ib_at c r j hn.2 (by simpa using h)
    have hbb : (b == c) = false := beq_eq_false_iff_ne.2 (fun e => hn.1 e.symm)
    have hne : ((j : Int) == -1) = false := beq_eq_false_iff_ne.2 (by omega)
    simp only [Lib.indexByte, hbb, ih, hne]
    simp
theorem ib_none (c : UInt8) (l : List UInt8) (h : c ∉ l) : Lib.indexByte l c = -1 := by
  rcases ib_cut c l with ⟨h1, _⟩ | ⟨i, _, h2, h3, _⟩
  · exact h1
  · exact absurd (by rw [h3]; simp) h
end Go.Proofs.YtchpgdoidpllgaaDoor
