/- strconv.fmtEFG: the text without an exponent: lists. -/
import Derived.Test.YtbgppkjcmgljnaaDoorFmG
namespace Go.Proofs.YtbgppkjcmgljnaaDoor
open Go.RowKit

def rowL (g : Nat → UInt8) (o n : Nat) : List UInt8 := (List.range n).map fun t => g (o + t)
def zerL (n : Nat) : List UInt8 := List.replicate n 48
theorem rowL_succ (g : Nat → UInt8) (o n : Nat) : rowL g o (n + 1) = rowL g o n ++ [g (o + n)] := by
  unfold rowL; rw [List.range_succ, List.map_append]; rfl
theorem rowL_zero (g : Nat → UInt8) (o : Nat) : rowL g o 0 = [] := rfl
theorem rowL_len (g : Nat → UInt8) (o n : Nat) : (rowL g o n).length = n := by unfold rowL; simp
theorem zerL_succ (n : Nat) : zerL (n + 1) = zerL n ++ [48] := List.replicate_succ'
theorem zerL_zero : zerL 0 = [] := rfl
theorem zerL_len (n : Nat) : (zerL n).length = n := by unfold zerL; simp
/-- The digits ahead of the point. -/
def intP (nz p : Nat) (g : Nat → UInt8) : List UInt8 := if nz ≤ p then rowL g 0 nz ++ zerL (p - nz) else rowL g 0 p
/-- The point and the digits behind it. -/
def fracP (nz p : Nat) (g : Nat → UInt8) : List UInt8 := if nz ≤ p then [] else [46] ++ rowL g p (nz - p)
/-- The point, the zeros and the digits behind it. -/
def fracN (nz q : Nat) (g : Nat → UInt8) : List UInt8 := if nz + q = 0 then [] else [46] ++ zerL q ++ rowL g 0 nz
theorem intP_len (nz p : Nat) (g : Nat → UInt8) (_ : nz ≤ 20) (_ : p ≤ 20) : (intP nz p g).length ≤ 40 := by
  unfold intP; split <;> simp [rowL_len, zerL_len] <;> omega
/-- One byte more at the end of a row or of zeros. -/
theorem OwnB.rowS {B b nz : Nat} {g : Nat → UInt8} {w0 w : World} {v : Value} {X l : List UInt8} {o j : Nat} (h : OwnB B b nz g w0 v l w) (e : l = (X ++ rowL g o j) ++ [g (o + j)]) : OwnB B b nz g w0 v (X ++ rowL g o (j + 1)) w := by
  rw [rowL_succ, ← List.append_assoc, ← e]; exact h
theorem OwnB.zerS {B b nz : Nat} {g : Nat → UInt8} {w0 w : World} {v : Value} {X l : List UInt8} {j : Nat} (h : OwnB B b nz g w0 v l w) (e : l = (X ++ zerL j) ++ [48]) : OwnB B b nz g w0 v (X ++ zerL (j + 1)) w := by
  rw [zerL_succ, ← List.append_assoc, ← e]; exact h
end Go.Proofs.YtbgppkjcmgljnaaDoor
