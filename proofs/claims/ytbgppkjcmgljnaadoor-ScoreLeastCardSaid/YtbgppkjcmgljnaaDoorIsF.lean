/- A slice of floating-point numbers in memory. -/
import Derived.Test.YtbgppkjcmgljnaaDoorBase
namespace Go.Proofs.YtbgppkjcmgljnaaDoor
open Go.RowKit

/-- A slice of floating-point numbers. -/
def IsFlts (w : World) (a : Option Addr) (c : Nat) (xs : List Nat) : Prop :=
  xs = [] ∨ ∃ bk o, a = some ⟨bk, o, none⟩ ∧ bk < w.heap.size ∧ xs.length ≤ c ∧ ∀ (j : Nat) x, xs[j]? = some x → w.cell? ⟨bk, o + j, none⟩ = some (.float .f64 x) ∧ x < 18446744073709551616
theorem IsFlts.below {w w' : World} {a : Option Addr} {c : Nat} {xs : List Nat} (h : IsFlts w a c xs) (hb : Below w.heap.size w w') : IsFlts w' a c xs := by
  rcases h with h | ⟨bk, o, ha, hbk, hl, hc⟩
  · exact .inl h
  · exact .inr ⟨bk, o, ha, Nat.lt_of_lt_of_le hbk hb.size, hl, fun j x hx => by rw [(bcell hb).1 _ _ hbk]; exact hc j x hx⟩
end Go.Proofs.YtbgppkjcmgljnaaDoor
