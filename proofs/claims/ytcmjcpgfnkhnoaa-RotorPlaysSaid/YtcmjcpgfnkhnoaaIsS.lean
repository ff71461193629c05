/- Slices of strings. -/
import Derived.Test.YtcmjcpgfnkhnoaaBase
namespace Go.Proofs.Ytcmjcpgfnkhnoaa
open Go.RowKit

/-- A slice that reads as these strings. -/
def IsStrs (w : World) (a : Option Addr) (c : Nat) (xs : List ByteArray) : Prop :=
  xs = [] ∨ ∃ bk o, a = some ⟨bk, o, none⟩ ∧ bk < w.heap.size ∧ xs.length ≤ c ∧ ∀ (j : Nat) x, xs[j]? = some x → w.cell? ⟨bk, o + j, none⟩ = some (.string x)
theorem IsStrs.below {w w' : World} {a : Option Addr} {c : Nat} {xs : List ByteArray} (h : IsStrs w a c xs) (hb : Below w.heap.size w w') : IsStrs w' a c xs := by
  obtain h | ⟨bk, o, ha, hlt, hc, hcell⟩ := h
  · exact .inl h
  · obtain ⟨hc', _⟩ := bcell hb
    exact .inr ⟨bk, o, ha, Nat.lt_of_lt_of_le hlt hb.size, hc, fun j x hx => by rw [hc' _ _ hlt]; exact hcell j x hx⟩
end Go.Proofs.Ytcmjcpgfnkhnoaa
