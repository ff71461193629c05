/- Slices of strings, and strings.Join of them with nothing between. -/
import Derived.Test.YtlcpkplipfcdaaaDoorBase
import Derived.Test.YtlcpkplipfcdaaaDoorShelf
namespace Go.Proofs.YtlcpkplipfcdaaaDoor
open Go.RowKit

/-- A slice that reads as these strings. -/
def IsStrs (w : World) (a : Option Addr) (c : Nat) (xs : List ByteArray) : Prop :=
  xs = [] ∨ ∃ bk o, a = some ⟨bk, o, none⟩ ∧ bk < w.heap.size ∧ xs.length ≤ c ∧ ∀ (j : Nat) x, xs[j]? = some x → w.cell? ⟨bk, o + j, none⟩ = some (.string x)
set_option maxRecDepth 100000 in
theorem IsStrs.below {w w' : World} {a : Option Addr} {c : Nat} {xs : List ByteArray} (h : IsStrs w a c xs) (hb : Below w.heap.size w w') : IsStrs w' a c xs := by
  obtain h | ⟨bk, o, ha, hlt, hc, hcell⟩ := h
  · exact .inl h
  · obtain ⟨hc', _⟩ := bcell hb
    exact .inr ⟨bk, o, ha, Nat.lt_of_lt_of_le hlt hb.size, hc, fun j x hx => by rw [hc' _ _ hlt]; exact hcell j x hx⟩
/-- All the bytes. -/
def flat (xs : List ByteArray) : List UInt8 := (xs.map (·.data.toList)).flatten

set_option maxRecDepth 100000 in
theorem intercalate_nil : ∀ xs : List (List UInt8), ([] : List UInt8).intercalate xs = xs.flatten
  | [] => rfl
  | [x] => by simp [List.intercalate]
  | x :: y :: r => by
    have := intercalate_nil (y :: r)
    simp [List.intercalate] at this ⊢
    exact this

set_option maxRecDepth 100000 in
theorem join25 (w : World) (a : Option Addr) (c : Nat) (xs : List ByteArray) (h : IsStrs w a c xs) (hn : xs.length ≤ 140737488355328) (hl : (flat xs).length ≤ 140737488355328) :
    Calls Tryd.prog 82 #[.slice a xs.length c, .string ⟨#[]⟩] w fun e w' => e = .returned (.string ⟨(flat xs).toArray⟩) ∧ Below w.heap.size w w' := by
  have hj : Lib.join (xs.map (·.data.toList)) (ByteArray.data ⟨#[]⟩).toList = flat xs := by
    show ([] : List UInt8).intercalate _ = _
    rw [intercalate_nil]; rfl
  obtain h | ⟨bk, o, ha, hlt, hc, hcell⟩ := h
  · subst h
    refine (Tryd.strings_Join_none a c ⟨#[]⟩ w).mono fun e w' ⟨he, hw⟩ => ⟨?_, hw ▸ Below.refl _ _⟩
    rw [he]; rfl
  · subst ha
    have := Tryd.strings_Join bk o c xs ⟨#[]⟩ w hcell hlt hn hc (by rw [hj]; exact hl)
    rwa [hj] at this
end Go.Proofs.YtlcpkplipfcdaaaDoor
