/- A slice of integers that is handed in. -/
import Derived.Test.YtchpgdoidpllgaaDoorArr
import Derived.Test.YtchpgdoidpllgaaDoorBase
import Derived.ChangeSlices
import Derived.Deep.MidRow
import Derived.WideKeyArgs
import Derived.DataReads
namespace Go.Proofs.YtchpgdoidpllgaaDoor
open Go.ChangeShapes Go.WideShapes Go.ChangeAt Go.RowKit

/-- A slice of integers. -/
def IsInts (w : World) (a : Option Addr) (c : Nat) (xs : List Int) : Prop :=
  xs = [] ∨ ∃ bk o, a = some ⟨bk, o, none⟩ ∧ bk < w.heap.size ∧ xs.length ≤ c ∧ ∀ (j : Nat) x, xs[j]? = some x → w.cell? ⟨bk, o + j, none⟩ = some (.int .i64 x)
theorem IsInts.below {w w' : World} {a : Option Addr} {c : Nat} {xs : List Int} (h : IsInts w a c xs) (hb : Below w.heap.size w w') : IsInts w' a c xs := by
  rcases h with h | ⟨bk, o, ha, hbk, hl, hc⟩
  · exact .inl h
  · exact .inr ⟨bk, o, ha, Nat.lt_of_lt_of_le hbk hb.size, hl, fun j x hx => by rw [(bcell hb).1 _ _ hbk]; exact hc j x hx⟩
theorem ints_open {H : Type} {enc : TypeId × Value → H} {P : Program} {t e : TypeId} {W : World} {base : Nat} {held : Bool} (ht : P.underlying t = some (.slice e)) (he : P.underlying e = some (.int .i64)) (hc : P.cellsOf e = 1)
    {r : Reach} {b0 : Nat} {v : Value} {d : DataW H} {ps : List MemPlace} (hval : Value.okWide P W r b0 t v) (hd : DataW.Trod enc P W base (fun _ => true) held t v d ps) :
    ∃ a c xs, v = .slice a xs.length c ∧ IsInts W a c xs ∧ xs.length ≤ maxLen := by
  obtain ⟨a, l, c, rfl⟩ := okWide_slice ht hval
  obtain ⟨fuel, hf⟩ := hd
  rcases open_ints ht he hc hf with ⟨hcs, _⟩ | ⟨a', l', c', ss, hcs, _, hl, hm, hz, _, hcell, _⟩
  · simp [Value.cells] at hcs
    obtain ⟨rfl, rfl, rfl⟩ := hcs
    exact ⟨none, 0, [], rfl, .inl rfl, by simp⟩
  · simp [Value.cells] at hcs
    obtain ⟨rfl, rfl, rfl⟩ := hcs
    simp only [if_true] at hz
    have hlen : (ss.take l).length = l := by simp; omega
    refine ⟨some a', c, ss.take l, by rw [hlen], ?_, by rw [hlen]; omega⟩
    by_cases h0 : l = 0
    · left; rw [h0]; rfl
    · right
      have c0 := hcell 0 (by omega)
      have hs0 := World.cell?_spot c0
      have ha0 : a'.add 0 = a' := by simp [Addr.add]
      rw [ha0] at hs0 c0
      obtain ⟨bk, o, sp⟩ := a'
      simp only at hs0
      subst hs0
      refine ⟨bk, o, rfl, World.block_lt_of_cell? W _ c0, by rw [hlen]; exact hl, fun j x hx => ?_⟩
      have hj : j < l := by
        rcases Nat.lt_or_ge j l with h | h
        · exact h
        · rw [List.getElem?_eq_none (by omega)] at hx; cases hx
      have hcj := hcell j (by omega)
      rw [Addr.add_mid] at hcj
      rw [hcj]
      rw [List.getElem?_take, if_pos hj] at hx
      simp [List.getD, hx]
end Go.Proofs.YtchpgdoidpllgaaDoor
