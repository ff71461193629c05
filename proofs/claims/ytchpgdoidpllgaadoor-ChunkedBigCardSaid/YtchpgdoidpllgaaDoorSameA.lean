/- stewardlaw05.Same. -/
import Derived.Test.YtchpgdoidpllgaaDoorIsS
import Derived.Test.YtchpgdoidpllgaaDoorOctF
import Derived.Laws.AppendOwn
namespace Go.Proofs.YtchpgdoidpllgaaDoor
open Go.RowKit

theorem str_beq (a b : ByteArray) : (a.toList == b.toList) = decide (a = b) := by
  rw [ByteArray.toList_eq, ByteArray.toList_eq]
  by_cases h : a = b
  · subst h; simp
  · have h2 : ¬ a.data = b.data := fun e => h (ByteArray.ext e)
    simp [h, h2]
theorem take_eq_step (xs ys : List ByteArray) (j : Nat) (hx : j < xs.length) (hy : j < ys.length) (h : xs.take j = ys.take j) (he : xs[j] = ys[j]) : xs.take (j + 1) = ys.take (j + 1) := by
  rw [List.take_add_one, List.take_add_one, h, List.getElem?_eq_getElem hx, List.getElem?_eq_getElem hy, he]

/-- The texts of lists of bytes. -/
def bsOf (ys : List (List UInt8)) : List ByteArray := ys.map fun l => ⟨l.toArray⟩
theorem bsOf_length (ys : List (List UInt8)) : (bsOf ys).length = ys.length := by simp [bsOf]
theorem bsOf_inj (a b : List (List UInt8)) : bsOf a = bsOf b ↔ a = b := by
  constructor
  · intro h
    have : (bsOf a).map (·.data.toList) = (bsOf b).map (·.data.toList) := by rw [h]
    simpa [bsOf, Function.comp_def] using this
  · intro h; rw [h]
/-- A slice that owns texts reads as them. -/
theorem own_isStrs {w : World} {base : Nat} {v : Value} {ys : List (List UInt8)} (h : w.ownsRow base 9 1 v ys.length (ys.map fun l => Value.string ⟨l.toArray⟩)) : ∃ a c, v = .slice a (bsOf ys).length c ∧ IsStrs w a c (bsOf ys) := by
  rw [bsOf_length]
  obtain ⟨_, ⟨rfl, h0⟩ | ⟨g, cap, cur, rfl, _, hg, hcap, _, hcs, htk⟩⟩ := h
  · obtain rfl : ys = [] := List.eq_nil_of_length_eq_zero h0
    exact ⟨none, 0, rfl, .inl rfl⟩
  · refine ⟨some ⟨g, 0, none⟩, cap, rfl, .inr ⟨g, 0, rfl, (Array.getElem?_eq_some_iff.1 hg).1, by rw [bsOf_length]; exact hcap, fun j x hx => ?_⟩⟩
    rw [Nat.zero_add]
    have hj : j < ys.length := by have := (List.getElem?_eq_some_iff.1 hx).1; rwa [bsOf_length] at this
    have hx2 : x = ⟨ys[j].toArray⟩ := by
      simp [bsOf, hj] at hx
      exact hx.symm
    have hc : cur[j]? = some (.string x) := by
      have h1 : (ys.map fun l => Value.string ⟨l.toArray⟩)[j]? = some (.string x) := by simp [hj, hx2]
      rw [← htk, List.getElem?_take, if_pos (by omega)] at h1
      simpa using h1
    simp [World.cell?, hg, hc]
end Go.Proofs.YtchpgdoidpllgaaDoor
