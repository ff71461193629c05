/- A slice of uint64 numbers that is handed in. -/
import Derived.Test.YtbgppkjcmgljnaaArr
import Derived.Test.YtbgppkjcmgljnaaLawDrT
import Derived.ChangeSlices
import Derived.Deep.MidRow
import Derived.WideKeyArgs
import Derived.DataReads
namespace Go.Proofs.Ytbgppkjcmgljnaa
open Go.ChangeShapes Go.WideShapes Go.ChangeAt Go.RowKit

theorem u64_wf {z : Int} (h : (Lit.int .u64 z).wf = true) : ∃ x : Nat, z = (x : Int) ∧ x < 18446744073709551616 := by
  simp [Lit.wf, IntKind.min, IntKind.max, IntKind.signed, IntKind.bits] at h
  exact ⟨z.toNat, by omega, by omega⟩
theorem u64s_open {H : Type} {enc : TypeId × Value → H} {P : Program} {t e : TypeId} {W : World} {base : Nat} {held : Bool} (ht : P.underlying t = some (.slice e)) (he : P.underlying e = some (.int .u64)) (hc : P.cellsOf e = 1)
    {r : Reach} {b0 : Nat} {v : Value} {d : DataW H} {ps : List MemPlace} (hval : Value.okWide P W r b0 t v) (hd : DataW.Trod enc P W base (fun _ => true) held t v d ps) :
    ∃ a c xs, v = .slice a xs.length c ∧ IsU64s W a c xs ∧ xs.length ≤ maxLen := by
  obtain ⟨a, l, c, rfl⟩ := okWide_slice ht hval
  obtain ⟨fuel, hf⟩ := hd
  rcases open_ints ht he hc hf with ⟨hcs, _⟩ | ⟨a', l', c', zs, hcs, _, hl, hm, hz, _, hcell, hwf⟩
  · simp [Value.cells] at hcs
    obtain ⟨rfl, rfl, rfl⟩ := hcs
    exact ⟨none, 0, [], rfl, ⟨.inl ⟨rfl, rfl, rfl⟩, fun x hx => by cases hx⟩, by simp⟩
  · simp [Value.cells] at hcs
    obtain ⟨rfl, rfl, rfl⟩ := hcs
    simp only [if_true] at hz
    have hlen : ((zs.take l).map Int.toNat).length = l := by simp; omega
    refine ⟨some a', c, (zs.take l).map Int.toNat, by rw [hlen], ⟨.inr ⟨a', rfl, by rw [hlen]; exact hl, fun j x hx => ?_⟩, fun x hx => ?_⟩, by rw [hlen]; omega⟩
    · rw [List.getElem?_map, Option.map_eq_some_iff] at hx
      obtain ⟨z, hz2, rfl⟩ := hx
      rw [List.getElem?_take] at hz2
      split at hz2
      · rename_i hj
        obtain ⟨x, rfl, _⟩ := u64_wf (hwf z (List.mem_of_getElem? hz2))
        have hcj := hcell j (by omega)
        have e : zs.getD j 0 = (x : Int) := by simp [List.getD, hz2]
        rw [e] at hcj
        refine ⟨?_, hcj⟩
        have := World.block_lt_of_cell? W _ hcj
        rwa [add_block] at this
      · cases hz2
    · rw [List.mem_map] at hx
      obtain ⟨z, hz2, rfl⟩ := hx
      obtain ⟨x, rfl, h⟩ := u64_wf (hwf z (List.mem_of_mem_take hz2))
      exact h
end Go.Proofs.Ytbgppkjcmgljnaa
