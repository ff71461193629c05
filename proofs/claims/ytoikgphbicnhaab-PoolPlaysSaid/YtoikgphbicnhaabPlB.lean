/- pool.sweep. -/
import Derived.Test.YtoikgphbicnhaabPlA
import Derived.Test.YtoikgphbicnhaabRegT
import Derived.Test.YtoikgphbicnhaabMx
import Derived.Sort.OwnSorted
import Derived.Lib.SlicesS
import Derived.Shelf.Lay
import Derived.Shelf.SlicesE.DeleteFunc
import Derived.Defers
namespace Go.Proofs
open Go.Shelf
shelf_lay_g SlLaysH.n10 Slgf 10 at Try 48 as Try.delStr
end Go.Proofs
namespace Go.Proofs.Ytoikgphbicnhaab
open Go.RowKit Go.Maps Go.Shelf Go.Sort

theorem beq_same (x s : ByteArray) : (x.toList == s.toList) = decide (x = s) := by
  by_cases h : x = s
  · subst h; simp
  · rw [decide_eq_false h]; exact (Lib.bytes_beq_false_iff ..).2 h
theorem holds_own {w : World} {g cap : Nat} {ns : List ByteArray} {e : TypeId} (h : w.ownsRow 0 e 1 (.slice (some ⟨g, 0, none⟩) ns.length cap) ns.length (ns.map Value.string)) : Go.Sort.Holds Value.string w g 0 ns.toArray ∧ ns.length ≤ cap ∧ cap ≤ maxLen := by
  obtain ⟨_, ⟨hv, _⟩ | ⟨g', cap', cur, hv, _, hb, h1, h2, h3, h4⟩⟩ := h
  · cases hv
  · cases hv
    refine ⟨fun j hj => ?_, h1, h2⟩
    have hj' : j < ns.length := by simpa using hj
    refine ⟨?_, by simp [World.frozen?, hb]⟩
    rw [Nat.mul_one] at h4
    have q : (cur.toList.take ns.length)[j]? = (ns.map Value.string)[j]? := by rw [h4]
    rw [List.getElem?_take_of_lt hj'] at q
    simp only [World.cell?, hb, Nat.zero_add, Option.isSome_none, Bool.false_eq_true, if_false]
    rw [← Array.getElem?_toList, q]
    simp [hj']
theorem take_putStr (cur : Array Value) (ts : List ByteArray) (m : Nat) (hm : m ≤ ts.length) (h : ts.length ≤ cur.size) : (putCells Value.string 0 ts.toArray cur).toList.take m = (ts.take m).map Value.string := by
  apply List.ext_getElem?
  intro j
  by_cases hj : j < m
  · rw [List.getElem?_take_of_lt hj, Array.getElem?_toList]
    simp [putCells, hj, show j < cur.size by omega, show j < ts.length by omega]
  · rw [List.getElem?_take_eq_none (by omega), List.getElem?_eq_none (by simp; omega)]
theorem own_putStr {w : World} {g cap q m : Nat} {e : TypeId} {ns ts : List ByteArray} (h : w.ownsRow 0 e 1 (.slice (some ⟨g, 0, none⟩) ns.length cap) ns.length (ns.map Value.string)) (hl : ts.length = ns.length) (hm : m ≤ ts.length) :
    (putRow Value.string (Sort.ahead w q) g 0 ts.toArray).ownsRow 0 e 1 (.slice (some ⟨g, 0, none⟩) m cap) m ((ts.take m).map Value.string) ∧ w.grownBy (putRow Value.string (Sort.ahead w q) g 0 ts.toArray) (some g) := by
  obtain ⟨_, ⟨hv, _⟩ | ⟨g', cap', cur, hv, _, hb, h1, h2, h3, h4⟩⟩ := h
  · cases hv
  · cases hv
    refine ⟨⟨by simp; omega, .inr ⟨g, cap, putCells Value.string 0 ts.toArray cur, rfl, Nat.zero_le _, ?_, by omega, h2, by simp [putCells, h3], ?_⟩⟩, ?_⟩
    · simp [putRow, mapBlock, Sort.ahead, Array.getElem?_modify, hb, onCells]
    · rw [Nat.mul_one]; exact take_putStr cur ts m hm (by omega)
    · refine ⟨rfl, rfl, rfl, by simp, fun k hk hne => ?_⟩
      have : g ≠ k := fun e => hne (by rw [e])
      simp [putRow, mapBlock, Sort.ahead, Array.getElem?_modify, this]
theorem clos49 (x s : ByteArray) (nb : Nat) (W : World) (hc : W.cell? ⟨nb, 0, none⟩ = some (.string s)) : Calls Try.prog 49 (#[.string x] ++ #[.pointer (some ⟨nb, 0, none⟩)]) W fun e w' => e = .returned (.bool (decide (x = s))) ∧ ∃ q, w' = W.drewN q := by
  have hb := beq_same x s
  generalize decide (x = s) = p at *
  go_enter Try.func49, Try.ntmps49
  go_wp2_with fail
  go_ret
  exact ⟨rfl, 0, rfl⟩
/-- The names but one. -/
def butN (ns : List ByteArray) (s : ByteArray) : List ByteArray := ns.filter fun x => !decide (x = s)
theorem del48 (g cap nb : Nat) (ns : List ByteArray) (s : ByteArray) (w : World) (hl : ns.length ≤ 1000000) (hn : nb ≠ g) (hc : w.cell? ⟨nb, 0, none⟩ = some (.string s)) (h : w.ownsRow 0 9 1 (.slice (some ⟨g, 0, none⟩) ns.length cap) ns.length (ns.map Value.string)) :
    Calls Try.prog 48 #[.slice (some ⟨g, 0, none⟩) ns.length cap, .func (.func 49) #[] #[.pointer (some ⟨nb, 0, none⟩)]] w fun e w' =>
      e = .returned (.slice (some ⟨g, 0, none⟩) (butN ns s).length cap) ∧ w'.ownsRow 0 9 1 (.slice (some ⟨g, 0, none⟩) (butN ns s).length cap) (butN ns s).length ((butN ns s).map Value.string) ∧ w.grownBy w' (some g) := by
  obtain ⟨hH, h1, h2⟩ := holds_own h
  have hlt : nb < w.heap.size := World.block_lt_of_cell? w _ hc
  have hs := AnyE.slices_DeleteFunc Try.delStr Value.string (fun _ => rfl) (fun x => decide (x = s)) 49 #[.pointer (some ⟨nb, 0, none⟩)] (enters_of Try.func49 (by kernel_rfl) rfl) ⟨#[]⟩ (fun _ => by kernel_rfl) g 0 cap ns.toArray w
    (fun W x hW => clos49 x s nb W (by rw [(bcell hW).1 _ _ hlt]; exact hc))
    (fun n os dk x hd => clos49 x s nb _ (by
      unfold sortWorld
      rw [cell?_grow _ _ _ (by simpa using hlt), cell?_putRow_other _ _ _ _ _ _ (.inl hn), cell?_ahead]; exact hc))
    hH (by simp; omega) (by simpa using h1)
  simp only [List.size_toArray] at hs
  refine hs.mono ?_
  rintro e w' ⟨rfl, q, rfl⟩
  have hf : (ns.filter fun x => !decide (x = s)).length ≤ ns.length := List.length_filter_le _ _
  have := own_putStr (q := q) (ts := (butN ns s) ++ List.replicate (ns.length - (butN ns s).length) ⟨#[]⟩) (m := (butN ns s).length) h (by simp [butN]; omega) (by simp)
  simp only [List.take_left'] at this
  exact ⟨rfl, this.1, this.2⟩
end Go.Proofs.Ytoikgphbicnhaab
