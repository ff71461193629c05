/- ring: the reference's Check; the law's awake. -/
import Derived.Test.YtklfpnnnoaaiaabGreatDoorG06
import Derived.Test.YtklfpnnnoaaiaabGreatDoorG13
import Derived.Test.YtklfpnnnoaaiaabGreatDoorG14
namespace Go.Proofs.YtklfpnnnoaaiaabGreatDoor
open Go.RowKit

theorem isEnts_oneR (w : World) (n : ByteArray) (v : Int) (T : TypeId) : IsEnts (w.alloc (.cells #[.string n, .int .i64 v] T)) (some ⟨w.heap.size, 0, none⟩) 1 [(n, v)] := by
  refine .inr ⟨w.heap.size, 0, rfl, by simp, by simp, fun j e he => ?_⟩
  match j, he with
  | 0, he => obtain rfl : (n, v) = e := by simpa using he
             constructor <;> simp
  | j + 1, he => simp at he
/-- Whom a number is assigned to. -/
theorem pick_mem {ps : List Pt} (hne : ps ≠ []) (st : Nat) : ∃ p ∈ ps, pickP ps st = p.2 := by
  have hl : 0 < ps.length := List.length_pos_iff.2 hne
  have hm : (st + 0) % ps.length < ps.length := Nat.mod_lt _ hl
  refine ⟨ps[(st + 0) % ps.length], List.getElem_mem hm, ?_⟩
  unfold pickP
  have : (arL ps st).head? = some ps[(st + 0) % ps.length] := by
    rw [List.head?_eq_getElem?]
    unfold arL
    rw [List.getElem?_map, List.getElem?_range hl, Option.map_some, List.getD_eq_getElem?_getD, List.getElem?_eq_getElem hm, Option.getD_some]
  rw [this]; rfl
theorem ptsL_name {k : Nat → UInt8} {p G : Nat} {es : List Ent} {q : Pt} (h : q ∈ ptsL k p G es) : ∃ e ∈ es, q.2 = e.1 := by
  unfold ptsL at h
  obtain ⟨e, he, hq⟩ := List.mem_flatMap.1 h
  unfold ptsE at hq
  obtain ⟨i, _, rfl⟩ := List.mem_map.1 hq
  exact ⟨e, he, rfl⟩
end Go.Proofs.YtklfpnnnoaaiaabGreatDoor

