/- stewardlaw19.RingPicks (written by genlawrp.py). -/
import Derived.Test.YtklfpnnnoaaiaabGreatDoorG21
import Derived.Test.YtklfpnnnoaaiaabGreatDoorG22
namespace Go.Proofs.YtklfpnnnoaaiaabGreatDoor
open Go.RowKit

theorem lowAt_ex {ps : List Pt} (hr : Rise ps) (x : Nat) : ∃ st, LowAt ps x st := by
  refine ⟨ps.findIdx (fun p => decide (x ≤ p.1)), List.findIdx_le_length, fun i p hp hi => ?_, fun i p hp hi => ?_⟩
  · have hl := (List.getElem?_eq_some_iff.1 hp).1
    have := List.not_of_lt_findIdx hi
    rw [(List.getElem?_eq_some_iff.1 hp).2] at this
    simp at this
    exact this
  · have hl := (List.getElem?_eq_some_iff.1 hp).1
    have hj : ps.findIdx (fun p => decide (x ≤ p.1)) < ps.length := by omega
    have h2 := List.findIdx_getElem (w := hj)
    have h3 := of_decide_eq_true h2
    exact Nat.le_trans h3 (hr _ _ _ _ (List.getElem?_eq_getElem hj) hp hi)
theorem pickP_nil (st : Nat) : pickP [] st = ⟨#[]⟩ := rfl
theorem pickP_at {ps : List Pt} {st r : Nat} (h : r = st % ps.length) (hl : r < ps.length) : pickP ps st = ps[r].2 := by
  unfold pickP
  have hp : 0 < ps.length := by omega
  have : (arL ps st).head? = some ps[r] := by
    rw [List.head?_eq_getElem?]
    unfold arL
    rw [List.getElem?_map, List.getElem?_range hp, Option.map_some, List.getD_eq_getElem?_getD, Nat.add_zero, ← h, List.getElem?_eq_getElem hl, Option.getD_some]
  rw [this]; rfl
/-- What Walk gives is the whole way's names. -/
theorem walk_whole {ps : List Pt} {st nn : Nat} {l : List ByteArray} (hc : (nmL (arL ps st)).length = nn) (h : l = nmL (arL ps st) ∨ ∃ k, k ≤ ps.length ∧ l = nmL ((arL ps st).take k) ∧ l.length = nn) : l = nmL (arL ps st) := by
  rcases h with h | ⟨k, _, rfl, h2⟩
  · exact h
  · exact nmL_short h2 hc
section RgPw
variable (rb nn : Nat) (ps : List Pt) (hl : ps.length ≤ 100000) (hr : Rise ps) (x st : Nat) (h0 : LowAt ps x st) (w : World)
include hl hr h0
theorem pickW (hRg : RingAt w rb ps nn) :
    Calls Tryz.prog 20 #[.pointer (some ⟨rb, 0, none⟩), .int .u64 (x : Nat)] w fun e w' => e = .returned (.string (pickP ps st)) ∧ Below w.heap.size w w' := by
  refine (pick34 rb nn ps hl hr x w hRg).mono ?_
  rintro e w' ⟨st', h1, h2, h3⟩
  obtain rfl := h1.uniq h0
  exact ⟨h2, h3⟩
theorem walkW (hz : ∀ p ∈ ps, p.2.size ≤ 1000) (hc : (nmL (arL ps st)).length = nn) (hRg : RingAt w rb ps nn) :
    Calls Tryz.prog 17 #[.pointer (some ⟨rb, 0, none⟩), .int .u64 (x : Nat)] w fun e w' => ∃ a c, e = .returned (.slice a (nmL (arL ps st)).length c) ∧ IsStrs w' a c (nmL (arL ps st)) ∧ Below w.heap.size w w' := by
  refine (walk35 rb nn ps hl hz hr x w hRg).mono ?_
  rintro e w' ⟨st', l, a, c, h1, h2, h3, h4, h5⟩
  obtain rfl := h1.uniq h0
  obtain rfl := walk_whole hc h2
  exact ⟨a, c, h3, h4, h5⟩
end RgPw
end Go.Proofs.YtklfpnnnoaaiaabGreatDoor

