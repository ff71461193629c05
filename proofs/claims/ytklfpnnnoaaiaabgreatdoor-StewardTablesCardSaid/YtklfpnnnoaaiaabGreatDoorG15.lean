/- the reference's From and Walk over a ring. -/
import Derived.IntWalk
import Derived.Deep.AppendLies
import Derived.Test.YtklfpnnnoaaiaabGreatDoorG07
import Derived.Test.YtklfpnnnoaaiaabGreatDoorG09
import Derived.Test.YtklfpnnnoaaiaabGreatDoorG12
import Derived.Test.YtklfpnnnoaaiaabGreatDoorG14
namespace Go.Proofs.YtklfpnnnoaaiaabGreatDoor
open Go.RowKit

/-- What From answers. -/
def FromP (ps : List Pt) (x : Nat) (w : World) (e : Ending) (w' : World) : Prop :=
  ∃ st r : Nat, LowAt ps x st ∧ r = st % ps.length ∧ e = .returned (.int .i64 (r : Int)) ∧ Below w.heap.size w w'
/-- The names that have occurred after so many points. -/
def nmW (ps : List Pt) (st : Nat) : Nat → List ByteArray
  | 0 => []
  | j + 1 => if inS (nmW ps st j) (ps.getD ((st + j) % ps.length) (0, ⟨#[]⟩)).2 then nmW ps st j else nmW ps st j ++ [(ps.getD ((st + j) % ps.length) (0, ⟨#[]⟩)).2]
theorem nmW_le (ps : List Pt) (st : Nat) : ∀ j, (nmW ps st j).length ≤ j
  | 0 => Nat.le_refl _
  | j + 1 => by
    have := nmW_le ps st j
    unfold nmW
    split
    · omega
    · rw [List.length_append, List.length_singleton]; omega
theorem nmW_mod (ps : List Pt) (st : Nat) : ∀ j, nmW ps (st % ps.length) j = nmW ps st j
  | 0 => rfl
  | j + 1 => by
    have h : (st % ps.length + j) % ps.length = (st + j) % ps.length := Nat.mod_add_mod _ _ _
    unfold nmW
    rw [nmW_mod ps st j, h]
theorem nmW_yes {ps : List Pt} {st j v : Nat} {N : ByteArray} (hN : ps[(st + j) % ps.length]? = some (v, N)) (h : inS (nmW ps st j) N = true) : nmW ps st (j + 1) = nmW ps st j := by
  rw [nmW, List.getD_eq_getElem?_getD, hN]
  exact if_pos h
theorem nmW_no {ps : List Pt} {st j v : Nat} {N : ByteArray} (hN : ps[(st + j) % ps.length]? = some (v, N)) (h : inS (nmW ps st j) N = false) : nmW ps st (j + 1) = nmW ps st j ++ [N] := by
  rw [nmW, List.getD_eq_getElem?_getD, hN]
  exact if_neg (by rw [show inS (nmW ps st j) ((some (v, N)).getD (0, ⟨#[]⟩)).2 = inS (nmW ps st j) N from rfl, h]; exact Bool.false_ne_true)
/-- What Walk answers. -/
def WalkP (ps : List Pt) (x : Nat) (w : World) (e : Ending) (w' : World) : Prop :=
  ∃ st a' c', LowAt ps x st ∧ e = .returned (.slice a' (nmW ps st ps.length).length c') ∧ IsStrs w' a' c' (nmW ps st ps.length) ∧ Below w.heap.size w w'
end Go.Proofs.YtklfpnnnoaaiaabGreatDoor

