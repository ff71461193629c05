/- stewardlaw19.RingBuilds (written by genlawrb.py). -/
import Derived.IntWalk
import Derived.Deep.AppendLies
import Derived.Test.YtklfpnnnoaaiaabGreatDoorG07
import Derived.Test.YtklfpnnnoaaiaabGreatDoorG09
import Derived.Test.YtklfpnnnoaaiaabGreatDoorG14
import Derived.Test.YtklfpnnnoaaiaabGreatDoorG20
namespace Go.Proofs.YtklfpnnnoaaiaabGreatDoor
open Go.RowKit

/-- A ring was built. -/
def RinR (P : List Pt) (n : Nat) (p : Value) (w : World) : Prop := ∃ rb, p = .pointer (some ⟨rb, 0, none⟩) ∧ RingAt w rb P n
theorem RinR.below {P : List Pt} {n : Nat} (p : Value) (w w' : World) (h : RinR P n p w) (hb : Below w.heap.size w w') : RinR P n p w' := by
  obtain ⟨rb, h1, h2⟩ := h
  exact ⟨rb, h1, h2.below hb⟩
/-- The tables. -/
def IniP (w : World) : Prop := Ini w ∧ Pow w
theorem IniP.below {w w' : World} (h : IniP w) (hb : Below w.heap.size w w') : IniP w' := ⟨h.1.below hb, h.2.below hb⟩
theorem and15R (x : Int) : ∃ k : Nat, k ≤ 15 ∧ bits .and .i64 x 15 = (k : Int) := by
  have h : (BitVec.ofInt 64 x &&& BitVec.ofInt 64 15).toNat ≤ 15 := by
    rw [BitVec.toNat_and]
    exact Nat.le_trans Nat.and_le_right (by decide)
  refine ⟨(BitVec.ofInt 64 x &&& BitVec.ofInt 64 15).toNat, h, ?_⟩
  show IntKind.i64.wrap (((BitVec.ofInt 64 x &&& BitVec.ofInt 64 15).toNat : Nat) : Int) = _
  exact IntWalk.i64_in _ (by omega)
theorem ptAt_nat {P : List Pt} {j : Nat} (h : j < P.length) : ptAt P (j : Int) = P[j] := by
  unfold ptAt
  rw [if_neg (by omega), Int.toNat_natCast, List.getD_eq_getElem?_getD, List.getElem?_eq_getElem h, Option.getD_some]
theorem ptAt_end (P : List Pt) : ptAt P (P.length : Int) = (0, ⟨#[]⟩) := by unfold ptAt; rw [if_pos (.inr (Int.le_refl _))]
end Go.Proofs.YtklfpnnnoaaiaabGreatDoor

