/- strings.SplitSeq: its iterator, and a loop over it. -/
import Derived.Test.YtchpgdoidpllgaaDoorOctG
import Derived.Test.YtchpgdoidpllgaaDoorShelfB
import Derived.RangeFuncNested
import Derived.RangeFuncBound
import Derived.RangeFuncCalls
import Derived.RangeFuncBox
import Derived.RangeFuncLeaves
import Derived.OwnWalkIn
import Derived.TacticsInMore
import Derived.LoopNIn
import Derived.LoopIn
import Derived.Maps.AppendAt
namespace Go.Proofs.YtchpgdoidpllgaaDoor
open Go.RowKit

attribute [local go_sem] Oper.semAt_some

/-- The parts of a text between the bytes c. -/
def parts (c : UInt8) : List UInt8 → List (List UInt8)
  | [] => [[]]
  | b :: r => if b = c then [] :: parts c r else match parts c r with
    | p :: ps => (b :: p) :: ps
    | [] => [[b]]
theorem parts_ne (c : UInt8) : ∀ l, parts c l ≠ []
  | [] => by simp [parts]
  | b :: r => by
    unfold parts
    split
    · simp
    · split <;> simp
theorem parts_one (c : UInt8) : ∀ l : List UInt8, c ∉ l → parts c l = [l]
  | [], _ => rfl
  | b :: r, h => by
    rw [List.mem_cons, not_or] at h
    rw [parts, if_neg (fun e => h.1 e.symm), parts_one c r h.2]
theorem parts_cut (c : UInt8) : ∀ (a b : List UInt8), c ∉ a → parts c (a ++ c :: b) = a :: parts c b
  | [], b, _ => by rw [List.nil_append, parts, if_pos rfl]
  | x :: a, b, h => by
    rw [List.mem_cons, not_or] at h
    rw [List.cons_append, parts, if_neg (fun e => h.1 e.symm), parts_cut c a b h.2]
theorem parts_length (c : UInt8) : ∀ l, (parts c l).length ≤ l.length + 1
  | [] => by simp [parts]
  | b :: r => by
    have ih := parts_length c r
    unfold parts
    split
    · simp; omega
    · split
      · rename_i p ps h; rw [h] at ih; simp at ih ⊢; omega
      · simp
theorem ib_cut (c : UInt8) : ∀ l : List UInt8, (Lib.indexByte l c = -1 ∧ c ∉ l) ∨ (∃ i : Nat, Lib.indexByte l c = (i : Int) ∧ i < l.length ∧ l = l.take i ++ c :: l.drop (i + 1) ∧ c ∉ l.take i)
  | [] => .inl ⟨rfl, by simp⟩
  | b :: r => by
    by_cases hb : b = c
    · subst hb
      exact .inr ⟨0, by simp [Lib.indexByte], by simp, by simp, by simp⟩
    · have hbb : (b == c) = false := beq_eq_false_iff_ne.2 hb
      rcases ib_cut c r with ⟨h1, h2⟩ | ⟨i, h1, h2, h3, h4⟩
      · exact .inl ⟨by simp [Lib.indexByte, hbb, h1], by rw [List.mem_cons, not_or]; exact ⟨fun e => hb e.symm, h2⟩⟩
      · refine .inr ⟨i + 1, ?_, by simp; omega, ?_, ?_⟩
        · have hne : ((i : Int) == -1) = false := beq_eq_false_iff_ne.2 (by omega)
          simp only [Lib.indexByte, hbb, h1, hne]
          simp
        · rw [List.take_succ_cons, List.drop_succ_cons, List.cons_append, ← h3]
        · rw [List.take_succ_cons, List.mem_cons, not_or]
          exact ⟨fun e => hb e.symm, h4⟩
/-- A byte's first place: nowhere, or the text is cut there. -/
theorem index_cut (c : UInt8) (l : List UInt8) : (Lib.index l [c] = -1 ∧ c ∉ l) ∨ (∃ i : Nat, Lib.index l [c] = (i : Int) ∧ i < l.length ∧ l = l.take i ++ c :: l.drop (i + 1) ∧ c ∉ l.take i) := by
  rw [Lib.index_one]
  exact ib_cut c l
/-- The library's greatest length for a search holds a number. -/
def MaxL (w : World) : Prop := 5 < w.heap.size ∧ ∃ m, w.cell? ⟨5, 0, none⟩ = some (.int .i64 m)
theorem MaxL.below {w w' : World} (h : MaxL w) (hb : Below w.heap.size w w') : MaxL w' := by
  obtain ⟨h1, m, h2⟩ := h
  exact ⟨Nat.lt_of_lt_of_le h1 hb.size, m, by rw [(bcell hb).1 _ _ h1]; exact h2⟩
/-- The three boxes of an iterator: its text's rest, the byte at which it parts, nothing kept of it. -/
structure SeqBox (W : World) (h : Nat) (c : UInt8) (t : ByteArray) : Prop where
  txt : Boxed W h 9 (.string t)
  sep : Boxed W (h + 1) 9 (.string ⟨#[c]⟩)
  sav : Boxed W (h + 2) 3 (.int .i64 0)

/-- How long the text's rest is. -/
def boxSize (W : World) (h : Nat) : Nat := match W.cell? ⟨h, 0, none⟩ with
  | some (.string t) => t.size
  | _ => 0
end Go.Proofs.YtchpgdoidpllgaaDoor
