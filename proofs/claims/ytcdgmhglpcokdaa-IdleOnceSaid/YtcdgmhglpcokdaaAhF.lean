/- agenda's queue behind heap.Interface: which function each method is, and its receiver (written by genagf.py; the first number is the seat's own: its types and 100). -/
import Derived.Test.YtcdgmhglpcokdaaAgE
namespace Go.Proofs.Ytcdgmhglpcokdaa
open Go.RowKit

theorem mPushS (ab : Nat) {o : Nat} (w : World) : (method 245 109 (.pointer (some ⟨ab, o, none⟩)) "Push").run Try.prog w = .ok (99, .pointer (some ⟨ab, o, none⟩)) w := by kernel_rfl
theorem mPopS (ab : Nat) {o : Nat} (w : World) : (method 245 109 (.pointer (some ⟨ab, o, none⟩)) "Pop").run Try.prog w = .ok (98, .pointer (some ⟨ab, o, none⟩)) w := by kernel_rfl
theorem mLenS (ab : Nat) {o : Nat} (w : World) (v : Value) (h : w.cell? ⟨ab, o, none⟩ = some v) : (method 245 109 (.pointer (some ⟨ab, o, none⟩)) "Len").run Try.prog w = .ok (88, v) w := by
  have e : (method 245 109 (.pointer (some ⟨ab, o, none⟩)) "Len").run Try.prog w = ((do let v ← loadVar 75 ⟨ab, o, none⟩; pure (88, v)) : Sem (FuncId × Value)).run Try.prog w := by kernel_rfl
  rw [e]
  simp [go_sem, h]
theorem mLessS (ab : Nat) {o : Nat} (w : World) (v : Value) (h : w.cell? ⟨ab, o, none⟩ = some v) : (method 245 109 (.pointer (some ⟨ab, o, none⟩)) "Less").run Try.prog w = .ok (89, v) w := by
  have e : (method 245 109 (.pointer (some ⟨ab, o, none⟩)) "Less").run Try.prog w = ((do let v ← loadVar 75 ⟨ab, o, none⟩; pure (89, v)) : Sem (FuncId × Value)).run Try.prog w := by kernel_rfl
  rw [e]
  simp [go_sem, h]
theorem mSwapS (ab : Nat) {o : Nat} (w : World) (v : Value) (h : w.cell? ⟨ab, o, none⟩ = some v) : (method 245 109 (.pointer (some ⟨ab, o, none⟩)) "Swap").run Try.prog w = .ok (90, v) w := by
  have e : (method 245 109 (.pointer (some ⟨ab, o, none⟩)) "Swap").run Try.prog w = ((do let v ← loadVar 75 ⟨ab, o, none⟩; pure (90, v)) : Sem (FuncId × Value)).run Try.prog w := by kernel_rfl
  rw [e]
  simp [go_sem, h]
theorem mPushN (ab : Nat) {o : Nat} (w : World) : (method 245 102 (.pointer (some ⟨ab, o, none⟩)) "Push").run Try.prog w = .ok (96, .pointer (some ⟨ab, o, none⟩)) w := by kernel_rfl
theorem mPopN (ab : Nat) {o : Nat} (w : World) : (method 245 102 (.pointer (some ⟨ab, o, none⟩)) "Pop").run Try.prog w = .ok (95, .pointer (some ⟨ab, o, none⟩)) w := by kernel_rfl
theorem mLenN (ab : Nat) {o : Nat} (w : World) (v : Value) (h : w.cell? ⟨ab, o, none⟩ = some v) : (method 245 102 (.pointer (some ⟨ab, o, none⟩)) "Len").run Try.prog w = .ok (81, v) w := by
  have e : (method 245 102 (.pointer (some ⟨ab, o, none⟩)) "Len").run Try.prog w = ((do let v ← loadVar 63 ⟨ab, o, none⟩; pure (81, v)) : Sem (FuncId × Value)).run Try.prog w := by kernel_rfl
  rw [e]
  simp [go_sem, h]
theorem mLessN (ab : Nat) {o : Nat} (w : World) (v : Value) (h : w.cell? ⟨ab, o, none⟩ = some v) : (method 245 102 (.pointer (some ⟨ab, o, none⟩)) "Less").run Try.prog w = .ok (82, v) w := by
  have e : (method 245 102 (.pointer (some ⟨ab, o, none⟩)) "Less").run Try.prog w = ((do let v ← loadVar 63 ⟨ab, o, none⟩; pure (82, v)) : Sem (FuncId × Value)).run Try.prog w := by kernel_rfl
  rw [e]
  simp [go_sem, h]
theorem mSwapN (ab : Nat) {o : Nat} (w : World) (v : Value) (h : w.cell? ⟨ab, o, none⟩ = some v) : (method 245 102 (.pointer (some ⟨ab, o, none⟩)) "Swap").run Try.prog w = .ok (83, v) w := by
  have e : (method 245 102 (.pointer (some ⟨ab, o, none⟩)) "Swap").run Try.prog w = ((do let v ← loadVar 63 ⟨ab, o, none⟩; pure (83, v)) : Sem (FuncId × Value)).run Try.prog w := by kernel_rfl
  rw [e]
  simp [go_sem, h]
end Go.Proofs.Ytcdgmhglpcokdaa
