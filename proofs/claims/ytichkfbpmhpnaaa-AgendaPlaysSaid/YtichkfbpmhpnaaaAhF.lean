/- agenda's queue behind heap.Interface: which function each method is, and its receiver (written by genagf.py; the first number is the seat's own: its types and 100). -/
import Derived.Test.YtichkfbpmhpnaaaAgE
namespace Go.Proofs.Ytichkfbpmhpnaaa
open Go.RowKit

theorem mPushS (ab : Nat) {o : Nat} (w : World) : (method 372 171 (.pointer (some ⟨ab, o, none⟩)) "Push").run Try.prog w = .ok (191, .pointer (some ⟨ab, o, none⟩)) w := by kernel_rfl
theorem mPopS (ab : Nat) {o : Nat} (w : World) : (method 372 171 (.pointer (some ⟨ab, o, none⟩)) "Pop").run Try.prog w = .ok (190, .pointer (some ⟨ab, o, none⟩)) w := by kernel_rfl
theorem mLenS (ab : Nat) {o : Nat} (w : World) (v : Value) (h : w.cell? ⟨ab, o, none⟩ = some v) : (method 372 171 (.pointer (some ⟨ab, o, none⟩)) "Len").run Try.prog w = .ok (180, v) w := by
  have e : (method 372 171 (.pointer (some ⟨ab, o, none⟩)) "Len").run Try.prog w = ((do let v ← loadVar 87 ⟨ab, o, none⟩; pure (180, v)) : Sem (FuncId × Value)).run Try.prog w := by kernel_rfl
  rw [e]
  simp [go_sem, h]
theorem mLessS (ab : Nat) {o : Nat} (w : World) (v : Value) (h : w.cell? ⟨ab, o, none⟩ = some v) : (method 372 171 (.pointer (some ⟨ab, o, none⟩)) "Less").run Try.prog w = .ok (181, v) w := by
  have e : (method 372 171 (.pointer (some ⟨ab, o, none⟩)) "Less").run Try.prog w = ((do let v ← loadVar 87 ⟨ab, o, none⟩; pure (181, v)) : Sem (FuncId × Value)).run Try.prog w := by kernel_rfl
  rw [e]
  simp [go_sem, h]
theorem mSwapS (ab : Nat) {o : Nat} (w : World) (v : Value) (h : w.cell? ⟨ab, o, none⟩ = some v) : (method 372 171 (.pointer (some ⟨ab, o, none⟩)) "Swap").run Try.prog w = .ok (182, v) w := by
  have e : (method 372 171 (.pointer (some ⟨ab, o, none⟩)) "Swap").run Try.prog w = ((do let v ← loadVar 87 ⟨ab, o, none⟩; pure (182, v)) : Sem (FuncId × Value)).run Try.prog w := by kernel_rfl
  rw [e]
  simp [go_sem, h]
theorem mPushN (ab : Nat) {o : Nat} (w : World) : (method 372 219 (.pointer (some ⟨ab, o, none⟩)) "Push").run Try.prog w = .ok (193, .pointer (some ⟨ab, o, none⟩)) w := by kernel_rfl
theorem mPopN (ab : Nat) {o : Nat} (w : World) : (method 372 219 (.pointer (some ⟨ab, o, none⟩)) "Pop").run Try.prog w = .ok (192, .pointer (some ⟨ab, o, none⟩)) w := by kernel_rfl
theorem mLenN (ab : Nat) {o : Nat} (w : World) (v : Value) (h : w.cell? ⟨ab, o, none⟩ = some v) : (method 372 219 (.pointer (some ⟨ab, o, none⟩)) "Len").run Try.prog w = .ok (183, v) w := by
  have e : (method 372 219 (.pointer (some ⟨ab, o, none⟩)) "Len").run Try.prog w = ((do let v ← loadVar 146 ⟨ab, o, none⟩; pure (183, v)) : Sem (FuncId × Value)).run Try.prog w := by kernel_rfl
  rw [e]
  simp [go_sem, h]
theorem mLessN (ab : Nat) {o : Nat} (w : World) (v : Value) (h : w.cell? ⟨ab, o, none⟩ = some v) : (method 372 219 (.pointer (some ⟨ab, o, none⟩)) "Less").run Try.prog w = .ok (184, v) w := by
  have e : (method 372 219 (.pointer (some ⟨ab, o, none⟩)) "Less").run Try.prog w = ((do let v ← loadVar 146 ⟨ab, o, none⟩; pure (184, v)) : Sem (FuncId × Value)).run Try.prog w := by kernel_rfl
  rw [e]
  simp [go_sem, h]
theorem mSwapN (ab : Nat) {o : Nat} (w : World) (v : Value) (h : w.cell? ⟨ab, o, none⟩ = some v) : (method 372 219 (.pointer (some ⟨ab, o, none⟩)) "Swap").run Try.prog w = .ok (185, v) w := by
  have e : (method 372 219 (.pointer (some ⟨ab, o, none⟩)) "Swap").run Try.prog w = ((do let v ← loadVar 146 ⟨ab, o, none⟩; pure (185, v)) : Sem (FuncId × Value)).run Try.prog w := by kernel_rfl
  rw [e]
  simp [go_sem, h]
end Go.Proofs.Ytichkfbpmhpnaaa
