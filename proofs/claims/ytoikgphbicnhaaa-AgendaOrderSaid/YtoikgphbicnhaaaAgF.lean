/- agenda's queue behind heap.Interface: which function each method is, and its receiver (written by genagf.py; the first number is the seat's own: its types and 100). -/
import Derived.Test.YtoikgphbicnhaaaAgE
namespace Go.Proofs.Ytoikgphbicnhaaa
open Go.RowKit

theorem mPushS (ab : Nat) (w : World) : (method 337 147 (.pointer (some ⟨ab, 0, none⟩)) "Push").run Try.prog w = .ok (171, .pointer (some ⟨ab, 0, none⟩)) w := by kernel_rfl
theorem mPopS (ab : Nat) (w : World) : (method 337 147 (.pointer (some ⟨ab, 0, none⟩)) "Pop").run Try.prog w = .ok (170, .pointer (some ⟨ab, 0, none⟩)) w := by kernel_rfl
theorem mLenS (ab : Nat) (w : World) (v : Value) (h : w.cell? ⟨ab, 0, none⟩ = some v) : (method 337 147 (.pointer (some ⟨ab, 0, none⟩)) "Len").run Try.prog w = .ok (161, v) w := by
  have e : (method 337 147 (.pointer (some ⟨ab, 0, none⟩)) "Len").run Try.prog w = ((do let v ← loadVar 87 ⟨ab, 0, none⟩; pure (161, v)) : Sem (FuncId × Value)).run Try.prog w := by kernel_rfl
  rw [e]
  simp [go_sem, h]
theorem mLessS (ab : Nat) (w : World) (v : Value) (h : w.cell? ⟨ab, 0, none⟩ = some v) : (method 337 147 (.pointer (some ⟨ab, 0, none⟩)) "Less").run Try.prog w = .ok (162, v) w := by
  have e : (method 337 147 (.pointer (some ⟨ab, 0, none⟩)) "Less").run Try.prog w = ((do let v ← loadVar 87 ⟨ab, 0, none⟩; pure (162, v)) : Sem (FuncId × Value)).run Try.prog w := by kernel_rfl
  rw [e]
  simp [go_sem, h]
theorem mSwapS (ab : Nat) (w : World) (v : Value) (h : w.cell? ⟨ab, 0, none⟩ = some v) : (method 337 147 (.pointer (some ⟨ab, 0, none⟩)) "Swap").run Try.prog w = .ok (163, v) w := by
  have e : (method 337 147 (.pointer (some ⟨ab, 0, none⟩)) "Swap").run Try.prog w = ((do let v ← loadVar 87 ⟨ab, 0, none⟩; pure (163, v)) : Sem (FuncId × Value)).run Try.prog w := by kernel_rfl
  rw [e]
  simp [go_sem, h]
theorem mPushN (ab : Nat) (w : World) : (method 337 115 (.pointer (some ⟨ab, 0, none⟩)) "Push").run Try.prog w = .ok (169, .pointer (some ⟨ab, 0, none⟩)) w := by kernel_rfl
theorem mPopN (ab : Nat) (w : World) : (method 337 115 (.pointer (some ⟨ab, 0, none⟩)) "Pop").run Try.prog w = .ok (168, .pointer (some ⟨ab, 0, none⟩)) w := by kernel_rfl
theorem mLenN (ab : Nat) (w : World) (v : Value) (h : w.cell? ⟨ab, 0, none⟩ = some v) : (method 337 115 (.pointer (some ⟨ab, 0, none⟩)) "Len").run Try.prog w = .ok (164, v) w := by
  have e : (method 337 115 (.pointer (some ⟨ab, 0, none⟩)) "Len").run Try.prog w = ((do let v ← loadVar 105 ⟨ab, 0, none⟩; pure (164, v)) : Sem (FuncId × Value)).run Try.prog w := by kernel_rfl
  rw [e]
  simp [go_sem, h]
theorem mLessN (ab : Nat) (w : World) (v : Value) (h : w.cell? ⟨ab, 0, none⟩ = some v) : (method 337 115 (.pointer (some ⟨ab, 0, none⟩)) "Less").run Try.prog w = .ok (165, v) w := by
  have e : (method 337 115 (.pointer (some ⟨ab, 0, none⟩)) "Less").run Try.prog w = ((do let v ← loadVar 105 ⟨ab, 0, none⟩; pure (165, v)) : Sem (FuncId × Value)).run Try.prog w := by kernel_rfl
  rw [e]
  simp [go_sem, h]
theorem mSwapN (ab : Nat) (w : World) (v : Value) (h : w.cell? ⟨ab, 0, none⟩ = some v) : (method 337 115 (.pointer (some ⟨ab, 0, none⟩)) "Swap").run Try.prog w = .ok (166, v) w := by
  have e : (method 337 115 (.pointer (some ⟨ab, 0, none⟩)) "Swap").run Try.prog w = ((do let v ← loadVar 105 ⟨ab, 0, none⟩; pure (166, v)) : Sem (FuncId × Value)).run Try.prog w := by kernel_rfl
  rw [e]
  simp [go_sem, h]
end Go.Proofs.Ytoikgphbicnhaaa
