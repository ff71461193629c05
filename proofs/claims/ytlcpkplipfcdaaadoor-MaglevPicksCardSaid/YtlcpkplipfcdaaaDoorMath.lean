/- Plain arithmetic: words of bytes. -/
import Derived.Test.YtlcpkplipfcdaaaDoorBase
namespace Go.Proofs.YtlcpkplipfcdaaaDoor
open Go.RowKit

/-- The number of bytes, the lowest first. -/
def leW : List UInt8 → Int
  | [] => 0
  | x :: r => x.toNat + 256 * leW r
set_option maxRecDepth 100000 in
theorem leW_nonneg : ∀ l : List UInt8, 0 ≤ leW l
  | [] => by simp [leW]
  | x :: r => by have := leW_nonneg r; simp only [leW]; omega
set_option maxRecDepth 100000 in
theorem leW_lt : ∀ l : List UInt8, leW l < 256 ^ l.length
  | [] => by simp [leW]
  | x :: r => by
    have := leW_lt r
    have hx := x.toNat_lt
    simp only [leW, List.length_cons, Int.pow_succ]; omega
set_option maxRecDepth 100000 in
theorem leW_snoc : ∀ (l : List UInt8) (x : UInt8), leW (l ++ [x]) = leW l + 256 ^ l.length * x.toNat
  | [], x => by simp [leW]
  | y :: r, x => by
    simp only [List.cons_append, leW, leW_snoc r x, List.length_cons, Int.pow_succ]
    rw [Int.mul_add, Int.mul_comm (256 ^ r.length) 256, Int.mul_assoc]; omega
set_option maxRecDepth 100000 in
theorem pow_le_of (k : Nat) (hk : k < 8) : (256 : Int) ^ k * 256 ≤ 18446744073709551616 := by
  match k, hk with
  | 0, _ | 1, _ | 2, _ | 3, _ | 4, _ | 5, _ | 6, _ | 7, _ => decide
set_option maxRecDepth 100000 in
theorem or_step (l : List UInt8) (x : UInt8) (h : l.length < 8) :
    bits .or .u64 (leW l) (IntKind.u64.wrap (IntKind.u64.wrap (x.toNat : Int) * 2 ^ (8 * l.length))) = leW (l ++ [x]) := by
  have h0 := leW_nonneg l
  have h1 := leW_lt l
  have hx := x.toNat_lt
  have hp := pow_le_of _ h
  have e : (2 : Int) ^ (8 * l.length) = 256 ^ l.length := by rw [Int.pow_mul]; rfl
  rw [leW_snoc, e, Int.mul_comm]
  obtain ⟨n, hn⟩ : ∃ n : Nat, n = 256 ^ l.length := ⟨_, rfl⟩
  have hn' : (256 : Int) ^ l.length = (n : Int) := by rw [hn, Int.natCast_pow]; rfl
  obtain ⟨a, ha⟩ := Int.eq_ofNat_of_zero_le h0
  rw [hn'] at h1 hp ⊢
  rw [ha] at h1 ⊢
  have hpos : 0 < n := by omega
  have hm : n * x.toNat ≤ n * 255 := Nat.mul_le_mul_left _ (by omega)
  have hw : IntKind.u64.wrap (x.toNat : Int) = (x.toNat : Int) := by rw [IntKind.wrap_u64]; omega
  have hw2 : IntKind.u64.wrap ((n : Int) * (x.toNat : Int)) = ((n * x.toNat : Nat) : Int) := by
    rw [IntKind.wrap_u64, ← Int.natCast_mul]; omega
  rw [hw, hw2]
  refine (u64_or_nat _ _ (by omega) (by omega)).trans ?_
  rw [Nat.or_comm, nat_join (8 * l.length)]
  · rw [Int.natCast_add, Int.natCast_mul, Int.add_comm]
  · rw [show 2 ^ (8 * l.length) = n from by rw [hn, Nat.pow_mul]]; exact Nat.mul_mod_right _ _
  · rw [show 2 ^ (8 * l.length) = n from by rw [hn, Nat.pow_mul]]; omega
set_option maxRecDepth 100000 in
theorem take_snoc (s : ByteArray) (k : Nat) (h : k < s.size) : s.data.toList.take (k + 1) = s.data.toList.take k ++ [s[k]] := by
  rw [List.take_succ_eq_append_getElem (by simpa using h)]; rfl
set_option maxRecDepth 100000 in
theorem leW_drop (l : List UInt8) (j : Nat) (h : j < l.length) : leW (l.drop j) = l[j].toNat + 256 * leW (l.drop (j + 1)) := by
  rw [List.drop_eq_getElem_cons h]; rfl
set_option maxRecDepth 100000 in
theorem leW_step (l : List UInt8) (hl : l.length ≤ 8) (j : Nat) (h : j < l.length) :
    IntKind.u64.wrap (IntKind.u64.wrap (leW (l.drop (j + 1)) * 256) + IntKind.u64.wrap (l[j].toNat : Int)) = leW (l.drop j) := by
  have h0 := leW_nonneg (l.drop (j + 1))
  have h1 := leW_lt (l.drop (j + 1))
  have hx := l[j].toNat_lt
  have hp := pow_le_of (l.drop (j + 1)).length (by simp; omega)
  rw [leW_drop l j h]
  simp only [IntKind.wrap_u64]
  omega
end Go.Proofs.YtlcpkplipfcdaaaDoor
