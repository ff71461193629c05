/- Plain arithmetic: words of four bytes. -/
import Derived.Test.YtllmlngfmcbaaaaGreatDoorMath
namespace Go.Proofs.YtllmlngfmcbaaaaGreatDoor
open Go.RowKit

theorem pow_le_of4 (k : Nat) (hk : k < 4) : (256 : Int) ^ k * 256 ≤ 4294967296 := by
  match k, hk with
  | 0, _ | 1, _ | 2, _ | 3, _ => decide
theorem or_step32 (l : List UInt8) (x : UInt8) (h : l.length < 4) :
    bits .or .u32 (leW l) ((x.toNat : Int) * 2 ^ (8 * l.length) % 4294967296) = leW (l ++ [x]) := by
  have h0 := leW_nonneg l
  have h1 := leW_lt l
  have hx := x.toNat_lt
  have hp := pow_le_of4 _ h
  have e : (2 : Int) ^ (8 * l.length) = 256 ^ l.length := by rw [Int.pow_mul]; rfl
  rw [leW_snoc, e, Int.mul_comm]
  obtain ⟨n, hn⟩ : ∃ n : Nat, n = 256 ^ l.length := ⟨_, rfl⟩
  have hn' : (256 : Int) ^ l.length = (n : Int) := by rw [hn, Int.natCast_pow]; rfl
  obtain ⟨a, ha⟩ := Int.eq_ofNat_of_zero_le h0
  rw [hn'] at h1 hp ⊢
  rw [ha] at h1 ⊢
  have hpos : 0 < n := by omega
  have hm : n * x.toNat ≤ n * 255 := Nat.mul_le_mul_left _ (by omega)
  have hw2 : ((n : Int) * (x.toNat : Int)) % 4294967296 = ((n * x.toNat : Nat) : Int) := by
    rw [← Int.natCast_mul]; omega
  rw [hw2]
  refine (u32_or_nat _ _ (by omega) (by omega)).trans ?_
  rw [Nat.or_comm, nat_join (8 * l.length)]
  · rw [Int.natCast_add, Int.natCast_mul, Int.add_comm]
  · rw [show 2 ^ (8 * l.length) = n from by rw [hn, Nat.pow_mul]]; exact Nat.mul_mod_right _ _
  · rw [show 2 ^ (8 * l.length) = n from by rw [hn, Nat.pow_mul]]; omega
end Go.Proofs.YtllmlngfmcbaaaaGreatDoor
