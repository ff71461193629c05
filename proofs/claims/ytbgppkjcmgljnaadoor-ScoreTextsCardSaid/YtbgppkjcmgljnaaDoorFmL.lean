/- strconv: the parts of a float64. -/
import Derived.Test.YtbgppkjcmgljnaaDoorFmS
import Derived.Lib.EndianBits
import Derived.Lib.RabinKarpLaws
import Derived.Lib.ItoaNum
namespace Go.Proofs.YtbgppkjcmgljnaaDoor
open Go.RowKit Go.Lib

def xE (x : Nat) : Nat := x / 4503599627370496 % 2048
def xM (x : Nat) : Nat := x % 4503599627370496
/-- The whole number, its exponent, how far it is shifted. -/
def xMant (x : Nat) : Nat := if xE x = 0 then xM x else xM x + 4503599627370496
def xExp (x : Nat) : Int := if xE x = 0 then 1 else (xE x : Int)
def xS (x : Nat) : Nat := 64 - Lib.bitLen (xMant x)
theorem and_xE (x : Nat) (hx : x < 18446744073709551616) : bits .and .i64 ((x : Int) / 4503599627370496) 2047 = (xE x : Int) := by
  have h := bits_mask .i64 63 (by decide) (fun n h0 h1 => by rw [two63] at h1; rw [IntKind.wrap_i64]; omega) 11 (by decide) ((x : Int) / 4503599627370496) (by omega) (by rw [two63]; omega)
  have e : ((2 : Int) ^ 11 - 1) = 2047 := by decide
  rw [e] at h
  rw [h]
  unfold xE
  omega
theorem and_xM (x : Nat) (hx : x < 18446744073709551616) : bits .and .u64 (x : Int) 4503599627370495 = (xM x : Int) := by
  have h := bits_and_u64_nat x 4503599627370495 hx (by decide)
  have e : x &&& 4503599627370495 = x % 4503599627370496 := Nat.and_two_pow_sub_one_eq_mod x 52
  exact h.trans (by rw [e]; rfl)
theorem or_xM (x : Nat) : bits .or .u64 (xM x : Int) 4503599627370496 = (xM x : Int) + 4503599627370496 := by
  have h : xM x < 4503599627370496 := Nat.mod_lt _ (by decide)
  exact bits_join_low .u64 64 (by decide) wraps_u64 52 (xM x : Int) 4503599627370496 (by omega) (by omega) (by omega) (by omega) (by omega) (by omega)
theorem xMant_in (x : Nat) (h : ¬ (xE x = 0 ∧ xM x = 0)) : 0 < xMant x ∧ xMant x < 9007199254740992 := by
  have h1 : xM x < 4503599627370496 := Nat.mod_lt _ (by decide)
  unfold xMant
  split <;> omega
theorem xS_in (x : Nat) (h : ¬ (xE x = 0 ∧ xM x = 0)) : 11 ≤ xS x ∧ xS x ≤ 63 ∧ Lib.bitLen (xMant x) + xS x = 64 ∧ 9223372036854775808 ≤ xMant x * 2 ^ xS x ∧ xMant x * 2 ^ xS x < 18446744073709551616 := by
  obtain ⟨h0, h1⟩ := xMant_in x h
  unfold xS
  generalize xMant x = m at *
  have hb := Lib.bitLenAux_bounds 64 m (by omega) (by omega)
  have hbl : Lib.bitLen m = Lib.bitLenAux 64 m := rfl
  rw [← hbl] at hb
  generalize Lib.bitLen m = L at *
  obtain ⟨b1, b2, b3⟩ := hb
  have hL : L ≤ 53 := by
    rcases Nat.lt_or_ge 53 L with h | h
    · have : 2 ^ 53 ≤ 2 ^ (L - 1) := Nat.pow_le_pow_right (by decide) (by omega)
      omega
    · exact h
  refine ⟨by omega, by omega, by omega, ?_, ?_⟩
  · have e : 2 ^ (L - 1) * 2 ^ (64 - L) = 9223372036854775808 := by rw [← Nat.pow_add, show L - 1 + (64 - L) = 63 by omega]
    calc 9223372036854775808 = 2 ^ (L - 1) * 2 ^ (64 - L) := e.symm
      _ ≤ m * 2 ^ (64 - L) := Nat.mul_le_mul_right _ b2
  · have e : 2 ^ L * 2 ^ (64 - L) = 18446744073709551616 := by rw [← Nat.pow_add, show L + (64 - L) = 64 by omega]
    calc m * 2 ^ (64 - L) < 2 ^ L * 2 ^ (64 - L) := Nat.mul_lt_mul_of_pos_right b3 (Nat.pow_pos (by decide))
      _ = 18446744073709551616 := e
end Go.Proofs.YtbgppkjcmgljnaaDoor
