/- Floats: a half. -/
import Derived.Test.YtcmjcpgfnkhnoaaFlE
import Derived.Laws.NewFold
namespace Go.Proofs.Ytcmjcpgfnkhnoaa
open Go.RowKit

theorem log2_mul (m k : Nat) (h : m ≠ 0) : (m * 2 ^ k).log2 = m.log2 + k := by
  have hp : 0 < 2 ^ k := Nat.two_pow_pos k
  have hm : m * 2 ^ k ≠ 0 := Nat.ne_of_gt (Nat.mul_pos (Nat.pos_of_ne_zero h) hp)
  have h1 : 2 ^ m.log2 ≤ m := (Nat.le_log2 h).1 (Nat.le_refl _)
  have h2 : m < 2 ^ (m.log2 + 1) := (Nat.log2_lt h).1 (Nat.lt_succ_self _)
  have a : m.log2 + k ≤ (m * 2 ^ k).log2 := (Nat.le_log2 hm).2 (by rw [Nat.pow_add]; exact Nat.mul_le_mul_right _ h1)
  have b : (m * 2 ^ k).log2 < m.log2 + k + 1 := (Nat.log2_lt hm).2 (by
    rw [show m.log2 + k + 1 = (m.log2 + 1) + k by omega, Nat.pow_add]
    exact Nat.mul_lt_mul_of_pos_right h2 hp)
  omega
theorem cut_even (s : Bool) (m k : Nat) (h : m ≠ 0) : Ieee.Toward.even.cut s (m * 2 ^ k) k = m := by
  unfold Ieee.Toward.cut
  rw [log2_mul m k h, Nat.min_eq_left (by omega), Nat.shiftLeft_eq, Nat.one_mul]
  have hp : 0 < 2 ^ k := Nat.two_pow_pos k
  simp only [Nat.mul_div_cancel _ hp, Nat.mul_mod_left]
  have h1 : decide (2 ^ k < 2 * 0) = false := decide_eq_false (by omega)
  have h2 : (2 ^ k == 2 * 0) = false := by rw [beq_eq_false_iff_ne]; omega
  rw [h1, h2]
  rfl
theorem cut_half (s : Bool) (m k : Nat) (h : m ≠ 0) : Ieee.Toward.even.cut s (m * 2 ^ k) (k + 1) < m := by
  unfold Ieee.Toward.cut
  rw [log2_mul m k h, Nat.min_eq_left (by omega), Nat.shiftLeft_eq, Nat.one_mul]
  have hp : 0 < 2 ^ k := Nat.two_pow_pos k
  have e : 2 ^ (k + 1) = 2 * 2 ^ k := by rw [Nat.pow_succ, Nat.mul_comm]
  rw [e]
  simp only [Nat.mul_div_mul_right _ _ hp, Nat.mul_mod_mul_right]
  have hm2 : m % 2 = 0 ∨ m % 2 = 1 := by omega
  rcases hm2 with h2 | h2
  · rw [h2, Nat.zero_mul]
    have h3 : decide (2 * 2 ^ k < 2 * 0) = false := decide_eq_false (by omega)
    have h4 : (2 * 2 ^ k == 2 * 0) = false := by rw [beq_eq_false_iff_ne]; omega
    rw [h3, h4]
    show m / 2 + 0 < m
    omega
  · rw [h2, Nat.one_mul]
    have h3 : decide (2 * 2 ^ k < 2 * 2 ^ k) = false := decide_eq_false (by omega)
    have h4 : (2 * 2 ^ k == 2 * 2 ^ k) = true := by rw [beq_iff_eq]
    rw [h3, h4]
    simp only [Bool.false_or, Bool.true_and]
    by_cases h5 : m / 2 % 2 = 1
    · have : (m / 2 % 2 == 1) = true := by rw [beq_iff_eq]; exact h5
      rw [this]
      show m / 2 + 1 < m
      omega
    · have : (m / 2 % 2 == 1) = false := by rw [beq_eq_false_iff_ne]; exact h5
      rw [this]
      show m / 2 + 0 < m
      omega
theorem read_two : Ieee.double.read 4611686018427387904 = .number false 4503599627370496 (-51) := by decide
theorem quot_two (s : Bool) (m : Nat) (i : Int) (h0 : m ≠ 0) (hm : m < 9007199254740992) :
    ∃ k : Nat, 3 ≤ k ∧ (Ieee.Datum.number s m i).quotient 54 (.number false 4503599627370496 (-51)) = some (.number s (m * 2 ^ k) (i - k - 1)) := by
  have hl : m.log2 < 53 := (Nat.log2_lt h0).2 hm
  have e52 : Nat.log2 4503599627370496 = 52 := by decide
  obtain ⟨q, hq⟩ : ∃ q : Nat, 54 + 52 - m.log2 = q + 52 := ⟨54 - m.log2, by omega⟩
  refine ⟨q + 1, by omega, ?_⟩
  show (if (4503599627370496 : Nat) = 0 then (if m = 0 then none else some (Ieee.Datum.infinity (s ^^ false))) else some (Ieee.Datum.number (s ^^ false) (2 * ((m <<< (54 + Nat.log2 4503599627370496 - m.log2)) / 4503599627370496) + ((m <<< (54 + Nat.log2 4503599627370496 - m.log2)) % 4503599627370496 != 0).toNat) (i - (-51) - ((54 + Nat.log2 4503599627370496 - m.log2 : Nat) : Int) - 1))) = _
  have ep : ∀ q : Nat, 2 ^ (q + 52) = 2 ^ q * 4503599627370496 := fun q => Nat.pow_add 2 q 52
  rw [if_neg (by decide), e52, hq, Nat.shiftLeft_eq, ep, ← Nat.mul_assoc, Nat.mul_div_cancel _ (by decide), Nat.mul_mod_left, Bool.xor_false]
  have e2 : 2 * (m * 2 ^ q) + ((0 : Nat) != 0).toNat = m * 2 ^ (q + 1) := by
    rw [Nat.pow_succ, Nat.mul_comm 2, ← Nat.mul_assoc]
    rfl
  rw [e2]
  congr 2
  omega
/-- The word of half a number. -/
theorem half_num (s : Bool) (m k : Nat) (i : Int) (h0 : m ≠ 0) (hi : -1074 ≤ i) (hn : (4503599627370496 ≤ m ∧ m < 9007199254740992) ∨ (m < 4503599627370496 ∧ i = -1074)) :
    ∃ r, Ieee.double.write (.number s (m * 2 ^ k) (i - k - 1)) = Ieee.double.word s (min r 9218868437227405312) ∧
      (r < m ∧ i = -1074 ∨ -1074 < i ∧ 4503599627370496 ≤ m ∧ r = (i - 1 + 1074).toNat * 4503599627370496 + m) := by
  have hp : 0 < 2 ^ k := Nat.two_pow_pos k
  have hmk : m * 2 ^ k ≠ 0 := Nat.ne_of_gt (Nat.mul_pos (Nat.pos_of_ne_zero h0) hp)
  have hl : m.log2 < 53 := (Nat.log2_lt h0).2 (by omega)
  show ∃ r, (if m * 2 ^ k = 0 then Ieee.double.word s 0 else Ieee.double.word s (min ((max (i - k - 1 + ((m * 2 ^ k).log2 : Int) - 52) (-1074) - (-1074)).toNat * 4503599627370496 + Ieee.Toward.even.cut s ((m * 2 ^ k) <<< ((i - k - 1) - max (i - k - 1 + ((m * 2 ^ k).log2 : Int) - 52) (-1074)).toNat) (max (i - k - 1 + ((m * 2 ^ k).log2 : Int) - 52) (-1074) - (i - k - 1)).toNat) 9218868437227405312)) = _ ∧ _
  rw [if_neg hmk, log2_mul m k h0]
  refine ⟨_, rfl, ?_⟩
  by_cases h1 : -1074 < i
  · have hm : 4503599627370496 ≤ m := by omega
    have hl2 : 52 ≤ m.log2 := (Nat.le_log2 h0).2 hm
    have e : max (i - k - 1 + ((m.log2 + k : Nat) : Int) - 52) (-1074) = i - 1 := by omega
    right
    refine ⟨h1, hm, ?_⟩
    rw [e, show ((i - k - 1) - (i - 1)).toNat = 0 by omega, Nat.shiftLeft_zero, show ((i - 1) - (i - k - 1)).toNat = k by omega, cut_even s m k h0]
    omega
  · obtain rfl : i = -1074 := by omega
    have e : max (-1074 - k - 1 + ((m.log2 + k : Nat) : Int) - 52) (-1074) = -1074 := by omega
    left
    refine ⟨?_, rfl⟩
    rw [e, show ((-1074 - (k : Int) - 1) - (-1074)).toNat = 0 by omega, Nat.shiftLeft_zero, show ((-1074 : Int) - (-1074 - k - 1)).toNat = k + 1 by omega]
    have := cut_half s m k h0
    omega
/-- A HALF: its sign is the same; a zero and an infinity remain; any other number becomes less. -/
theorem half_some (x : Nat) (hn : isN x = false) : ∃ h, floatBits .quo .f64 x 4611686018427387904 = some h ∧ h < 18446744073709551616 ∧ isN h = false ∧ ng h = ng x ∧
    (mg x = 0 → mg h = 0) ∧ (mg x = 9218868437227405312 → mg h = 9218868437227405312) ∧ (mg x ≠ 0 → mg x ≠ 9218868437227405312 → mg h < mg x) := by
  have hx : mg x ≤ 9218868437227405312 := by simpa [isN] using hn
  show ∃ h, ((Ieee.double.read x).quotient 54 (Ieee.double.read 4611686018427387904)).map Ieee.double.write = some h ∧ _
  rw [read_two]
  rcases Nat.lt_or_eq_of_le hx with h1 | h1
  · by_cases h0 : mg x = 0
    · have e : Ieee.double.read x = .number (ng x) 0 (-1074) := by rw [read_eq, h0]; rfl
      rw [e]
      have hq : (Ieee.Datum.number (ng x) 0 (-1074)).quotient 54 (.number false 4503599627370496 (-51)) = some (.number (ng x) 0 (-1074 - (-51) - ((106 - Nat.log2 0 : Nat) : Int) - 1)) := by
        cases ng x <;> decide
      rw [hq]
      have hw : Ieee.double.write (.number (ng x) 0 (-1074 - (-51) - ((106 - Nat.log2 0 : Nat) : Int) - 1)) = Ieee.double.word (ng x) 0 := rfl
      have ho := word_ok (ng x) 0 (by decide)
      exact ⟨_, rfl, by rw [hw]; exact ho.1, by rw [hw]; exact ho.2.1, by rw [hw]; exact ho.2.2.2, fun _ => by rw [hw]; exact ho.2.2.1, fun h => by omega, fun h => absurd h0 h⟩
    · have : ∃ m i, Ieee.double.read x = .number (ng x) m i ∧ m ≠ 0 ∧ -1074 ≤ i ∧ ((4503599627370496 ≤ m ∧ m < 9007199254740992) ∨ (m < 4503599627370496 ∧ i = -1074)) ∧ mg x = (if 4503599627370496 ≤ m then (i + 1074).toNat * 4503599627370496 + m else m) := by
        rw [read_eq]
        by_cases h2 : mg x < 4503599627370496
        · rw [if_pos h2]
          exact ⟨_, _, rfl, h0, by omega, .inr ⟨h2, rfl⟩, by rw [if_neg (by omega)]⟩
        · rw [if_neg h2, if_pos h1]
          refine ⟨_, _, rfl, by omega, by omega, .inl ⟨by omega, by omega⟩, ?_⟩
          rw [if_pos (by omega)]
          have : (-1074 + ((mg x / 4503599627370496 - 1 : Nat) : Int) + 1074).toNat = mg x / 4503599627370496 - 1 := by omega
          rw [this]
          omega
      obtain ⟨m, i, e, hm0, hi, hmi, hg⟩ := this
      rw [e]
      obtain ⟨k, _, hq⟩ := quot_two (ng x) m i hm0 (by omega)
      rw [hq]
      obtain ⟨r, hw, hr⟩ := half_num (ng x) m k i hm0 hi hmi
      have ho := word_ok (ng x) (min r 9218868437227405312) (Nat.min_le_right _ _)
      refine ⟨_, rfl, by rw [hw]; exact ho.1, by rw [hw]; exact ho.2.1, by rw [hw]; exact ho.2.2.2, fun h => absurd h h0, fun h => by omega, fun _ _ => ?_⟩
      rw [hw, ho.2.2.1]
      have hrm : r < mg x := by
        rw [hg]
        rcases hr with ⟨hr, rfl⟩ | ⟨hi2, hm2, hr⟩
        · split
          · rw [show ((-1074 : Int) + 1074).toNat = 0 from rfl]; omega
          · exact hr
        · rw [if_pos hm2, hr]
          have : (i + 1074).toNat = (i - 1 + 1074).toNat + 1 := by omega
          rw [this, Nat.add_mul]
          omega
      omega
  · rw [read_inf x h1]
    have hq : (Ieee.Datum.infinity (ng x)).quotient 54 (.number false 4503599627370496 (-51)) = some (.infinity (ng x)) := by
      cases ng x <;> rfl
    rw [hq]
    have ho := word_ok (ng x) 9218868437227405312 (Nat.le_refl _)
    exact ⟨_, rfl, by rw [write_inf]; exact ho.1, by rw [write_inf]; exact ho.2.1, by rw [write_inf]; exact ho.2.2.2, fun h => by omega, fun _ => by rw [write_inf]; exact ho.2.2.1, fun _ h => absurd h1 h⟩
theorem half_nan (x : Nat) (hn : isN x = true) : floatBits .quo .f64 x 4611686018427387904 = none := by
  show ((Ieee.double.read x).quotient 54 (Ieee.double.read 4611686018427387904)).map Ieee.double.write = none
  rw [read_nan x hn]
  rfl
theorem run_half_nan (x : Nat) (hn : isN x = true) (w : World) : ∃ b, b < 18446744073709551616 ∧ isN b = true ∧ ∀ t, (binOp .quo t (.float .f64 x) (.float .f64 4611686018427387904)).run Try.prog w = .ok (.float .f64 b) w.drew := by
  have h : FloatKind.f64.format.div x 4611686018427387904 = none := half_nan x hn
  refine ⟨(Question.nanBits .f64 x 4611686018427387904).cut (w.tape w.drawn (Question.nanBits .f64 x 4611686018427387904)), ?_, ?_, fun t => ?_⟩
  · have h1 : (w.tape w.drawn (Question.nanBits .f64 x 4611686018427387904) / 2) % (2 ^ 52 - 1) < 2 ^ 52 - 1 := Nat.mod_lt _ (by decide)
    have h2 : w.tape w.drawn (Question.nanBits .f64 x 4611686018427387904) % 2 < 2 := Nat.mod_lt _ (by decide)
    show (w.tape w.drawn _ % 2) * 2 ^ 63 + 0x7ff0000000000000 + 1 + (w.tape w.drawn _ / 2) % (2 ^ 52 - 1) < _
    generalize w.tape w.drawn (Question.nanBits .f64 x 4611686018427387904) % 2 = u at *
    generalize (w.tape w.drawn (Question.nanBits .f64 x 4611686018427387904) / 2) % (2 ^ 52 - 1) = r at *
    omega
  · have h1 : (w.tape w.drawn (Question.nanBits .f64 x 4611686018427387904) / 2) % (2 ^ 52 - 1) < 2 ^ 52 - 1 := Nat.mod_lt _ (by decide)
    have h2 : w.tape w.drawn (Question.nanBits .f64 x 4611686018427387904) % 2 < 2 := Nat.mod_lt _ (by decide)
    show decide (_ < ((w.tape w.drawn _ % 2) * 2 ^ 63 + 0x7ff0000000000000 + 1 + (w.tape w.drawn _ / 2) % (2 ^ 52 - 1)) % 9223372036854775808) = true
    rw [decide_eq_true_iff]
    generalize w.tape w.drawn (Question.nanBits .f64 x 4611686018427387904) % 2 = u at *
    generalize (w.tape w.drawn (Question.nanBits .f64 x 4611686018427387904) / 2) % (2 ^ 52 - 1) = r at *
    omega
  · simp [binOp, Op.floatArith, h, Question.forced]
end Go.Proofs.Ytcmjcpgfnkhnoaa
