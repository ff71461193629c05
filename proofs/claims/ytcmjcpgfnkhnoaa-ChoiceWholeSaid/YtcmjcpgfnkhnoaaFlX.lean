/- The quotient of two small whole numbers as a float: it keeps their order. -/
import Derived.Test.YtcmjcpgfnkhnoaaFlW
namespace Go.Proofs.Ytcmjcpgfnkhnoaa
open Go.RowKit

theorem cut3 (q s f : Nat) (r0 : Bool) (hs : s ≤ 1) (hf : q / 2 = f) (h : r0 = true ↔ (q % 2 = 1 ∨ s = 1)) :
    (2 * q + s) / 8 + (decide (8 < 2 * ((2 * q + s) % 8)) || (8 == 2 * ((2 * q + s) % 8)) && ((2 * q + s) / 8 % 2 == 1)).toNat = f / 2 + ((f % 2 == 1) && (r0 || (f / 2 % 2 == 1))).toNat := by
  have e : (2 * q + s) / 8 = f / 2 := by omega
  rw [e]
  congr 2
  generalize (f / 2 % 2 == 1) = b
  have hq : q % 4 = 0 ∨ q % 4 = 1 ∨ q % 4 = 2 ∨ q % 4 = 3 := by omega
  have hs2 : s = 0 ∨ s = 1 := by omega
  rcases hs2 with rfl | rfl <;> rcases hq with hq | hq | hq | hq
  · rw [show (2 * q + 0) % 8 = 0 by omega, show f % 2 = 0 by omega]; cases b <;> cases r0 <;> rfl
  · rw [show (2 * q + 0) % 8 = 2 by omega, show f % 2 = 0 by omega]; cases b <;> cases r0 <;> rfl
  · have hr : r0 = false := by
      cases r0
      · rfl
      · have := h.1 rfl; omega
    rw [show (2 * q + 0) % 8 = 4 by omega, show f % 2 = 1 by omega, hr]; cases b <;> rfl
  · have hr : r0 = true := h.2 (by omega)
    rw [show (2 * q + 0) % 8 = 6 by omega, show f % 2 = 1 by omega, hr]; cases b <;> rfl
  · rw [show (2 * q + 1) % 8 = 1 by omega, show f % 2 = 0 by omega]; cases b <;> cases r0 <;> rfl
  · rw [show (2 * q + 1) % 8 = 3 by omega, show f % 2 = 0 by omega]; cases b <;> cases r0 <;> rfl
  · have hr : r0 = true := h.2 (by omega)
    rw [show (2 * q + 1) % 8 = 5 by omega, show f % 2 = 1 by omega, hr]; cases b <;> rfl
  · have hr : r0 = true := h.2 (by omega)
    rw [show (2 * q + 1) % 8 = 7 by omega, show f % 2 = 1 by omega, hr]; cases b <;> rfl
theorem cut2 (q s : Nat) (r0 : Bool) (hs : s ≤ 1) (h : r0 = true ↔ s = 1) :
    (2 * q + s) / 4 + (decide (4 < 2 * ((2 * q + s) % 4)) || (4 == 2 * ((2 * q + s) % 4)) && ((2 * q + s) / 4 % 2 == 1)).toNat = q / 2 + ((q % 2 == 1) && (r0 || (q / 2 % 2 == 1))).toNat := by
  have e : (2 * q + s) / 4 = q / 2 := by omega
  rw [e]
  congr 2
  generalize (q / 2 % 2 == 1) = b
  have hq : q % 2 = 0 ∨ q % 2 = 1 := by omega
  have hs2 : s = 0 ∨ s = 1 := by omega
  rcases hs2 with rfl | rfl <;> rcases hq with hq | hq
  · rw [show (2 * q + 0) % 4 = 0 by omega, hq]; cases b <;> cases r0 <;> rfl
  · have hr : r0 = false := by
      cases r0
      · rfl
      · have := h.1 rfl; omega
    rw [show (2 * q + 0) % 4 = 2 by omega, hq, hr]; cases b <;> rfl
  · rw [show (2 * q + 1) % 4 = 1 by omega, hq]; cases b <;> cases r0 <;> rfl
  · have hr : r0 = true := h.2 rfl
    rw [show (2 * q + 1) % 4 = 3 by omega, hq, hr]; cases b <;> rfl
theorem cut_form (mag d : Nat) (hd : d ≤ mag.log2 + 2) : Ieee.Toward.even.cut false mag d = mag / 2 ^ d + (decide (2 ^ d < 2 * (mag % 2 ^ d)) || (2 ^ d == 2 * (mag % 2 ^ d)) && (mag / 2 ^ d % 2 == 1)).toNat := by
  unfold Ieee.Toward.cut
  rw [Nat.min_eq_left hd, Nat.shiftLeft_eq, Nat.one_mul]
/-- Twice a number, divided: the quotient's half, and what is left over. -/
theorem twice_div (X n : Nat) (hn : 0 < n) : 2 * X / n / 2 = X / n ∧ (X % n ≠ 0 ↔ (2 * X / n % 2 = 1 ∨ 2 * X % n ≠ 0)) := by
  have e1 : 2 * X / n / 2 = X / n := by
    rw [Nat.div_div_eq_div_mul, Nat.mul_comm n 2, Nat.mul_div_mul_left _ _ (by decide)]
  refine ⟨e1, ?_⟩
  have h1 := Nat.div_add_mod X n
  have h2 := Nat.div_add_mod (2 * X) n
  have h3 := Nat.mod_lt X hn
  have h4 := Nat.mod_lt (2 * X) hn
  generalize X % n = r at *
  generalize 2 * X % n = r2 at *
  generalize X / n = f at *
  generalize 2 * X / n = q at *
  have hc : q = 2 * f ∨ q = 2 * f + 1 := by omega
  rcases hc with rfl | rfl
  · have : n * (2 * f) = 2 * (n * f) := Nat.mul_left_comm ..
    rw [this] at h2
    generalize n * f = z at *
    omega
  · have : n * (2 * f + 1) = 2 * (n * f) + n := by rw [Nat.mul_add, Nat.mul_left_comm, Nat.mul_one]
    rw [this] at h2
    generalize n * f = z at *
    omega
theorem rk_cut3 (B X n : Nat) (hn : 0 < n) (M : Nat) (hX : X = M * (2 * B)) :
    (2 * (2 * X / n) + (2 * X % n != 0).toNat) / 8 + (decide (8 < 2 * ((2 * (2 * X / n) + (2 * X % n != 0).toNat) % 8)) || (8 == 2 * ((2 * (2 * X / n) + (2 * X % n != 0).toNat) % 8)) && ((2 * (2 * X / n) + (2 * X % n != 0).toNat) / 8 % 2 == 1)).toNat = rk B M n := by
  obtain ⟨h1, h2⟩ := twice_div X n hn
  have h3 := cut3 (2 * X / n) (2 * X % n != 0).toNat (X / n) (X % n != 0) (by cases (2 * X % n != 0) <;> simp) h1 (by
    rw [bne_iff_ne, h2]
    cases h : (2 * X % n != 0)
    · have : 2 * X % n = 0 := by simpa using h
      simp [this]
    · have : 2 * X % n ≠ 0 := by simpa using h
      simp [this])
  rw [h3]
  unfold rk
  rw [← hX]
theorem rk_cut2 (B X n : Nat) (M : Nat) (hX : X = M * (2 * B)) :
    (2 * (X / n) + (X % n != 0).toNat) / 4 + (decide (4 < 2 * ((2 * (X / n) + (X % n != 0).toNat) % 4)) || (4 == 2 * ((2 * (X / n) + (X % n != 0).toNat) % 4)) && ((2 * (X / n) + (X % n != 0).toNat) / 4 % 2 == 1)).toNat = rk B M n := by
  have h3 := cut2 (X / n) (X % n != 0).toNat (X % n != 0) (by cases (X % n != 0) <;> simp) (by cases (X % n != 0) <;> simp)
  rw [h3]
  unfold rk
  rw [← hX]
theorem read_one : Ieee.double.read 4607182418800017408 = .number false 4503599627370496 (-52) := by decide
theorem mul_one {a : Nat} (h0 : a ≠ 0) (h : a < 131072) : floatBits .mul .f64 (rungI a) 4607182418800017408 = some (rungI a) := by
  have hl := log2_le h0 h
  have hb := sh_bounds h0 h
  have hg := sh_log2 h0 h
  show ((Ieee.double.read (rungI a)).product (Ieee.double.read 4607182418800017408)).map Ieee.double.write = _
  rw [read_fI h0 h, read_one]
  show some (Ieee.double.nearest false (sh a * 2 ^ 36 * 4503599627370496) ((a.log2 : Int) - 52 + -52)) = _
  have hne : sh a * 2 ^ 36 ≠ 0 := by omega
  have e52 : (4503599627370496 : Nat) = 2 ^ 52 := by decide
  have hlog : (sh a * 2 ^ 36 * 4503599627370496).log2 = 104 := by rw [e52, log2_mul _ _ hne, hg]
  rw [near_eq _ _ 52 104 (Nat.mul_ne_zero hne (by decide)) hlog (by omega) (by omega)]
  have hc : Ieee.Toward.even.cut false (sh a * 2 ^ 36 * 4503599627370496) 52 = sh a * 2 ^ 36 := by rw [e52]; exact cut_even false _ 52 hne
  rw [hc, show ((a.log2 : Int) - 52 + -52 + ((52 : Nat) : Int) + 1074).toNat = a.log2 + 1022 by omega]
  unfold rungI
  generalize hX : (a.log2 + 1022) * 4503599627370496 + sh a * 2 ^ 36 = X
  rw [Nat.min_eq_left (by omega)]
end Go.Proofs.Ytcmjcpgfnkhnoaa
