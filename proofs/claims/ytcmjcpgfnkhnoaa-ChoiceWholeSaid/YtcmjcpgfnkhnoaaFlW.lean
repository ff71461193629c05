/- The rounded quotient of two small whole numbers: it keeps their order. -/
import Derived.Test.YtcmjcpgfnkhnoaaFlH
namespace Go.Proofs.Ytcmjcpgfnkhnoaa
open Go.RowKit

/-- The rounded quotient of M by n, 52 places behind the point, where n <= M < 2n. -/
def rk (B M n : Nat) : Nat :=
  M * (2 * B) / n / 2 + ((M * (2 * B) / n % 2 == 1) && ((M * (2 * B) % n != 0) || (M * (2 * B) / n / 2 % 2 == 1))).toNat

theorem rk_near (B M n : Nat) (hn : 0 < n) : 2 * (rk B M n * n) ≤ 2 * (M * B) + n ∧ 2 * (M * B) ≤ 2 * (rk B M n * n) + n := by
  unfold rk
  have h0 : M * (2 * B) = 2 * (M * B) := Nat.mul_left_comm ..
  rw [h0]
  have h1 := Nat.div_add_mod (2 * (M * B)) n
  have h2 := Nat.mod_lt (2 * (M * B)) hn
  generalize 2 * (M * B) / n = f at *
  generalize 2 * (M * B) % n = r at *
  generalize M * B = mb at *
  have h3 : f = 2 * (f / 2) + f % 2 := by omega
  have h4 : f % 2 = 0 ∨ f % 2 = 1 := by omega
  generalize f / 2 = g at *
  have e1 : n * f = 2 * (g * n) + f % 2 * n := by
    calc n * f = n * (2 * g + f % 2) := by rw [← h3]
      _ = 2 * (g * n) + f % 2 * n := by rw [Nat.mul_add, Nat.mul_comm n (f % 2), Nat.mul_left_comm, Nat.mul_comm n g]
  rcases h4 with h | h
  · rw [h] at e1 ⊢
    simp only [show ((0 : Nat) == 1) = false from rfl, Bool.false_and, Bool.toNat_false, Nat.add_zero]
    generalize g * n = gn at *
    omega
  · rw [h] at e1 ⊢
    simp only [show ((1 : Nat) == 1) = true from rfl, Bool.true_and]
    cases hb : ((r != 0) || (g % 2 == 1))
    · simp only [Bool.toNat_false, Nat.add_zero]
      have : r = 0 := by
        have := (Bool.or_eq_false_iff.1 hb).1
        simpa using this
      generalize g * n = gn at *
      omega
    · simp only [Bool.toNat_true]
      rw [Nat.add_mul]
      generalize g * n = gn at *
      omega

theorem div_ratio {X n Y m : Nat} (hn : 0 < n) (hm : 0 < m) (h : X * m = Y * n) : X / n = Y / m ∧ (X % n = 0 ↔ Y % m = 0) := by
  have a1 : X / n = X * m / (n * m) := (Nat.mul_div_mul_right X n hm).symm
  have a2 : Y / m = Y * n / (m * n) := (Nat.mul_div_mul_right Y m hn).symm
  have b1 : X * m % (n * m) = X % n * m := Nat.mul_mod_mul_right ..
  have b2 : Y * n % (m * n) = Y % m * n := Nat.mul_mod_mul_right ..
  refine ⟨by rw [a1, a2, h, Nat.mul_comm n m], ?_⟩
  rw [h, Nat.mul_comm n m, b2] at b1
  constructor
  · intro e
    rw [e, Nat.zero_mul] at b1
    rcases Nat.mul_eq_zero.1 b1 with e | e
    · exact e
    · omega
  · intro e
    rw [e, Nat.zero_mul] at b1
    rcases Nat.mul_eq_zero.1 b1.symm with e | e
    · exact e
    · omega

theorem rk_ratio {B M n N m : Nat} (hn : 0 < n) (hm : 0 < m) (h : M * m = N * n) : rk B M n = rk B N m := by
  have e : M * (2 * B) * m = N * (2 * B) * n := by
    rw [Nat.mul_right_comm, h, Nat.mul_right_comm]
  obtain ⟨d, s⟩ := div_ratio hn hm e
  unfold rk
  rw [d]
  have : (M * (2 * B) % n != 0) = (N * (2 * B) % m != 0) := by
    cases h1 : (M * (2 * B) % n != 0) <;> cases h2 : (N * (2 * B) % m != 0) <;> simp_all
  rw [this]

/-- Two fractions M1/n1 * 2^G1 < M2/n2 * 2^G2 with small parts: the rounded ones too. -/
theorem rk_less {B M n N m G J : Nat} (hB : 34359738368 < B) (hn : 0 < n) (hm : 0 < m) (n1 : n < 131072) (m1 : m < 131072) (a1 : n ≤ M) (a2 : M < 2 * n) (b1 : m ≤ N) (b2 : N < 2 * m)
    (h : M * m * 2 ^ G < N * n * 2 ^ J) : G * B + rk B M n < J * B + rk B N m := by
  obtain ⟨p1, p2⟩ := rk_near B M n hn
  obtain ⟨q1, q2⟩ := rk_near B N m hm
  have hnm : 0 < n * m := Nat.mul_pos hn hm
  have k2 : rk B M n < 2 * B := by
    apply Decidable.byContradiction
    intro hh
    have e1 : 2 * B * n ≤ rk B M n * n := Nat.mul_le_mul_right n (by omega)
    have e2 : M * B ≤ (2 * n - 1) * B := Nat.mul_le_mul_right B (by omega)
    have e3 : (2 * n - 1) * B + B = 2 * B * n := by
      rw [← Nat.succ_mul, show (2 * n - 1).succ = 2 * n by omega, Nat.mul_right_comm]
    generalize 2 * B * n = x at *
    generalize rk B M n * n = y at *
    generalize M * B = z at *
    generalize (2 * n - 1) * B = u at *
    omega
  have k3 : B ≤ rk B N m := by
    apply Decidable.byContradiction
    intro hh
    have e1 : rk B N m * m ≤ (B - 1) * m := Nat.mul_le_mul_right m (by omega)
    have e2 : m * B ≤ N * B := Nat.mul_le_mul_right B b1
    have e3 : (B - 1) * m + m = m * B := by
      rw [← Nat.succ_mul, show (B - 1).succ = B by omega, Nat.mul_comm]
    generalize rk B N m * m = x at *
    generalize (B - 1) * m = y at *
    generalize N * B = z at *
    generalize m * B = u at *
    omega
  rcases Nat.lt_trichotomy G J with hg | hg | hg
  · have e1 : (G + 1) * B ≤ J * B := Nat.mul_le_mul_right B hg
    rw [Nat.add_mul] at e1
    generalize G * B = x at *
    generalize J * B = y at *
    omega
  · subst hg
    have h' : M * m < N * n := Nat.lt_of_mul_lt_mul_right h
    have : rk B M n < rk B N m := by
      apply Decidable.byContradiction
      intro hh
      have e1 : rk B N m * (n * m) ≤ rk B M n * (n * m) := Nat.mul_le_mul_right _ (by omega)
      have e2 := Nat.mul_le_mul_right m p1
      have e3 := Nat.mul_le_mul_right n q2
      have t1 : 2 * (rk B M n * n) * m = 2 * (rk B M n * (n * m)) := by simp [Nat.mul_assoc]
      have t2 : (2 * (M * B) + n) * m = 2 * (B * (M * m)) + n * m := by
        rw [Nat.add_mul, Nat.mul_assoc, Nat.mul_comm M B, Nat.mul_assoc]
      have t3 : 2 * (N * B) * n = 2 * (B * (N * n)) := by
        rw [Nat.mul_assoc, Nat.mul_comm N B, Nat.mul_assoc]
      have t4 : (2 * (rk B N m * m) + m) * n = 2 * (rk B N m * (n * m)) + n * m := by
        rw [Nat.add_mul, Nat.mul_comm m n, Nat.mul_assoc, Nat.mul_assoc, Nat.mul_comm m n]
      have t5 : B * (M * m) + B ≤ B * (N * n) := by
        have := Nat.mul_le_mul_left B (show M * m + 1 ≤ N * n from h')
        rwa [Nat.mul_add, Nat.mul_one] at this
      rw [t1, t2] at e2
      rw [t3, t4] at e3
      have : n * m ≤ 131072 * 131072 := Nat.mul_le_mul (by omega) (by omega)
      generalize rk B M n * (n * m) = x at *
      generalize rk B N m * (n * m) = y at *
      generalize B * (M * m) = u at *
      generalize B * (N * n) = v at *
      generalize n * m = z at *
      omega
    generalize G * B = x at *
    omega
  · exfalso
    obtain ⟨d, rfl⟩ := Nat.exists_eq_add_of_lt hg
    have c1 : N * n ≤ 2 * (n * m) := by
      rw [← Nat.mul_assoc, Nat.mul_right_comm]
      exact Nat.mul_le_mul_right n (by omega)
    have c2 : n * m ≤ M * m := Nat.mul_le_mul_right m a1
    have c3 : M * m * 2 ^ (J + d + 1) = 2 * (M * m * 2 ^ d) * 2 ^ J := by
      rw [Nat.pow_succ, Nat.pow_add]
      simp [Nat.mul_comm, Nat.mul_left_comm]
    rw [c3] at h
    have h' := Nat.lt_of_mul_lt_mul_right h
    have : M * m * 1 ≤ M * m * 2 ^ d := Nat.mul_le_mul_left _ (Nat.two_pow_pos d)
    omega

theorem rk_same {B M n N m G J : Nat} (hn : 0 < n) (hm : 0 < m) (a1 : n ≤ M) (a2 : M < 2 * n) (b1 : m ≤ N) (b2 : N < 2 * m)
    (h : M * m * 2 ^ G = N * n * 2 ^ J) : G * B + rk B M n = J * B + rk B N m := by
  have key : ∀ {M n N m G J : Nat}, 0 < n → 0 < m → n ≤ M → M < 2 * n → m ≤ N → N < 2 * m → M * m * 2 ^ G = N * n * 2 ^ J → ¬ J < G := by
    intro M n N m G J hn hm a1 a2 b1 b2 h hg
    obtain ⟨d, rfl⟩ := Nat.exists_eq_add_of_lt hg
    have c1 : N * n < 2 * (n * m) := by
      rw [← Nat.mul_assoc, Nat.mul_right_comm]
      exact Nat.mul_lt_mul_of_pos_right (by omega) hn
    have c2 : n * m ≤ M * m := Nat.mul_le_mul_right m a1
    have c3 : M * m * 2 ^ (J + d + 1) = 2 * (M * m * 2 ^ d) * 2 ^ J := by
      rw [Nat.pow_succ, Nat.pow_add]
      simp [Nat.mul_comm, Nat.mul_left_comm]
    rw [c3] at h
    have h' := Nat.eq_of_mul_eq_mul_right (Nat.two_pow_pos J) h
    have : M * m * 1 ≤ M * m * 2 ^ d := Nat.mul_le_mul_left _ (Nat.two_pow_pos d)
    omega
  have g1 := key hn hm a1 a2 b1 b2 h
  have g2 := key hm hn b1 b2 a1 a2 h.symm
  have : G = J := by omega
  subst this
  rw [rk_ratio hn hm (Nat.eq_of_mul_eq_mul_right (Nat.two_pow_pos G) h)]


theorem log2_le {a : Nat} (h0 : a ≠ 0) (h : a < 131072) : a.log2 ≤ 16 := Nat.le_of_lt_succ ((Nat.log2_lt h0).2 h)
theorem log2_bounds {a : Nat} (h0 : a ≠ 0) : 2 ^ a.log2 ≤ a ∧ a < 2 ^ (a.log2 + 1) := ⟨(Nat.le_log2 h0).1 (Nat.le_refl _), (Nat.log2_lt h0).1 (Nat.lt_succ_self _)⟩
/-- A small number, shifted to 17 digits. -/
def sh (a : Nat) : Nat := a * 2 ^ (16 - a.log2)
theorem sh_bounds {a : Nat} (h0 : a ≠ 0) (h : a < 131072) : 65536 ≤ sh a ∧ sh a < 131072 := by
  have hl := log2_le h0 h
  obtain ⟨h1, h2⟩ := log2_bounds h0
  unfold sh
  have e1 : 2 ^ a.log2 * 2 ^ (16 - a.log2) = 65536 := by rw [← Nat.pow_add, show a.log2 + (16 - a.log2) = 16 by omega]
  have e2 : 2 ^ (a.log2 + 1) * 2 ^ (16 - a.log2) = 131072 := by rw [← Nat.pow_add, show a.log2 + 1 + (16 - a.log2) = 17 by omega]
  have hp : 0 < 2 ^ (16 - a.log2) := Nat.two_pow_pos _
  have h3 := Nat.mul_le_mul_right (2 ^ (16 - a.log2)) h1
  have h4 := Nat.mul_lt_mul_of_pos_right h2 hp
  omega
/-- The same, shifted to 53 digits. -/
theorem sh_full {a : Nat} (h0 : a ≠ 0) (h : a < 131072) : a * 2 ^ (52 - a.log2) = sh a * 2 ^ 36 := by
  have hl := log2_le h0 h
  unfold sh
  rw [Nat.mul_assoc, ← Nat.pow_add, show 16 - a.log2 + 36 = 52 - a.log2 by omega]
theorem sh_log2 {a : Nat} (h0 : a ≠ 0) (h : a < 131072) : (sh a * 2 ^ 36).log2 = 52 := by
  have hb := sh_bounds h0 h
  have hne : sh a ≠ 0 := by omega
  rw [log2_mul _ _ hne]
  have : (sh a).log2 = 16 := by
    have h1 : 16 ≤ (sh a).log2 := (Nat.le_log2 hne).2 (by omega)
    have h2 : (sh a).log2 < 17 := (Nat.log2_lt hne).2 (by omega)
    omega
  omega
/-- The rung of a whole number. -/
def rungI (a : Nat) : Nat := (a.log2 + 1022) * 4503599627370496 + sh a * 2 ^ 36
theorem word_false (r : Nat) : Ieee.double.word false r = r := rfl
theorem near_eq (mag : Nat) (place : Int) (d : Nat) (L : Nat) (hm : mag ≠ 0) (hL : mag.log2 = L) (hd : (place + (L : Int) - 52) = place + d) (hp : -1074 ≤ place + d) :
    Ieee.double.nearest false mag place = min ((place + d + 1074).toNat * 4503599627370496 + Ieee.Toward.even.cut false mag d) 9218868437227405312 := by
  show (if mag = 0 then Ieee.double.word false 0 else Ieee.double.word false (min ((max (place + (mag.log2 : Int) - 52) (-1074) - (-1074)).toNat * 4503599627370496 + Ieee.Toward.even.cut false (mag <<< (place - max (place + (mag.log2 : Int) - 52) (-1074)).toNat) (max (place + (mag.log2 : Int) - 52) (-1074) - place).toNat) 9218868437227405312)) = _
  rw [if_neg hm, hL, hd, Int.max_eq_left hp]
  rw [show (place - (place + (d : Int))).toNat = 0 by omega, show (place + (d : Int) - place).toNat = d by omega, show place + (d : Int) - -1074 = place + d + 1074 by omega, Nat.shiftLeft_zero, word_false]
theorem fI_eq {a : Nat} (h0 : a ≠ 0) (h : a < 131072) : floatOfInt .f64 (a : Int) = rungI a := by
  have hl := log2_le h0 h
  have hb := sh_bounds h0 h
  show Ieee.double.nearest (decide ((a : Int) < 0)) (a : Int).natAbs 0 = _
  rw [decide_eq_false (by omega), Int.natAbs_natCast]
  show (if a = 0 then Ieee.double.word false 0 else Ieee.double.word false (min ((max (0 + (a.log2 : Int) - 52) (-1074) - (-1074)).toNat * 4503599627370496 + Ieee.Toward.even.cut false (a <<< (0 - max (0 + (a.log2 : Int) - 52) (-1074)).toNat) (max (0 + (a.log2 : Int) - 52) (-1074) - 0).toNat) 9218868437227405312)) = _
  rw [if_neg h0, Int.max_eq_left (by omega)]
  rw [show (0 - (0 + (a.log2 : Int) - 52)).toNat = 52 - a.log2 by omega, show (0 + (a.log2 : Int) - 52 - 0).toNat = 0 by omega, show (0 + (a.log2 : Int) - 52 - -1074).toNat = a.log2 + 1022 by omega, Nat.shiftLeft_eq, sh_full h0 h]
  have hc := cut_even false (sh a * 2 ^ 36) 0 (by omega)
  rw [Nat.pow_zero, Nat.mul_one] at hc
  rw [hc, word_false]
  unfold rungI
  generalize hX : (a.log2 + 1022) * 4503599627370496 + sh a * 2 ^ 36 = X
  exact Nat.min_eq_left (by omega)
theorem rungI_mg {a : Nat} (h0 : a ≠ 0) (h : a < 131072) : mg (rungI a) = rungI a ∧ ng (rungI a) = false := by
  have hl := log2_le h0 h
  have hb := sh_bounds h0 h
  have hr : rungI a < 9223372036854775808 := by unfold rungI; omega
  unfold mg ng
  refine ⟨Nat.mod_eq_of_lt hr, ?_⟩
  rw [Nat.div_eq_of_lt hr]; rfl
theorem read_fI {a : Nat} (h0 : a ≠ 0) (h : a < 131072) : Ieee.double.read (rungI a) = .number false (sh a * 2 ^ 36) ((a.log2 : Int) - 52) := by
  have hl := log2_le h0 h
  have hb := sh_bounds h0 h
  obtain ⟨hm, hn⟩ := rungI_mg h0 h
  rw [read_eq, hm, hn]
  have e1 : rungI a / 4503599627370496 = a.log2 + 1023 := by unfold rungI; omega
  have e2 : rungI a % 4503599627370496 = sh a * 2 ^ 36 - 4503599627370496 := by unfold rungI; omega
  rw [if_neg (by omega), if_pos (by unfold rungI; omega), e1, e2]
  rw [show 4503599627370496 + (sh a * 2 ^ 36 - 4503599627370496) = sh a * 2 ^ 36 by omega, show -1074 + ((a.log2 + 1023 - 1 : Nat) : Int) = (a.log2 : Int) - 52 by omega]
end Go.Proofs.Ytcmjcpgfnkhnoaa
