/- The quotient of two small whole numbers as a float: its word. -/
import Derived.Test.YtcmjcpgfnkhnoaaFlX
namespace Go.Proofs.Ytcmjcpgfnkhnoaa
open Go.RowKit

theorem div_raw {a w : Nat} (a0 : a ≠ 0) (a1 : a < 131072) (w0 : w ≠ 0) (w1 : w < 131072) :
    floatBits .quo .f64 (rungI a) (rungI w) = some (Ieee.double.nearest false (2 * (sh a * 2 ^ 54 / sh w) + (sh a * 2 ^ 54 % sh w != 0).toNat) ((a.log2 : Int) - w.log2 - 55)) := by
  have hwb := sh_bounds w0 w1
  have ga := sh_log2 a0 a1
  have gw := sh_log2 w0 w1
  have hn : ¬ sh w * 2 ^ 36 = 0 := by omega
  have hp : 0 < 2 ^ 36 := by decide
  show ((Ieee.double.read (rungI a)).quotient 54 (Ieee.double.read (rungI w))).map Ieee.double.write = _
  rw [read_fI a0 a1, read_fI w0 w1]
  show (if sh w * 2 ^ 36 = 0 then (if sh a * 2 ^ 36 = 0 then none else some (Ieee.Datum.infinity (false ^^ false))) else some (Ieee.Datum.number (false ^^ false) (2 * (((sh a * 2 ^ 36) <<< (54 + (sh w * 2 ^ 36).log2 - (sh a * 2 ^ 36).log2)) / (sh w * 2 ^ 36)) + (((sh a * 2 ^ 36) <<< (54 + (sh w * 2 ^ 36).log2 - (sh a * 2 ^ 36).log2)) % (sh w * 2 ^ 36) != 0).toNat) ((a.log2 : Int) - 52 - ((w.log2 : Int) - 52) - ((54 + (sh w * 2 ^ 36).log2 - (sh a * 2 ^ 36).log2 : Nat) : Int) - 1))).map Ieee.double.write = _
  rw [if_neg hn, ga, gw, Nat.shiftLeft_eq, Nat.mul_right_comm, Nat.mul_div_mul_right _ _ hp, Nat.mul_mod_mul_right]
  have hb : (sh a * 2 ^ (54 + 52 - 52) % sh w * 2 ^ 36 != 0) = (sh a * 2 ^ 54 % sh w != 0) := by
    show (sh a * 2 ^ 54 % sh w * 2 ^ 36 != 0) = (sh a * 2 ^ 54 % sh w != 0)
    generalize sh a * 2 ^ 54 % sh w = r
    cases r with
    | zero => rfl
    | succ r =>
      have h1 : (r + 1 != 0) = true := by simp
      have h2 : ((r + 1) * 2 ^ 36 != 0) = true := by rw [bne_iff_ne]; exact Nat.mul_ne_zero (Nat.succ_ne_zero r) (by decide)
      rw [h1, h2]
  rw [hb, show (a.log2 : Int) - 52 - ((w.log2 : Int) - 52) - ((54 + 52 - 52 : Nat) : Int) - 1 = (a.log2 : Int) - w.log2 - 55 by omega]
  rfl
theorem log2_in {m k : Nat} (h1 : 2 ^ k ≤ m) (h2 : m < 2 ^ (k + 1)) : m.log2 = k := by
  have hp : 0 < 2 ^ k := Nat.two_pow_pos k
  have h0 : m ≠ 0 := by omega
  have e1 := (Nat.le_log2 h0).2 h1
  have e2 := (Nat.log2_lt h0).2 h2
  omega
theorem q_ge (Q : Nat) {a n : Nat} (hn : 0 < n) (h : n ≤ a) : Q ≤ a * Q / n :=
  (Nat.le_div_iff_mul_le hn).2 (by rw [Nat.mul_comm]; exact Nat.mul_le_mul_right Q h)
theorem q_lt (Q : Nat) {a n k : Nat} (hn : 0 < n) (hQ : 0 < Q) (h : a < k * n) : a * Q / n < k * Q :=
  (Nat.div_lt_iff_lt_mul hn).2 (by rw [Nat.mul_right_comm]; exact Nat.mul_lt_mul_of_pos_right h hQ)
theorem q_ge1 (Q : Nat) {a n : Nat} (hn : 0 < n) (h : n ≤ 2 * a) : Q ≤ a * (2 * Q) / n :=
  (Nat.le_div_iff_mul_le hn).2 (by rw [Nat.mul_comm, ← Nat.mul_assoc, Nat.mul_comm a 2]; exact Nat.mul_le_mul_right Q h)
theorem rk_top {B M n : Nat} (hn : 0 < n) (hM : M < 2 * n) : rk B M n ≤ 2 * B := by
  obtain ⟨h1, _⟩ := rk_near B M n hn
  apply Decidable.byContradiction
  intro hh
  have e1 := Nat.mul_le_mul_right n (show 2 * B + 1 ≤ rk B M n by omega)
  have e2 := Nat.mul_le_mul_right B (show M ≤ 2 * n by omega)
  have e3 : (2 * B + 1) * n = 2 * n * B + n := by rw [Nat.add_mul, Nat.one_mul, Nat.mul_right_comm]
  rw [e3] at e1
  generalize 2 * n * B = x at *
  generalize M * B = y at *
  generalize rk B M n * n = z at *
  omega
theorem near_key (mag d L R : Nat) (place : Int) (G : Nat) (h0 : mag ≠ 0) (hl : mag.log2 = L) (hL : L = 52 + d) (hp : place + d = (G : Int) - 92) (hG : G ≤ 60) (hR : R ≤ 9007199254740992) (hc : Ieee.Toward.even.cut false mag d = R) :
    Ieee.double.nearest false mag place = 982 * 4503599627370496 + (G * 4503599627370496 + R) := by
  rw [near_eq mag place d L h0 hl (by omega) (by omega), hc]
  rw [show (place + (d : Int) + 1074).toNat = 982 + G by omega]
  have hm : ∀ X : Nat, X ≤ 9218868437227405312 → min X 9218868437227405312 = X := fun X h => Nat.min_eq_left h
  rw [hm _ (by omega)]
  omega
theorem cut_8 (mag : Nat) (h : 3 ≤ mag.log2 + 2) : Ieee.Toward.even.cut false mag 3 = mag / 8 + (decide (8 < 2 * (mag % 8)) || (8 == 2 * (mag % 8)) && (mag / 8 % 2 == 1)).toNat := cut_form mag 3 h
theorem cut_4 (mag : Nat) (h : 2 ≤ mag.log2 + 2) : Ieee.Toward.even.cut false mag 2 = mag / 4 + (decide (4 < 2 * (mag % 4)) || (4 == 2 * (mag % 4)) && (mag / 4 % 2 == 1)).toNat := cut_form mag 2 h
theorem core_ge (q s R : Nat) (place : Int) (G : Nat) (hs : s ≤ 1) (q1 : 2 ^ 54 ≤ q) (q2 : q < 2 * 2 ^ 54) (hp : place + 3 = (G : Int) - 92) (hG : G ≤ 60) (ht : R ≤ 9007199254740992)
    (hk : (2 * q + s) / 8 + (decide (8 < 2 * ((2 * q + s) % 8)) || (8 == 2 * ((2 * q + s) % 8)) && ((2 * q + s) / 8 % 2 == 1)).toNat = R) :
    Ieee.double.nearest false (2 * q + s) place = 982 * 4503599627370496 + (G * 4503599627370496 + R) := by
  have hl : (2 * q + s).log2 = 55 := log2_in (by omega) (by omega)
  exact near_key (2 * q + s) 3 55 R place G (by omega) hl rfl hp hG ht ((cut_8 _ (by omega)).trans hk)
theorem core_lt (q s R : Nat) (place : Int) (G : Nat) (hs : s ≤ 1) (q1 : 2 ^ 53 ≤ q) (q2 : q < 1 * 2 ^ 54) (hp : place + 2 = (G : Int) - 92) (hG : G ≤ 60) (ht : R ≤ 9007199254740992)
    (hk : (2 * q + s) / 4 + (decide (4 < 2 * ((2 * q + s) % 4)) || (4 == 2 * ((2 * q + s) % 4)) && ((2 * q + s) / 4 % 2 == 1)).toNat = R) :
    Ieee.double.nearest false (2 * q + s) place = 982 * 4503599627370496 + (G * 4503599627370496 + R) := by
  have hl : (2 * q + s).log2 = 54 := log2_in (by omega) (by omega)
  exact near_key (2 * q + s) 2 54 R place G (by omega) hl rfl hp hG ht ((cut_4 _ (by omega)).trans hk)
theorem one_bit (b : Bool) : b.toNat ≤ 1 := by cases b <;> decide
theorem near_ge {sa sw : Nat} (hw1 : 65536 ≤ sw) (hc : sw ≤ sa) (h2 : sa < 2 * sw) (place : Int) (G : Nat) (hp : place + 3 = (G : Int) - 92) (hG : G ≤ 60) :
    Ieee.double.nearest false (2 * (sa * 2 ^ 54 / sw) + (sa * 2 ^ 54 % sw != 0).toNat) place = 982 * 4503599627370496 + (G * 4503599627370496 + rk 4503599627370496 sa sw) := by
  have hn : 0 < sw := by omega
  have hk := rk_cut3 4503599627370496 (sa * 9007199254740992) sw hn sa rfl
  have e54 : sa * 2 ^ 54 = 2 * (sa * 9007199254740992) := by omega
  rw [← e54] at hk
  exact core_ge _ _ _ place G (one_bit _) (q_ge (2 ^ 54) hn hc) (q_lt (2 ^ 54) hn (by decide) h2) hp hG (rk_top (B := 4503599627370496) hn h2) hk
theorem near_lt {sa sw : Nat} (hw1 : 65536 ≤ sw) (hc : sa < sw) (h2 : sw ≤ 2 * sa) (place : Int) (G : Nat) (hp : place + 2 = (G : Int) - 92) (hG : G ≤ 60) :
    Ieee.double.nearest false (2 * (sa * 2 ^ 54 / sw) + (sa * 2 ^ 54 % sw != 0).toNat) place = 982 * 4503599627370496 + (G * 4503599627370496 + rk 4503599627370496 (2 * sa) sw) := by
  have hn : 0 < sw := by omega
  have e53 : (2 : Nat) ^ 54 = 2 * 2 ^ 53 := by decide
  have q1 := q_ge1 (2 ^ 53) hn h2
  rw [← e53] at q1
  have h1 : sa < 1 * sw := by omega
  have hk := rk_cut2 4503599627370496 (sa * 2 ^ 54) sw (2 * sa) (by omega)
  exact core_lt _ _ _ place G (one_bit _) q1 (q_lt (2 ^ 54) hn (by decide) h1) hp hG (rk_top (B := 4503599627370496) (M := 2 * sa) hn (by omega)) hk
theorem sh_cross (a w x y G : Nat) (h : x + 40 = y + G) : a * (w * 2 ^ x) * 2 ^ 40 = w * (a * 2 ^ y) * 2 ^ G := by
  rw [← Nat.mul_assoc a, ← Nat.mul_assoc w, Nat.mul_comm w a, Nat.mul_assoc (a * w), Nat.mul_assoc (a * w), ← Nat.pow_add, ← Nat.pow_add, h]
/-- THE QUOTIENT's WORD: in the order of the fractions. -/
theorem div_key {a w : Nat} (a0 : a ≠ 0) (a1 : a < 131072) (w0 : w ≠ 0) (w1 : w < 131072) :
    ∃ M n G, 0 < n ∧ n < 131072 ∧ n ≤ M ∧ M < 2 * n ∧ G ≤ 60 ∧ a * n * 2 ^ 40 = w * M * 2 ^ G ∧
      floatBits .quo .f64 (rungI a) (rungI w) = some (982 * 4503599627370496 + (G * 4503599627370496 + rk 4503599627370496 M n)) := by
  have hla := log2_le a0 a1
  have hlw := log2_le w0 w1
  obtain ⟨ha1, ha2⟩ := sh_bounds a0 a1
  obtain ⟨hw1, hw2⟩ := sh_bounds w0 w1
  have hraw := div_raw a0 a1 w0 w1
  have hea : sh a = a * 2 ^ (16 - a.log2) := rfl
  have hew : sh w = w * 2 ^ (16 - w.log2) := rfl
  by_cases hc : sh w ≤ sh a
  · refine ⟨sh a, sh w, a.log2 + 40 - w.log2, by omega, by omega, hc, by omega, by omega, ?_, ?_⟩
    · rw [hea, hew]; exact sh_cross _ _ _ _ _ (by omega)
    · rw [hraw]; exact congrArg some (near_ge hw1 hc (by omega) _ _ (by omega) (by omega))
  · refine ⟨2 * sh a, sh w, a.log2 + 39 - w.log2, by omega, by omega, by omega, by omega, by omega, ?_, ?_⟩
    · have e1 : 2 * (a * 2 ^ (16 - a.log2)) = a * 2 ^ (17 - a.log2) := by
        rw [show 17 - a.log2 = (16 - a.log2) + 1 by omega, Nat.pow_succ, Nat.mul_left_comm, Nat.mul_comm 2]
      rw [hea, hew, e1]; exact sh_cross _ _ _ _ _ (by omega)
    · rw [hraw]; exact congrArg some (near_lt hw1 (by omega) (by omega) _ _ (by omega) (by omega))
/-- A float's place: a quotient's. -/
def qk (a w : Nat) : Nat := (floatBits .quo .f64 (rungI a) (rungI w)).getD 0
theorem getD_of {o : Option Nat} {x : Nat} (h : o = some x) : o = some (o.getD 0) ∧ o.getD 0 = x := by subst h; exact ⟨rfl, rfl⟩
theorem qk_bits {a w : Nat} (a0 : a ≠ 0) (a1 : a < 131072) (w0 : w ≠ 0) (w1 : w < 131072) : floatBits .quo .f64 (rungI a) (rungI w) = some (qk a w) := by
  obtain ⟨M, n, G, _, _, _, _, _, _, h⟩ := div_key a0 a1 w0 w1
  exact (getD_of h).1
theorem qk_val {a w : Nat} {x : Nat} (h : floatBits .quo .f64 (rungI a) (rungI w) = some x) : qk a w = x := (getD_of h).2
theorem qk_kf {a w : Nat} (a0 : a ≠ 0) (a1 : a < 131072) (w0 : w ≠ 0) (w1 : w < 131072) : kf (qk a w) = (qk a w : Int) ∧ isN (qk a w) = false ∧ qk a w < 9223372036854775808 ∧ qk a w ≠ 0 := by
  obtain ⟨M, n, G, hn, _, hM1, hM, hG, _, h⟩ := div_key a0 a1 w0 w1
  have hq := qk_val h
  have ht := rk_top (B := 4503599627370496) hn hM
  have hlt : qk a w < 9218868437227405312 := by omega
  have hmg : mg (qk a w) = qk a w := Nat.mod_eq_of_lt (by omega)
  have hng : ng (qk a w) = false := by unfold ng; rw [Nat.div_eq_of_lt (by omega)]; rfl
  have hisn : isN (qk a w) = false := by unfold isN; rw [hmg]; exact decide_eq_false (by omega)
  refine ⟨?_, hisn, by omega, by omega⟩
  unfold kf
  rw [hisn, hng, hmg]; rfl
theorem frac_pow {a1 w1 a2 w2 M1 n1 G1 M2 n2 G2 : Nat} (h1 : a1 * n1 * 2 ^ 40 = w1 * M1 * 2 ^ G1) (h2 : a2 * n2 * 2 ^ 40 = w2 * M2 * 2 ^ G2) :
    M1 * n2 * 2 ^ G1 * (w1 * w2) = a1 * w2 * (n1 * n2 * 2 ^ 40) ∧ M2 * n1 * 2 ^ G2 * (w1 * w2) = a2 * w1 * (n1 * n2 * 2 ^ 40) := by
  constructor
  · calc M1 * n2 * 2 ^ G1 * (w1 * w2) = (w1 * M1 * 2 ^ G1) * (n2 * w2) := by simp only [Nat.mul_comm, Nat.mul_left_comm, Nat.mul_assoc]
      _ = a1 * n1 * 2 ^ 40 * (n2 * w2) := by rw [h1]
      _ = a1 * w2 * (n1 * n2 * 2 ^ 40) := by simp only [Nat.mul_comm, Nat.mul_left_comm, Nat.mul_assoc]
  · calc M2 * n1 * 2 ^ G2 * (w1 * w2) = (w2 * M2 * 2 ^ G2) * (n1 * w1) := by simp only [Nat.mul_comm, Nat.mul_left_comm, Nat.mul_assoc]
      _ = a2 * n2 * 2 ^ 40 * (n1 * w1) := by rw [h2]
      _ = a2 * w1 * (n1 * n2 * 2 ^ 40) := by simp only [Nat.mul_comm, Nat.mul_left_comm, Nat.mul_assoc]
theorem qk_lt {a w b v : Nat} (a0 : a ≠ 0) (a1 : a < 131072) (w0 : w ≠ 0) (w1 : w < 131072) (b0 : b ≠ 0) (b1 : b < 131072) (v0 : v ≠ 0) (v1 : v < 131072) (h : a * v < b * w) : qk a w < qk b v := by
  obtain ⟨M, n, G, hn, hn2, hM1, hM2, _, he, hq⟩ := div_key a0 a1 w0 w1
  obtain ⟨N, m, J, hm, hm2, hN1, hN2, _, hf, hr⟩ := div_key b0 b1 v0 v1
  obtain ⟨e1, e2⟩ := frac_pow he hf
  have hpos : 0 < n * m * 2 ^ 40 := Nat.mul_pos (Nat.mul_pos hn hm) (by decide)
  have hlt : M * m * 2 ^ G < N * n * 2 ^ J := by
    have := Nat.mul_lt_mul_of_pos_right h hpos
    rw [← e1, ← e2] at this
    exact Nat.lt_of_mul_lt_mul_right this
  have := rk_less (B := 4503599627370496) (by decide) hn hm hn2 hm2 hM1 hM2 hN1 hN2 hlt
  have q1 := qk_val hq
  have q2 := qk_val hr
  omega
theorem qk_eq {a w b v : Nat} (a0 : a ≠ 0) (a1 : a < 131072) (w0 : w ≠ 0) (w1 : w < 131072) (b0 : b ≠ 0) (b1 : b < 131072) (v0 : v ≠ 0) (v1 : v < 131072) (h : a * v = b * w) : qk a w = qk b v := by
  obtain ⟨M, n, G, hn, hn2, hM1, hM2, _, he, hq⟩ := div_key a0 a1 w0 w1
  obtain ⟨N, m, J, hm, hm2, hN1, hN2, _, hf, hr⟩ := div_key b0 b1 v0 v1
  obtain ⟨e1, e2⟩ := frac_pow he hf
  have hpos : 0 < w * v := Nat.mul_pos (by omega) (by omega)
  have heq : M * m * 2 ^ G = N * n * 2 ^ J := by
    have : M * m * 2 ^ G * (w * v) = N * n * 2 ^ J * (w * v) := by rw [e1, e2, h]
    exact Nat.eq_of_mul_eq_mul_right hpos this
  have := rk_same (B := 4503599627370496) hn hm hM1 hM2 hN1 hN2 heq
  have q1 := qk_val hq
  have q2 := qk_val hr
  omega
end Go.Proofs.Ytcmjcpgfnkhnoaa
