/- Floats by their bits: the order of two numbers is the order of two integers. -/
import Derived.Test.YtcmjcpgfnkhnoaaChecked
import Derived.Laws.FloatArith
namespace Go.Proofs.Ytcmjcpgfnkhnoaa

/-- The magnitude of a word. -/
def mg (x : Nat) : Nat := x % 9223372036854775808
/-- Its sign. -/
def ng (x : Nat) : Bool := x / 9223372036854775808 % 2 == 1
/-- Is it no number? -/
def isN (x : Nat) : Bool := decide (9218868437227405312 < mg x)
/-- A word's place in the order. -/
def kf (x : Nat) : Int := if isN x then 9223372036854775807 else if ng x then -(mg x : Int) else (mg x : Int)
/-- What a magnitude is worth, in units of the least one. -/
def vl (r : Nat) : Nat := if r < 4503599627370496 then r else (4503599627370496 + r % 4503599627370496) * 2 ^ (r / 4503599627370496 - 1)
def sv (x : Nat) : Int := if ng x then -(vl (mg x) : Int) else (vl (mg x) : Int)

theorem vl_lo (r : Nat) (h : 4503599627370496 ≤ r) : 4503599627370496 * 2 ^ (r / 4503599627370496 - 1) ≤ vl r := by
  unfold vl; rw [if_neg (by omega)]; exact Nat.mul_le_mul_right _ (by omega)
theorem vl_hi (r : Nat) : vl r < 4503599627370496 * 2 ^ (r / 4503599627370496) := by
  unfold vl
  split
  · rename_i h
    rw [Nat.div_eq_of_lt h]; omega
  · rename_i h
    have h1 : 1 ≤ r / 4503599627370496 := by omega
    obtain ⟨q, hq⟩ : ∃ q, r / 4503599627370496 = q + 1 := ⟨_, (Nat.sub_add_cancel h1).symm⟩
    rw [hq, Nat.add_sub_cancel, Nat.pow_succ]
    have h2 : r % 4503599627370496 < 4503599627370496 := Nat.mod_lt _ (by decide)
    have h3 : 0 < 2 ^ q := Nat.two_pow_pos q
    calc (4503599627370496 + r % 4503599627370496) * 2 ^ q < (4503599627370496 * 2) * 2 ^ q := Nat.mul_lt_mul_of_pos_right (by omega) h3
      _ = 4503599627370496 * (2 ^ q * 2) := by rw [Nat.mul_assoc, Nat.mul_comm 2]
theorem vl_mono {r s : Nat} (h : r < s) : vl r < vl s := by
  by_cases hq : r / 4503599627370496 = s / 4503599627370496
  · by_cases hr : s < 4503599627370496
    · unfold vl; rw [if_pos hr, if_pos (by omega)]; exact h
    · have h1 : ¬ r < 4503599627370496 := by omega
      unfold vl; rw [if_neg hr, if_neg h1, hq]
      exact Nat.mul_lt_mul_of_pos_right (by omega) (Nat.two_pow_pos _)
  · have h1 : r / 4503599627370496 ≤ s / 4503599627370496 - 1 := by omega
    have h2 : 4503599627370496 ≤ s := by omega
    exact Nat.lt_of_lt_of_le (vl_hi r) (Nat.le_trans (Nat.mul_le_mul_left _ (Nat.pow_le_pow_right (by decide) h1)) (vl_lo s h2))
theorem vl_zero : vl 0 = 0 := rfl
theorem vl_lt {r s : Nat} : vl r < vl s ↔ r < s :=
  ⟨fun h => Decidable.byContradiction fun hn => by
    rcases Nat.lt_or_eq_of_le (Nat.not_lt.1 hn) with h1 | h1
    · exact absurd h (Nat.not_lt.2 (Nat.le_of_lt (vl_mono h1)))
    · subst h1; exact Nat.lt_irrefl _ h, vl_mono⟩
theorem vl_eq {r s : Nat} : vl r = vl s ↔ r = s := by
  have h1 := @vl_lt r s
  have h2 := @vl_lt s r
  omega

theorem cmp_def (a b : Int) : compare a b = if a < b then .lt else if a = b then .eq else .gt := rfl
theorem cmp_mul (a b : Int) (c : Nat) (hc : 0 < c) : compare (a * c) (b * c) = compare a b := by
  have hc' : (0 : Int) < c := by omega
  rw [cmp_def, cmp_def]
  by_cases h : a < b
  · rw [if_pos h, if_pos (Int.mul_lt_mul_of_pos_right h hc')]
  · rw [if_neg h, if_neg (by
      intro hn
      exact h (Int.lt_of_mul_lt_mul_right hn (Int.le_of_lt hc')))]
    by_cases e : a = b
    · rw [if_pos e, if_pos (by rw [e])]
    · rw [if_neg e, if_neg (by
        intro hn
        exact e (Int.eq_of_mul_eq_mul_right (by omega) hn))]
theorem signed_add (s : Bool) (m a e : Nat) : Ieee.signed s m (a + e) = Ieee.signed s m a * ((2 ^ e : Nat) : Int) := by
  unfold Ieee.signed
  simp only [Nat.shiftLeft_eq]
  cases s
  · simp [Nat.pow_add, Int.mul_assoc]
  · simp [Nat.pow_add, Int.mul_assoc, Int.neg_mul]
theorem order_num (s t : Bool) (m n : Nat) (i j : Int) (hi : -1074 ≤ i) (hj : -1074 ≤ j) :
    (Ieee.Datum.number s m i).order (.number t n j) = some (compare (Ieee.signed s m (i + 1074).toNat) (Ieee.signed t n (j + 1074).toNat)) := by
  show some (compare (Ieee.signed s m (i - min i j).toNat) (Ieee.signed t n (j - min i j).toNat)) = _
  have h1 : (i + 1074).toNat = (i - min i j).toNat + (min i j + 1074).toNat := by omega
  have h2 : (j + 1074).toNat = (j - min i j).toNat + (min i j + 1074).toNat := by omega
  rw [h1, h2, signed_add, signed_add, cmp_mul _ _ _ (Nat.two_pow_pos _)]

theorem read_eq (x : Nat) : Ieee.double.read x =
    if mg x < 4503599627370496 then .number (ng x) (mg x) (-1074)
    else if mg x < 9218868437227405312 then .number (ng x) (4503599627370496 + mg x % 4503599627370496) (-1074 + ((mg x / 4503599627370496 - 1 : Nat) : Int))
    else if mg x = 9218868437227405312 then .infinity (ng x) else .nan (ng x) (mg x - 9218868437227405312) := rfl
theorem read_nan (x : Nat) (h : isN x = true) : Ieee.double.read x = .nan (ng x) (mg x - 9218868437227405312) := by
  have h : 9218868437227405312 < mg x := by simpa [isN] using h
  rw [read_eq, if_neg (by omega), if_neg (by omega), if_neg (by omega)]
theorem read_inf (x : Nat) (h : mg x = 9218868437227405312) : Ieee.double.read x = .infinity (ng x) := by
  rw [read_eq, if_neg (by omega), if_neg (by omega), if_pos h]
theorem read_num (x : Nat) (h : mg x < 9218868437227405312) :
    ∃ m i, Ieee.double.read x = .number (ng x) m i ∧ -1074 ≤ i ∧ m <<< (i + 1074).toNat = vl (mg x) := by
  rw [read_eq]
  by_cases h1 : mg x < 4503599627370496
  · rw [if_pos h1]
    exact ⟨_, _, rfl, by omega, by unfold vl; rw [if_pos h1]; rfl⟩
  · rw [if_neg h1, if_pos h]
    refine ⟨_, _, rfl, by omega, ?_⟩
    unfold vl
    rw [if_neg h1, Nat.shiftLeft_eq]
    congr 2
    omega
theorem vl_inf {r : Nat} (h : r < 9218868437227405312) : vl r < vl 9218868437227405312 := vl_mono h
theorem vl_pos {r : Nat} (h : 0 < r) : 0 < vl r := vl_mono h

theorem ord_sv (x y : Nat) (hx : isN x = false) (hy : isN y = false) : Ieee.double.order x y = some (compare (sv x) (sv y)) := by
  have hx : mg x ≤ 9218868437227405312 := by simpa [isN] using hx
  have hy : mg y ≤ 9218868437227405312 := by simpa [isN] using hy
  unfold Ieee.Format.order
  rcases Nat.lt_or_eq_of_le hx with h1 | h1
  · obtain ⟨m, i, e1, hi, v1⟩ := read_num x h1
    rcases Nat.lt_or_eq_of_le hy with h2 | h2
    · obtain ⟨n, j, e2, hj, v2⟩ := read_num y h2
      rw [e1, e2, order_num _ _ _ _ _ _ hi hj]
      unfold Ieee.signed sv
      rw [v1, v2]
    · rw [e1, read_inf y h2]
      show some (if ng y then Ordering.gt else .lt) = _
      have := vl_inf h1
      have := vl_pos (show 0 < 9218868437227405312 by decide)
      unfold sv
      rw [h2, cmp_def]
      generalize vl 9218868437227405312 = V at *
      generalize vl (mg x) = v at *
      cases ng x <;> cases ng y <;> simp <;> (try split) <;> first | rfl | omega | (split <;> first | rfl | omega)
  · rcases Nat.lt_or_eq_of_le hy with h2 | h2
    · obtain ⟨n, j, e2, hj, v2⟩ := read_num y h2
      rw [e2, read_inf x h1]
      show some (if ng x then Ordering.lt else .gt) = _
      have := vl_inf h2
      have := vl_pos (show 0 < 9218868437227405312 by decide)
      unfold sv
      rw [h1, cmp_def]
      generalize vl 9218868437227405312 = V at *
      generalize vl (mg y) = v at *
      cases ng x <;> cases ng y <;> simp <;> (try split) <;> first | rfl | omega | (split <;> first | rfl | omega)
    · rw [read_inf x h1, read_inf y h2]
      show some (compare (ng y).toNat (ng x).toNat) = _
      have := vl_pos (show 0 < 9218868437227405312 by decide)
      unfold sv
      rw [h1, h2, cmp_def]
      generalize vl 9218868437227405312 = V at *
      cases ng x <;> cases ng y <;> simp <;> (try split) <;> first | rfl | omega | (split <;> first | rfl | omega)
theorem sv_cmp (x y : Nat) (hx : isN x = false) (hy : isN y = false) : compare (sv x) (sv y) = compare (kf x) (kf y) := by
  have a1 := @vl_lt (mg x) (mg y)
  have a2 := @vl_lt (mg y) (mg x)
  have a3 := @vl_lt 0 (mg y)
  have a4 := @vl_lt 0 (mg x)
  rw [vl_zero] at a3 a4
  unfold sv kf
  rw [hx, hy, cmp_def, cmp_def]
  generalize vl (mg x) = v at *
  generalize vl (mg y) = u at *
  generalize mg x = r at *
  generalize mg y = s at *
  have e : ∀ (p q p' q' : Int), (p < q ↔ p' < q') → (p = q ↔ p' = q') → (if p < q then Ordering.lt else if p = q then .eq else .gt) = (if p' < q' then Ordering.lt else if p' = q' then .eq else .gt) := by
    intro p q p' q' h1 h2
    simp only [h1, h2]
  apply e <;> cases ng x <;> cases ng y <;> simp <;> omega

/-- THE ORDER OF TWO NUMBERS. -/
theorem ord_key (x y : Nat) (hx : isN x = false) (hy : isN y = false) : FloatKind.f64.format.order x y = some (compare (kf x) (kf y)) := by
  show Ieee.double.order x y = _
  rw [ord_sv x y hx hy, sv_cmp x y hx hy]
theorem ord_nan (x y : Nat) (h : isN x = true ∨ isN y = true) : FloatKind.f64.format.order x y = none := by
  show (Ieee.double.read x).order (Ieee.double.read y) = _
  rcases h with h | h
  · rw [read_nan x h]; rfl
  · rw [read_nan y h]; cases Ieee.double.read x <;> rfl
theorem ord_lt (x y : Nat) : (FloatKind.f64.format.order x y == some .lt) = (!isN x && !isN y && decide (kf x < kf y)) := by
  cases hx : isN x
  · cases hy : isN y
    · rw [ord_key x y hx hy, cmp_def]
      by_cases h : kf x < kf y
      · rw [if_pos h]; simp [h]
      · rw [if_neg h]; split <;> simp [h]
    · rw [ord_nan x y (.inr hy)]; simp
  · rw [ord_nan x y (.inl hx)]; simp
theorem ord_gt (x y : Nat) : (FloatKind.f64.format.order x y == some .gt) = (!isN x && !isN y && decide (kf y < kf x)) := by
  cases hx : isN x
  · cases hy : isN y
    · rw [ord_key x y hx hy, cmp_def]
      by_cases h : kf y < kf x
      · rw [if_neg (by omega), if_neg (by omega)]; simp [h]
      · by_cases h' : kf x < kf y
        · rw [if_pos h']; simp [h]
        · rw [if_neg h', if_pos (by omega)]; simp [h]
    · rw [ord_nan x y (.inr hy)]; simp
  · rw [ord_nan x y (.inl hx)]; simp
theorem ord_eq (x y : Nat) : (FloatKind.f64.format.order x y == some .eq) = (!isN x && !isN y && decide (kf x = kf y)) := by
  cases hx : isN x
  · cases hy : isN y
    · rw [ord_key x y hx hy, cmp_def]
      by_cases h : kf x = kf y
      · rw [if_neg (by omega), if_pos h]; simp [h]
      · rw [if_neg h]; split <;> simp [h]
    · rw [ord_nan x y (.inr hy)]; simp
  · rw [ord_nan x y (.inl hx)]; simp
theorem ord_ne (x y : Nat) : (FloatKind.f64.format.order x y != some .eq) = !(!isN x && !isN y && decide (kf x = kf y)) := by
  rw [← ord_eq]; rfl
theorem ord_ne_self (x : Nat) : (FloatKind.f64.format.order x x != some .eq) = isN x := by
  rw [ord_ne]; simp

theorem kf_nan {x : Nat} (h : isN x = true) : kf x = 9223372036854775807 := by unfold kf; rw [if_pos h]
theorem kf_num {x : Nat} (h : isN x = false) : -9218868437227405312 ≤ kf x ∧ kf x ≤ 9218868437227405312 := by
  unfold kf
  rw [h]
  have hx : mg x ≤ 9218868437227405312 := by simpa [isN] using h
  cases ng x <;> simp <;> omega
end Go.Proofs.Ytcmjcpgfnkhnoaa
