/- Floats: Mean of score and of its reference. -/
import Derived.Test.YtcmjcpgfnkhnoaaFlC
namespace Go.Proofs.Ytcmjcpgfnkhnoaa
open Go.RowKit

theorem kf_hi (x : Nat) : kf x ≤ 9223372036854775807 := by
  cases h : isN x
  · have := kf_num h; omega
  · rw [kf_nan h]; exact Int.le_refl _
theorem kf_eq {x y : Nat} (hx : x < 18446744073709551616) (hy : y < 18446744073709551616) (nx : isN x = false) (ny : isN y = false) (h : kf x = kf y) (h0 : kf x ≠ 0) : x = y := by
  unfold kf at h h0
  rw [nx] at h h0
  rw [ny] at h
  have a1 : x = mg x + (if ng x then 9223372036854775808 else 0) := by
    unfold mg ng
    cases e : (x / 9223372036854775808 % 2 == 1)
    · rw [beq_eq_false_iff_ne] at e
      show x = x % 9223372036854775808 + 0
      omega
    · rw [beq_iff_eq] at e
      show x = x % 9223372036854775808 + 9223372036854775808
      omega
  have a2 : y = mg y + (if ng y then 9223372036854775808 else 0) := by
    unfold mg ng
    cases e : (y / 9223372036854775808 % 2 == 1)
    · rw [beq_eq_false_iff_ne] at e
      show y = y % 9223372036854775808 + 0
      omega
    · rw [beq_iff_eq] at e
      show y = y % 9223372036854775808 + 9223372036854775808
      omega
  generalize mg x = r at *
  generalize mg y = s at *
  cases hx : ng x <;> cases hy : ng y <;> rw [hx] at h h0 a1 <;> rw [hy] at h a2 <;> simp at h h0 a1 a2 <;> omega
theorem plainF_lt {x : Nat} (h : x < 18446744073709551616) : plainF x < 18446744073709551616 := by unfold plainF; split <;> omega
theorem plainF_kf (x : Nat) : kf (plainF x) = kf x := by
  unfold plainF
  split
  · rename_i h; rw [h, kf_zero]
  · rfl
theorem clampF_lt {x lo hi : Nat} (h1 : x < 18446744073709551616) (h2 : lo < 18446744073709551616) (h3 : hi < 18446744073709551616) : clampF x lo hi < 18446744073709551616 := by
  unfold clampF
  split
  · exact plainF_lt h3
  · split
    · exact plainF_lt h2
    · exact plainF_lt h1
theorem clampF_kf (x lo hi : Nat) (h : kf lo ≤ kf hi) : kf lo ≤ kf (clampF x lo hi) ∧ kf (clampF x lo hi) ≤ kf hi := by
  unfold clampF
  split
  · rw [plainF_kf]; omega
  · split
    · rw [plainF_kf]; omega
    · rw [plainF_kf]; omega
theorem isN_of_kf {x : Nat} (h : kf x < 9223372036854775807) : isN x = false := by
  cases e : isN x
  · rfl
  · rw [kf_nan e] at h; omega
theorem mg_of_kf {x : Nat} (h0 : 0 ≤ kf x) (h : kf x < 9218868437227405312) : mg x < 9218868437227405312 := by
  have e := isN_of_kf (x := x) (by omega)
  unfold kf at h h0
  rw [e] at h h0
  cases g : ng x <;> rw [g] at h h0 <;> simp at h h0 <;> omega
theorem far_mg {x : Nat} (hn : isN x = false) (h : farF x = false) : mg x < 9218868437227405312 := by
  have : mg x ≤ 9218868437227405312 := by simpa [isN] using hn
  have h2 : mg x ≠ 9218868437227405312 := by simpa [farF] using h
  omega

/-- What a clamp to two numbers comes to, whichever of the equal ones are named. -/
theorem clampF_same {x a b c d : Nat} (h : plainF a = plainF c) (h' : plainF b = plainF d) (k : kf a = kf c) (k' : kf b = kf d) : clampF x a b = clampF x c d := by
  unfold clampF
  rw [h, h', k, k']
theorem plainF_same {x y : Nat} (hx : x < 18446744073709551616) (hy : y < 18446744073709551616) (nx : isN x = false) (ny : isN y = false) (h : kf x = kf y) : plainF x = plainF y := by
  unfold plainF
  rw [← h]
  split
  · rfl
  · rename_i h0
    exact kf_eq hx hy nx ny h h0

end Go.Proofs.Ytcmjcpgfnkhnoaa
