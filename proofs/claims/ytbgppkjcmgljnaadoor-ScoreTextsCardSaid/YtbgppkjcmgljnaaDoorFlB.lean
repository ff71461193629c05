/- Floats: Compare, Plain, Clamp of score and of its reference; Far; IsInf. -/
import Derived.Test.YtbgppkjcmgljnaaDoorFlA
namespace Go.Proofs.YtbgppkjcmgljnaaDoor
open Go.RowKit

def cmpF (a b : Nat) : Int := if kf a < kf b then -1 else if kf b < kf a then 1 else 0
def plainF (x : Nat) : Nat := if kf x = 0 then 0 else x
def clampF (x lo hi : Nat) : Nat := if kf hi < kf x then plainF hi else if kf x < kf lo then plainF lo else plainF x
def farF (x : Nat) : Bool := mg x == 9218868437227405312

theorem kf_zero : kf 0 = 0 := by decide
theorem isN_zero : isN 0 = false := by decide
theorem eq0 (x : Nat) : (FloatKind.f64.format.order x 0 == some .eq) = decide (kf x = 0) := by
  rw [ord_eq, kf_zero, isN_zero]
  cases hx : isN x
  · simp
  · simp [kf_nan hx]
theorem compare5 (a b : Nat) (w : World) : Calls Tryd.prog 9 #[.float .f64 a, .float .f64 b] w fun e w' => e = .returned (.int .i64 (cmpF a b)) ∧ w' = w := by
  have hc : cmpF a b = if decide (kf a < kf b) = true then -1 else if decide (kf b < kf a) = true then 1 else 0 := by simp [cmpF]
  have h1 := before5 a b
  have h2 := before5 b a
  rw [hc]
  clear hc
  generalize decide (kf a < kf b) = s at *
  generalize decide (kf b < kf a) = t at *
  cases s <;> cases t <;> (
  go_enter Tryd.func9, Tryd.ntmps9
  go_wp2_with fail
  refine (h1 _).mono ?_
  rintro e w' ⟨rfl, rfl⟩
  go_wp2_with fail
  first
  | (go_ret; exact ⟨rfl, rfl⟩)
  | (refine (h2 _).mono ?_
     rintro e w' ⟨rfl, rfl⟩
     go_wp2_with fail
     go_ret
     exact ⟨rfl, rfl⟩))
theorem rcompare5 (a b : Nat) (ha : a < 18446744073709551616) (hb : b < 18446744073709551616) (w : World) : Calls Tryd.prog 10 #[.float .f64 a, .float .f64 b] w fun e w' => e = .returned (.int .i64 (cmpF a b)) ∧ w' = w := by
  have h1 := key4 a ha
  have h2 := key4 b hb
  unfold cmpF
  generalize kf a = s at *
  generalize kf b = t at *
  clear ha hb
  rcases Int.lt_trichotomy s t with h | h | h
  · rw [if_pos h]
    go_enter Tryd.func10, Tryd.ntmps10
    go_wp2_with (first | (with_reducible refine (h1 _).mono ?_; rintro e w' ⟨rfl, rfl⟩) | (with_reducible refine (h2 _).mono ?_; rintro e w' ⟨rfl, rfl⟩))
    go_ret
    exact ⟨rfl, rfl⟩
  · subst h
    rw [if_neg (Int.lt_irrefl _), if_neg (Int.lt_irrefl _)]
    go_enter Tryd.func10, Tryd.ntmps10
    go_wp2_with (first | (with_reducible refine (h1 _).mono ?_; rintro e w' ⟨rfl, rfl⟩) | (with_reducible refine (h2 _).mono ?_; rintro e w' ⟨rfl, rfl⟩))
    go_ret
    exact ⟨rfl, rfl⟩
  · rw [if_neg (by omega), if_pos h]
    go_enter Tryd.func10, Tryd.ntmps10
    go_wp2_with (first | (with_reducible refine (h1 _).mono ?_; rintro e w' ⟨rfl, rfl⟩) | (with_reducible refine (h2 _).mono ?_; rintro e w' ⟨rfl, rfl⟩))
    go_ret
    exact ⟨rfl, rfl⟩
theorem plain3 (x : Nat) (w : World) : Calls Tryd.prog 28 #[.float .f64 x] w fun e w' => e = .returned (.float .f64 (plainF x)) ∧ w' = w := by
  have h := eq0 x
  unfold plainF
  by_cases hk : kf x = 0
  · rw [decide_eq_true hk] at h
    rw [if_pos hk]
    clear hk
    go_enter Tryd.func28, Tryd.ntmps28
    go_wp2
    go_ret
    exact ⟨rfl, rfl⟩
  · rw [decide_eq_false hk] at h
    rw [if_neg hk]
    clear hk
    go_enter Tryd.func28, Tryd.ntmps28
    go_wp2
    go_ret
    exact ⟨rfl, rfl⟩
theorem rplain3 (x : Nat) (hx : x < 18446744073709551616) (w : World) : Calls Tryd.prog 31 #[.float .f64 x] w fun e w' => e = .returned (.float .f64 (plainF x)) ∧ w' = w := by
  have hf := frombits29 0
  have h1 := key4 x hx
  unfold plainF
  generalize kf x = s at *
  clear hx
  by_cases hk : s = 0
  · rw [if_pos hk]
    subst hk
    go_enter Tryd.func31, Tryd.ntmps31
    go_wp2_with (with_reducible refine (h1 _).mono ?_; rintro e w' ⟨rfl, rfl⟩)
    go_ret
    exact ⟨rfl, rfl⟩
  · have hb : (s == 0) = false := by simpa using hk
    rw [if_neg hk]
    clear hk
    go_enter Tryd.func31, Tryd.ntmps31
    go_wp2_with (with_reducible refine (h1 _).mono ?_; rintro e w' ⟨rfl, rfl⟩)
    go_ret
    exact ⟨rfl, rfl⟩
theorem clamp5 (x lo hi : Nat) (w : World) : Calls Tryd.prog 26 #[.float .f64 x, .float .f64 lo, .float .f64 hi] w fun e w' => e = .returned (.float .f64 (clampF x lo hi)) ∧ w' = w := by
  have hc : clampF x lo hi = if decide (kf hi < kf x) = true then plainF hi else if decide (kf x < kf lo) = true then plainF lo else plainF x := by simp [clampF]
  have h1 := before5 hi x
  have h2 := before5 x lo
  have p1 := plain3 hi
  have p2 := plain3 lo
  have p3 := plain3 x
  rw [hc]
  clear hc
  generalize decide (kf hi < kf x) = s at *
  generalize decide (kf x < kf lo) = t at *
  generalize plainF hi = y1 at *
  generalize plainF lo = y2 at *
  generalize plainF x = y3 at *
  cases s <;> cases t <;> (
  go_enter Tryd.func26, Tryd.ntmps26
  go_wp2_with fail
  refine (h1 _).mono ?_
  rintro e w' ⟨rfl, rfl⟩
  go_wp2_with fail
  first
  | (with_reducible refine (p1 _).mono ?_
     rintro e w' ⟨rfl, rfl⟩
     go_wp2_with fail
     go_ret
     exact ⟨rfl, rfl⟩)
  | (refine (h2 _).mono ?_
     rintro e w' ⟨rfl, rfl⟩
     go_wp2_with fail
     first
     | (with_reducible refine (p2 _).mono ?_
        rintro e w' ⟨rfl, rfl⟩
        go_wp2_with fail
        go_ret
        exact ⟨rfl, rfl⟩)
     | (with_reducible refine (p3 _).mono ?_
        rintro e w' ⟨rfl, rfl⟩
        go_wp2_with fail
        go_ret
        exact ⟨rfl, rfl⟩)))
theorem rclamp5 (x lo hi : Nat) (hx : x < 18446744073709551616) (hl : lo < 18446744073709551616) (hh : hi < 18446744073709551616) (w : World) : Calls Tryd.prog 30 #[.float .f64 x, .float .f64 lo, .float .f64 hi] w fun e w' => e = .returned (.float .f64 (clampF x lo hi)) ∧ w' = w := by
  have k1 := key4 x hx
  have k2 := key4 lo hl
  have k3 := key4 hi hh
  have p1 := rplain3 hi hh
  have p2 := rplain3 lo hl
  have p3 := rplain3 x hx
  unfold clampF
  clear hx hl hh
  generalize plainF hi = y1 at *
  generalize plainF lo = y2 at *
  generalize plainF x = y3 at *
  generalize kf x = s at *
  generalize kf lo = t at *
  generalize kf hi = u at *
  by_cases h1 : u < s
  · rw [if_pos h1]
    go_enter Tryd.func30, Tryd.ntmps30
    go_wp2_with (first | (with_reducible refine (k1 _).mono ?_; rintro e w' ⟨rfl, rfl⟩) | (with_reducible refine (k3 _).mono ?_; rintro e w' ⟨rfl, rfl⟩) | (with_reducible refine (p1 _).mono ?_; rintro e w' ⟨rfl, rfl⟩))
    go_ret
    exact ⟨rfl, rfl⟩
  · rw [if_neg h1]
    by_cases h2 : s < t
    · rw [if_pos h2]
      go_enter Tryd.func30, Tryd.ntmps30
      go_wp2_with (first | (with_reducible refine (k1 _).mono ?_; rintro e w' ⟨rfl, rfl⟩) | (with_reducible refine (k3 _).mono ?_; rintro e w' ⟨rfl, rfl⟩) | (with_reducible refine (k2 _).mono ?_; rintro e w' ⟨rfl, rfl⟩) | (with_reducible refine (p2 _).mono ?_; rintro e w' ⟨rfl, rfl⟩))
      go_ret
      exact ⟨rfl, rfl⟩
    · rw [if_neg h2]
      go_enter Tryd.func30, Tryd.ntmps30
      go_wp2_with (first | (with_reducible refine (k1 _).mono ?_; rintro e w' ⟨rfl, rfl⟩) | (with_reducible refine (k3 _).mono ?_; rintro e w' ⟨rfl, rfl⟩) | (with_reducible refine (k2 _).mono ?_; rintro e w' ⟨rfl, rfl⟩) | (with_reducible refine (p3 _).mono ?_; rintro e w' ⟨rfl, rfl⟩))
      go_ret
      exact ⟨rfl, rfl⟩
theorem far3 (x : Nat) (hx : x < 18446744073709551616) (w : World) : Calls Tryd.prog 32 #[.float .f64 x] w fun e w' => e = .returned (.bool (farF x)) ∧ w' = w := by
  have hb := bits21 x
  have hm := and_mg x hx
  have hf : ((mg x : Int) == 9218868437227405312) = farF x := by
    unfold farF
    rw [Bool.eq_iff_iff, beq_iff_eq, beq_iff_eq]
    omega
  clear hx
  go_enter Tryd.func32, Tryd.ntmps32
  go_wp2
  go_ret
  exact ⟨rfl, rfl⟩
end Go.Proofs.YtbgppkjcmgljnaaDoor
