/- Floats: Compare, Plain, Clamp of score and of its reference; Far; IsInf. -/
import Derived.Test.YtcmjcpgfnkhnoaaFlA
namespace Go.Proofs.Ytcmjcpgfnkhnoaa
open Go.RowKit

def cmpF (a b : Nat) : Int := if kf a < kf b then -1 else if kf b < kf a then 1 else 0
def plainF (x : Nat) : Nat := if kf x = 0 then 0 else x
def clampF (x lo hi : Nat) : Nat := if kf hi < kf x then plainF hi else if kf x < kf lo then plainF lo else plainF x
def farF (x : Nat) : Bool := mg x == 9218868437227405312

theorem kf_zero : kf 0 = 0 := by decide
theorem isN_zero : isN 0 = false := by decide
theorem eq0 (x : Nat) : (FloatKind.f64.format.order x 0 == some .eq) = decide (kf x = 0) := by
  rw [ord_eq, kf_zero, isN_zero]
  cases hx : isN x
  · simp
  · simp [kf_nan hx]
theorem compare5 (a b : Nat) (w : World) : Calls Try.prog 40 #[.float .f64 a, .float .f64 b] w fun e w' => e = .returned (.int .i64 (cmpF a b)) ∧ w' = w := by
  have hc : cmpF a b = if decide (kf a < kf b) = true then -1 else if decide (kf b < kf a) = true then 1 else 0 := by simp [cmpF]
  have h1 := before5 a b
  have h2 := before5 b a
  rw [hc]
  clear hc
  generalize decide (kf a < kf b) = s at *
  generalize decide (kf b < kf a) = t at *
  cases s <;> cases t <;> (
  go_enter Try.func40, Try.ntmps40
  go_wp2_with fail
  refine (h1 _).mono ?_
  rintro e w' ⟨rfl, rfl⟩
  go_wp2_with fail
  first
  | (go_ret; exact ⟨rfl, rfl⟩)
  | (refine (h2 _).mono ?_
     rintro e w' ⟨rfl, rfl⟩
     go_wp2_with fail
     go_ret
     exact ⟨rfl, rfl⟩))
theorem plain3 (x : Nat) (w : World) : Calls Try.prog 46 #[.float .f64 x] w fun e w' => e = .returned (.float .f64 (plainF x)) ∧ w' = w := by
  have h := eq0 x
  unfold plainF
  by_cases hk : kf x = 0
  · rw [decide_eq_true hk] at h
    rw [if_pos hk]
    clear hk
    go_enter Try.func46, Try.ntmps46
    go_wp2
    go_ret
    exact ⟨rfl, rfl⟩
  · rw [decide_eq_false hk] at h
    rw [if_neg hk]
    clear hk
    go_enter Try.func46, Try.ntmps46
    go_wp2
    go_ret
    exact ⟨rfl, rfl⟩
end Go.Proofs.Ytcmjcpgfnkhnoaa
