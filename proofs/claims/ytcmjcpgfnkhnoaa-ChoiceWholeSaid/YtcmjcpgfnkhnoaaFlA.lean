/- Floats: the small functions of package math, of score and of its reference. -/
import Derived.Test.YtcmjcpgfnkhnoaaBase
import Derived.Test.YtcmjcpgfnkhnoaaFlM
import Derived.Laws.Externs
import Derived.Laws.Cover2
import Derived.Laws.Bits64b
namespace Go.Proofs.Ytcmjcpgfnkhnoaa
open Go.RowKit

theorem frombits29 (n : Int) (w : World) : (callFunc 49 #[.int .u64 n]).run Try.prog w = .ok (.value (.float .f64 n.toNat)) w := by
  rw [run_callFunc_extern Try.func49 (by kernel_rfl) (by kernel_rfl) (by kernel_rfl) (e := Extern.MathFloatBits.float64frombits) (by kernel_rfl)]
  rfl
theorem isnan6 (x : Nat) (w : World) : Calls Try.prog 44 #[.float .f64 x] w fun e w' => e = .returned (.bool (isN x)) ∧ w' = w := by
  have h := ord_ne_self x
  go_enter Try.func44, Try.ntmps44
  go_wp2
  go_ret
  exact ⟨rfl, rfl⟩
theorem before5 (a b : Nat) (w : World) : Calls Try.prog 41 #[.float .f64 a, .float .f64 b] w fun e w' => e = .returned (.bool (decide (kf a < kf b))) ∧ w' = w := by
  have h := ord_lt a b
  cases na : isN a
  · cases nb : isN b
    · rw [na, nb] at h
      generalize decide (kf a < kf b) = t at *
      cases t <;> (
      go_enter Try.func41, Try.ntmps41
      go_wp2_with (go_at_call 44; refine (isnan6 _ _).mono ?_; rintro e w' ⟨rfl, rfl⟩)
      go_ret
      exact ⟨rfl, rfl⟩)
    · have k1 := kf_num na
      have k2 := kf_nan nb
      rw [decide_eq_true (show kf a < kf b by omega)]
      rw [na, nb] at h
      clear k1 k2
      go_enter Try.func41, Try.ntmps41
      go_wp2_with (go_at_call 44; refine (isnan6 _ _).mono ?_; rintro e w' ⟨rfl, rfl⟩)
      go_ret
      exact ⟨rfl, rfl⟩
  · have k1 := kf_nan na
    have k2 : kf b ≤ 9223372036854775807 := by
      cases nb : isN b
      · have := kf_num nb; omega
      · rw [kf_nan nb]; exact Int.le_refl _
    rw [decide_eq_false (show ¬ kf a < kf b by omega)]
    rw [na] at h
    clear k1 k2
    · go_enter Try.func41, Try.ntmps41
      go_wp2_with (go_at_call 44; refine (isnan6 _ _).mono ?_; rintro e w' ⟨rfl, rfl⟩)
      go_ret
      exact ⟨rfl, rfl⟩
theorem mg_lt (x : Nat) : mg x < 9223372036854775808 := Nat.mod_lt _ (by decide)
theorem and_mg (x : Nat) (hx : x < 18446744073709551616) : bits .and .u64 (x : Int) 9223372036854775807 = (mg x : Int) := by
  have h := bits_and_u64_nat x 9223372036854775807 hx (by decide)
  have e : x &&& 9223372036854775807 = x % 9223372036854775808 := Nat.and_two_pow_sub_one_eq_mod x 63
  exact h.trans (by rw [e]; rfl)
theorem shr_ng (x : Nat) (hx : x < 18446744073709551616) : ((x : Int) / 9223372036854775808 == 1) = ng x := by
  unfold ng
  rw [Bool.eq_iff_iff, beq_iff_eq, beq_iff_eq]
  omega
end Go.Proofs.Ytcmjcpgfnkhnoaa
