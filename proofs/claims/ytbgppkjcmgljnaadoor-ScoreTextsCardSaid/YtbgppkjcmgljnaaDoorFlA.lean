/- Floats: the small functions of package math, of score and of its reference. -/
import Derived.Test.YtbgppkjcmgljnaaDoorBase
import Derived.Test.YtbgppkjcmgljnaaDoorFlM
import Derived.Laws.Externs
import Derived.Laws.Cover2
import Derived.Laws.Bits64b
namespace Go.Proofs.YtbgppkjcmgljnaaDoor
open Go.RowKit

theorem frombits29 (n : Int) (w : World) : (callFunc 21 #[.int .u64 n]).run Tryd.prog w = .ok (.value (.float .f64 n.toNat)) w := by
  rw [run_callFunc_extern Tryd.func21 (by kernel_rfl) (by kernel_rfl) (by kernel_rfl) (e := Extern.MathFloatBits.float64frombits) (by kernel_rfl)]
  rfl
theorem bits21 (b : Nat) (w : World) : (callFunc 29 #[.float .f64 b]).run Tryd.prog w = .ok (.value (.int .u64 b)) w := by
  rw [run_callFunc_extern Tryd.func29 (by kernel_rfl) (by kernel_rfl) (by kernel_rfl) (e := Extern.MathFloatBits.float64bits) (by kernel_rfl)]
  rfl

theorem isnan6 (x : Nat) (w : World) : Calls Tryd.prog 27 #[.float .f64 x] w fun e w' => e = .returned (.bool (isN x)) ∧ w' = w := by
  have h := ord_ne_self x
  go_enter Tryd.func27, Tryd.ntmps27
  go_wp2
  go_ret
  exact ⟨rfl, rfl⟩
theorem nan6 (x : Nat) (w : World) : Calls Tryd.prog 15 #[.float .f64 x] w fun e w' => e = .returned (.bool (isN x)) ∧ w' = w := by
  have h := ord_ne_self x
  go_enter Tryd.func15, Tryd.ntmps15
  go_wp2
  go_ret
  exact ⟨rfl, rfl⟩
theorem nan2 (w : World) : Calls Tryd.prog 20 #[] w fun e w' => e = .returned (.float .f64 9221120237041090561) ∧ w' = w := by
  have hf := frombits29 9221120237041090561
  go_enter Tryd.func20, Tryd.ntmps20
  go_wp2
  go_ret
  exact ⟨rfl, rfl⟩
theorem before5 (a b : Nat) (w : World) : Calls Tryd.prog 24 #[.float .f64 a, .float .f64 b] w fun e w' => e = .returned (.bool (decide (kf a < kf b))) ∧ w' = w := by
  have h := ord_lt a b
  cases na : isN a
  · cases nb : isN b
    · rw [na, nb] at h
      generalize decide (kf a < kf b) = t at *
      cases t <;> (
      go_enter Tryd.func24, Tryd.ntmps24
      go_wp2_with (go_at_call 27; refine (isnan6 _ _).mono ?_; rintro e w' ⟨rfl, rfl⟩)
      go_ret
      exact ⟨rfl, rfl⟩)
    · have k1 := kf_num na
      have k2 := kf_nan nb
      rw [decide_eq_true (show kf a < kf b by omega)]
      rw [na, nb] at h
      clear k1 k2
      go_enter Tryd.func24, Tryd.ntmps24
      go_wp2_with (go_at_call 27; refine (isnan6 _ _).mono ?_; rintro e w' ⟨rfl, rfl⟩)
      go_ret
      exact ⟨rfl, rfl⟩
  · have k1 := kf_nan na
    have k2 : kf b ≤ 9223372036854775807 := by
      cases nb : isN b
      · have := kf_num nb; omega
      · rw [kf_nan nb]; exact Int.le_refl _
    rw [decide_eq_false (show ¬ kf a < kf b by omega)]
    rw [na] at h
    clear k1 k2
    · go_enter Tryd.func24, Tryd.ntmps24
      go_wp2_with (go_at_call 27; refine (isnan6 _ _).mono ?_; rintro e w' ⟨rfl, rfl⟩)
      go_ret
      exact ⟨rfl, rfl⟩
theorem mg_lt (x : Nat) : mg x < 9223372036854775808 := Nat.mod_lt _ (by decide)
theorem and_mg (x : Nat) (hx : x < 18446744073709551616) : bits .and .u64 (x : Int) 9223372036854775807 = (mg x : Int) := by
  have h := bits_and_u64_nat x 9223372036854775807 hx (by decide)
  have e : x &&& 9223372036854775807 = x % 9223372036854775808 := Nat.and_two_pow_sub_one_eq_mod x 63
  exact h.trans (by rw [e]; rfl)
theorem shr_ng (x : Nat) (hx : x < 18446744073709551616) : ((x : Int) / 9223372036854775808 == 1) = ng x := by
  unfold ng
  rw [Bool.eq_iff_iff, beq_iff_eq, beq_iff_eq]
  omega
theorem key4 (x : Nat) (hx : x < 18446744073709551616) (w : World) : Calls Tryd.prog 25 #[.float .f64 x] w fun e w' => e = .returned (.int .i64 (kf x)) ∧ w' = w := by
  have hb := bits21 x
  have hm := and_mg x hx
  have hg := shr_ng x hx
  have w1 : wrap64 (mg x : Int) = (mg x : Int) := by have := mg_lt x; unfold wrap64; omega
  have w2 : wrap64 (-(mg x : Int)) = -(mg x : Int) := by have := mg_lt x; unfold wrap64; omega
  have hk : kf x = if isN x then 9223372036854775807 else if ng x then -(mg x : Int) else (mg x : Int) := rfl
  clear hx
  cases hn : isN x
  · cases hs : ng x
    all_goals (
    rw [hn, hs] at hk
    rw [hs] at hg
    rw [hk]
    clear hk
    go_enter Tryd.func25, Tryd.ntmps25
    go_wp2_with (go_at_call 15; refine (nan6 _ _).mono ?_; rintro e w' ⟨rfl, rfl⟩)
    go_ret
    exact ⟨rfl, rfl⟩)
  · rw [hn] at hk
    rw [hk]
    clear hk
    go_enter Tryd.func25, Tryd.ntmps25
    go_wp2_with (go_at_call 15; refine (nan6 _ _).mono ?_; rintro e w' ⟨rfl, rfl⟩)
    go_ret
    exact ⟨rfl, rfl⟩
end Go.Proofs.YtbgppkjcmgljnaaDoor
