/- score.Load of small numbers. -/
import Derived.Test.YtcmjcpgfnkhnoaaFlY
namespace Go.Proofs.Ytcmjcpgfnkhnoaa
open Go.RowKit

theorem maxI (x y m : Int) (h : m = max x y) (ts : Array TypeId) (t : TypeId) (w : World) : (Builtin.max_ ts t #[.int .i64 x, .int .i64 y]).run Try.prog w = .ok (.int .i64 m) w := by
  have : m = if y > x then y else x := by subst h; split <;> omega
  simp [Builtin.max_, Builtin.max2, this]
theorem minI (x y m : Int) (h : m = min x y) (ts : Array TypeId) (t : TypeId) (w : World) : (Builtin.min_ ts t #[.int .i64 x, .int .i64 y]).run Try.prog w = .ok (.int .i64 m) w := by
  have : m = if y < x then y else x := by subst h; split <;> omega
  simp [Builtin.min_, Builtin.min2, this]
theorem div_some (p d : Nat) (hp : isN p = false) (hd : mg d < 9218868437227405312) (h0 : mg d ≠ 0) :
    ∃ q, floatBits .quo .f64 p d = some q ∧ q < 18446744073709551616 ∧ isN q = false := by
  obtain ⟨n, j, e2, hn⟩ := read_fin d hd
  have hn0 : ¬ n = 0 := fun h => h0 (hn h)
  show ∃ q, ((Ieee.double.read p).quotient 54 (Ieee.double.read d)).map Ieee.double.write = some q ∧ _
  rw [e2]
  rcases read_non p hp with ⟨m, i, e1⟩ | e1
  · rw [e1]
    have : (Ieee.Datum.number (ng p) m i).quotient 54 (.number (ng d) n j) = if n = 0 then (if m = 0 then none else some (.infinity (ng p ^^ ng d))) else some (.number (ng p ^^ ng d) (2 * ((m <<< (54 + n.log2 - m.log2)) / n) + ((m <<< (54 + n.log2 - m.log2)) % n != 0).toNat) (i - j - ((54 + n.log2 - m.log2 : Nat) : Int) - 1)) := rfl
    rw [this, if_neg hn0]
    exact ⟨_, rfl, write_ok _ rfl⟩
  · rw [e1]
    exact ⟨_, rfl, write_ok _ rfl⟩
theorem rungI_fin {a : Nat} (h0 : a ≠ 0) (h : a < 131072) : mg (rungI a) < 9218868437227405312 ∧ mg (rungI a) ≠ 0 ∧ isN (rungI a) = false := by
  have hl := log2_le h0 h
  have hb := sh_bounds h0 h
  have hm := (rungI_mg h0 h).1
  have h1 : rungI a < 9218868437227405312 := by unfold rungI; omega
  have h2 : rungI a ≠ 0 := by unfold rungI; omega
  refine ⟨by omega, by omega, ?_⟩
  unfold isN
  exact decide_eq_false (by omega)
/-- The tape's NaN. -/
theorem nan_ok (x y : Nat) (w : World) : ∃ b, b = (Question.nanBits .f64 x y).cut (w.tape w.drawn (Question.nanBits .f64 x y)) ∧ b < 18446744073709551616 ∧ isN b = true := by
  refine ⟨_, rfl, ?_, ?_⟩
  · have h1 : (w.tape w.drawn (Question.nanBits .f64 x y) / 2) % (2 ^ 52 - 1) < 2 ^ 52 - 1 := Nat.mod_lt _ (by decide)
    have h2 : w.tape w.drawn (Question.nanBits .f64 x y) % 2 < 2 := Nat.mod_lt _ (by decide)
    show (w.tape w.drawn _ % 2) * 2 ^ 63 + 0x7ff0000000000000 + 1 + (w.tape w.drawn _ / 2) % (2 ^ 52 - 1) < _
    generalize w.tape w.drawn (Question.nanBits .f64 x y) % 2 = u at *
    generalize (w.tape w.drawn (Question.nanBits .f64 x y) / 2) % (2 ^ 52 - 1) = r at *
    omega
  · have h1 : (w.tape w.drawn (Question.nanBits .f64 x y) / 2) % (2 ^ 52 - 1) < 2 ^ 52 - 1 := Nat.mod_lt _ (by decide)
    have h2 : w.tape w.drawn (Question.nanBits .f64 x y) % 2 < 2 := Nat.mod_lt _ (by decide)
    show decide (_ < ((w.tape w.drawn _ % 2) * 2 ^ 63 + 0x7ff0000000000000 + 1 + (w.tape w.drawn _ / 2) % (2 ^ 52 - 1)) % 9223372036854775808) = true
    rw [decide_eq_true_iff]
    generalize w.tape w.drawn (Question.nanBits .f64 x y) % 2 = u at *
    generalize (w.tape w.drawn (Question.nanBits .f64 x y) / 2) % (2 ^ 52 - 1) = r at *
    omega
theorem run_mul_nan (x y : Nat) (hn : isN y = true) (w : World) : ∃ b, b < 18446744073709551616 ∧ isN b = true ∧ ∀ t, (binOp .mul t (.float .f64 x) (.float .f64 y)).run Try.prog w = .ok (.float .f64 b) w.drew := by
  have h : FloatKind.f64.format.mul x y = none := by
    show ((Ieee.double.read x).product (Ieee.double.read y)).map Ieee.double.write = none
    rw [read_nan y hn]
    cases Ieee.double.read x <;> rfl
  obtain ⟨b, hb, h1, h2⟩ := nan_ok x y w
  refine ⟨b, h1, h2, fun t => ?_⟩
  rw [hb]
  simp [binOp, Op.floatArith, h, Question.forced]
theorem run_quo_nan (x y : Nat) (hn : isN x = true) (w : World) : ∃ b, b < 18446744073709551616 ∧ isN b = true ∧ ∀ t, (binOp .quo t (.float .f64 x) (.float .f64 y)).run Try.prog w = .ok (.float .f64 b) w.drew := by
  have h : FloatKind.f64.format.div x y = none := by
    show ((Ieee.double.read x).quotient 54 (Ieee.double.read y)).map Ieee.double.write = none
    rw [read_nan x hn]
    cases Ieee.double.read y <;> rfl
  obtain ⟨b, hb, h1, h2⟩ := nan_ok x y w
  refine ⟨b, h1, h2, fun t => ?_⟩
  rw [hb]
  simp [binOp, Op.floatArith, h, Question.forced]
/-- The load of a number of requests, by a number of the time: whatever the time is. -/
theorem load42_num (b v : Nat) (hb : b < 131071) (h0 : v ≠ 0) (hv : v < 131072) (t t' p q : Nat) (z : Bool) (hz : decide (kf t < 0) = z) (ht : t' = if z then 0 else t) (hp : floatBits .mul .f64 (rungI (b + 1)) t' = some p) (hq : floatBits .quo .f64 p (rungI v) = some q) (w : World) :
    Calls Try.prog 42 #[.int .i64 (b : Int), .int .i64 (v : Int), .float .f64 t] w fun e w' => e = .returned (.float .f64 (plainF q)) ∧ w' = w := by
  have c1 := before5 t 0
  rw [kf_zero, hz] at c1
  have c2 := plain3 q
  have m1 := maxI b 0 b (by omega)
  have m2 := minI b 1099511627776 b (by omega)
  have f1 : floatOfInt .f64 ((b : Int) + 1) = rungI (b + 1) := by rw [← fI_eq (by omega) (by omega)]; rfl
  have f2 : floatOfInt .f64 (v : Int) = rungI v := fI_eq h0 hv
  have r1 := fun w t => run_float_arith (P := Try.prog) w .mul t .f64 (rungI (b + 1)) t' p hp
  have r2 := fun w t => run_float_arith (P := Try.prog) w .quo t .f64 p (rungI v) q hq
  have hv1 : ¬ (v : Int) < 1 := by omega
  have hbi : (b : Int) < 131071 := by omega
  clear hp hq hz
  generalize rungI (b + 1) = A at *
  generalize rungI v = V at *
  cases z <;> simp only [if_true, if_false, Bool.false_eq_true] at ht <;> subst ht <;> (
  go_enter Try.func42, Try.ntmps42
  go_wp2_with (first
    | (go_at_call 41; with_reducible refine (c1 _).mono ?_; rintro e w' ⟨rfl, rfl⟩)
    | (go_at_call 46; with_reducible refine (c2 _).mono ?_; rintro e w' ⟨rfl, rfl⟩))
  go_ret
  exact ⟨rfl, rfl⟩)
theorem load42_nan (b v : Nat) (hb : b < 131071) (h0 : v ≠ 0) (hv : v < 131072) (t : Nat) (hn : isN t = true) (w : World) :
    Calls Try.prog 42 #[.int .i64 (b : Int), .int .i64 (v : Int), .float .f64 t] w fun e w' => ∃ y, e = .returned (.float .f64 y) ∧ kf y = 9223372036854775807 ∧ w' = w.drewN 2 := by
  obtain ⟨p, _, hpn, r1⟩ := run_mul_nan (rungI (b + 1)) t hn w
  obtain ⟨q, _, hqn, r2⟩ := run_quo_nan p (rungI v) hpn w.drew
  have c1 := before5 t 0
  rw [kf_zero, kf_nan hn, decide_eq_false (by decide)] at c1
  have c2 := plain3 q
  have m1 := maxI b 0 b (by omega)
  have m2 := minI b 1099511627776 b (by omega)
  have f1 : floatOfInt .f64 ((b : Int) + 1) = rungI (b + 1) := by rw [← fI_eq (by omega) (by omega)]; rfl
  have f2 : floatOfInt .f64 (v : Int) = rungI v := fI_eq h0 hv
  have hv1 : ¬ (v : Int) < 1 := by omega
  have hbi : (b : Int) < 131071 := by omega
  have hk : kf (plainF q) = 9223372036854775807 := by rw [plainF_kf, kf_nan hqn]
  clear hn hpn hqn
  generalize rungI (b + 1) = A at *
  generalize rungI v = V at *
  generalize plainF q = y at *
  go_enter Try.func42, Try.ntmps42
  go_wp2_with (first
    | (go_at_call 41; with_reducible refine (c1 _).mono ?_; rintro e w' ⟨rfl, rfl⟩)
    | (go_at_call 46; with_reducible refine (c2 _).mono ?_; rintro e w' ⟨rfl, rfl⟩))
  go_ret
  exact ⟨y, rfl, hk, rfl⟩
theorem load42 (b v : Nat) (hb : b < 131071) (h0 : v ≠ 0) (hv : v < 131072) (t : Nat) :
    ∃ k, ∀ w, Calls Try.prog 42 #[.int .i64 (b : Int), .int .i64 (v : Int), .float .f64 t] w fun e w' => ∃ y n, e = .returned (.float .f64 y) ∧ kf y = k ∧ w' = w.drewN n := by
  cases hn : isN t
  · obtain ⟨a1, a2, a3⟩ := rungI_fin (a := b + 1) (by omega) (by omega)
    obtain ⟨d1, d2, d3⟩ := rungI_fin h0 hv
    obtain ⟨z, hz⟩ : ∃ z, decide (kf t < 0) = z := ⟨_, rfl⟩
    have ht : isN (if z then 0 else t) = false := by cases z <;> simp [hn, isN_zero]
    obtain ⟨p, hp, _, hpn⟩ := mul_some (rungI (b + 1)) (if z then 0 else t) a1 a2 ht
    obtain ⟨q, hq, _, hqn⟩ := div_some p (rungI v) hpn d1 d2
    refine ⟨kf q, fun w => (load42_num b v hb h0 hv t _ p q z hz rfl hp hq w).mono ?_⟩
    rintro e w' ⟨rfl, rfl⟩
    exact ⟨_, 0, rfl, plainF_kf q, rfl⟩
  · refine ⟨9223372036854775807, fun w => (load42_nan b v hb h0 hv t hn w).mono ?_⟩
    rintro e w' ⟨y, rfl, hk, rfl⟩
    exact ⟨y, 2, rfl, hk, rfl⟩
theorem load42_one (b v : Nat) (hb : b < 131071) (h0 : v ≠ 0) (hv : v < 131072) (w : World) :
    Calls Try.prog 42 #[.int .i64 (b : Int), .int .i64 (v : Int), .float .f64 4607182418800017408] w fun e w' => ∃ y n, e = .returned (.float .f64 y) ∧ kf y = (qk (b + 1) v : Int) ∧ w' = w.drewN n := by
  have hz : decide (kf 4607182418800017408 < 0) = false := by decide
  refine (load42_num b v hb h0 hv 4607182418800017408 4607182418800017408 (rungI (b + 1)) (qk (b + 1) v) false hz rfl (mul_one (by omega) (by omega)) (qk_bits (by omega) (by omega) h0 hv) w).mono ?_
  rintro e w' ⟨rfl, rfl⟩
  exact ⟨_, 0, rfl, by rw [plainF_kf]; exact (qk_kf (by omega) (by omega) h0 hv).1, rfl⟩
end Go.Proofs.Ytcmjcpgfnkhnoaa
