/- Floats: Mean of score and of its reference. -/
import Derived.Test.YtbgppkjcmgljnaaDoorFlC
namespace Go.Proofs.YtbgppkjcmgljnaaDoor
open Go.RowKit

theorem kf_hi (x : Nat) : kf x ≤ 9223372036854775807 := by
  cases h : isN x
  · have := kf_num h; omega
  · rw [kf_nan h]; exact Int.le_refl _
theorem kf_eq {x y : Nat} (hx : x < 18446744073709551616) (hy : y < 18446744073709551616) (nx : isN x = false) (ny : isN y = false) (h : kf x = kf y) (h0 : kf x ≠ 0) : x = y := by
  unfold kf at h h0
  rw [nx] at h h0
  rw [ny] at h
  have a1 : x = mg x + (if ng x then 9223372036854775808 else 0) := by
    unfold mg ng
    cases e : (x / 9223372036854775808 % 2 == 1)
    · rw [beq_eq_false_iff_ne] at e
      show x = x % 9223372036854775808 + 0
      omega
    · rw [beq_iff_eq] at e
      show x = x % 9223372036854775808 + 9223372036854775808
      omega
  have a2 : y = mg y + (if ng y then 9223372036854775808 else 0) := by
    unfold mg ng
    cases e : (y / 9223372036854775808 % 2 == 1)
    · rw [beq_eq_false_iff_ne] at e
      show y = y % 9223372036854775808 + 0
      omega
    · rw [beq_iff_eq] at e
      show y = y % 9223372036854775808 + 9223372036854775808
      omega
  generalize mg x = r at *
  generalize mg y = s at *
  cases hx : ng x <;> cases hy : ng y <;> rw [hx] at h h0 a1 <;> rw [hy] at h a2 <;> simp at h h0 a1 a2 <;> omega
theorem plainF_lt {x : Nat} (h : x < 18446744073709551616) : plainF x < 18446744073709551616 := by unfold plainF; split <;> omega
theorem plainF_kf (x : Nat) : kf (plainF x) = kf x := by
  unfold plainF
  split
  · rename_i h; rw [h, kf_zero]
  · rfl
theorem clampF_lt {x lo hi : Nat} (h1 : x < 18446744073709551616) (h2 : lo < 18446744073709551616) (h3 : hi < 18446744073709551616) : clampF x lo hi < 18446744073709551616 := by
  unfold clampF
  split
  · exact plainF_lt h3
  · split
    · exact plainF_lt h2
    · exact plainF_lt h1
theorem clampF_kf (x lo hi : Nat) (h : kf lo ≤ kf hi) : kf lo ≤ kf (clampF x lo hi) ∧ kf (clampF x lo hi) ≤ kf hi := by
  unfold clampF
  split
  · rw [plainF_kf]; omega
  · split
    · rw [plainF_kf]; omega
    · rw [plainF_kf]; omega
theorem isN_of_kf {x : Nat} (h : kf x < 9223372036854775807) : isN x = false := by
  cases e : isN x
  · rfl
  · rw [kf_nan e] at h; omega
theorem mg_of_kf {x : Nat} (h0 : 0 ≤ kf x) (h : kf x < 9218868437227405312) : mg x < 9218868437227405312 := by
  have e := isN_of_kf (x := x) (by omega)
  unfold kf at h h0
  rw [e] at h h0
  cases g : ng x <;> rw [g] at h h0 <;> simp at h h0 <;> omega
theorem far_mg {x : Nat} (hn : isN x = false) (h : farF x = false) : mg x < 9218868437227405312 := by
  have : mg x ≤ 9218868437227405312 := by simpa [isN] using hn
  have h2 : mg x ≠ 9218868437227405312 := by simpa [farF] using h
  omega

/-- What a clamp to two numbers comes to, whichever of the equal ones are named. -/
theorem clampF_same {x a b c d : Nat} (h : plainF a = plainF c) (h' : plainF b = plainF d) (k : kf a = kf c) (k' : kf b = kf d) : clampF x a b = clampF x c d := by
  unfold clampF
  rw [h, h', k, k']
theorem plainF_same {x y : Nat} (hx : x < 18446744073709551616) (hy : y < 18446744073709551616) (nx : isN x = false) (ny : isN y = false) (h : kf x = kf y) : plainF x = plainF y := by
  unfold plainF
  rw [← h]
  split
  · rfl
  · rename_i h0
    exact kf_eq hx hy nx ny h h0

set_option maxHeartbeats 1000000 in
theorem mean6_num (old sample s x m M y : Nat) (hz : decide (kf s = 0) = false) (hno : isN old = false) (hns : isN sample = false) (hfo : farF old = false) (hfs : farF sample = false) (share : Nat) (ho : old < 18446744073709551616) (hs : sample < 18446744073709551616)
    (d p : Nat) (hd : floatBits .sub .f64 sample old = some d) (hp : floatBits .mul .f64 s d = some p) (hx : floatBits .add .f64 old p = some x)
    (hcl : clampF share 0 4607182418800017408 = s)
    (hmin : ∀ ts t w, (Builtin.min_ ts t #[.float .f64 old, .float .f64 sample]).run Tryd.prog w = .ok (.float .f64 m) w)
    (hmax : ∀ ts t w, (Builtin.max_ ts t #[.float .f64 old, .float .f64 sample]).run Tryd.prog w = .ok (.float .f64 M) w)
    (hy : clampF x m M = y) (w : World) :
    Calls Tryd.prog 12 #[.float .f64 old, .float .f64 sample, .float .f64 share] w fun e w' => e = .returned (.float .f64 y) ∧ w' = w := by
  have c1 := clamp5 share 0 4607182418800017408
  rw [hcl] at c1
  have c2 := clamp5 x m M
  rw [hy] at c2
  have n1 := isnan6 old
  have n2 := isnan6 sample
  rw [hno] at n1
  rw [hns] at n2
  have i1 := isinf0 old ho
  have i2 := isinf0 sample hs
  rw [hfo] at i1
  rw [hfs] at i2
  have e0 := eq0 s
  rw [hz] at e0
  have r1 := fun w t => run_float_arith (P := Tryd.prog) w .sub t .f64 sample old d hd
  have r2 := fun w t => run_float_arith (P := Tryd.prog) w .mul t .f64 s d p hp
  have r3 := fun w t => run_float_arith (P := Tryd.prog) w .add t .f64 old p x hx
  clear hd hp hx hcl hy hno hns hfo hfs ho hs hz
  go_enter Tryd.func12, Tryd.ntmps12
  go_wp2_with (first
    | (go_at_call 26; with_reducible refine (c1 _).mono ?_; rintro e w' ⟨rfl, rfl⟩)
    | (go_at_call 26; with_reducible refine (c2 _).mono ?_; rintro e w' ⟨rfl, rfl⟩)
    | (go_at_call 27; with_reducible refine (n1 _).mono ?_; rintro e w' ⟨rfl, rfl⟩)
    | (go_at_call 27; with_reducible refine (n2 _).mono ?_; rintro e w' ⟨rfl, rfl⟩)
    | (go_at_call 22; with_reducible refine (i1 _).mono ?_; rintro e w' ⟨rfl, rfl⟩)
    | (go_at_call 22; with_reducible refine (i2 _).mono ?_; rintro e w' ⟨rfl, rfl⟩))
  go_ret
  exact ⟨rfl, rfl⟩
set_option maxHeartbeats 1000000 in
theorem mean6_old (old sample share : Nat) (hno : isN old = true) (w : World) :
    Calls Tryd.prog 12 #[.float .f64 old, .float .f64 sample, .float .f64 share] w fun e w' => e = .returned (.float .f64 (plainF sample)) ∧ w' = w := by
  have c1 := clamp5 share 0 4607182418800017408
  have n1 := isnan6 old
  rw [hno] at n1
  have p1 := plain3 sample
  generalize clampF share 0 4607182418800017408 = s at *
  generalize plainF sample = y at *
  clear hno
  go_enter Tryd.func12, Tryd.ntmps12
  go_wp2_with (first
    | (go_at_call 26; with_reducible refine (c1 _).mono ?_; rintro e w' ⟨rfl, rfl⟩)
    | (go_at_call 27; with_reducible refine (n1 _).mono ?_; rintro e w' ⟨rfl, rfl⟩)
    | (go_at_call 28; with_reducible refine (p1 _).mono ?_; rintro e w' ⟨rfl, rfl⟩))
  go_ret
  exact ⟨rfl, rfl⟩
set_option maxHeartbeats 1000000 in
theorem mean6_smp (old sample share : Nat) (hno : isN old = false) (h : (isN sample || decide (kf (clampF share 0 4607182418800017408) = 0)) = true) (w : World) :
    Calls Tryd.prog 12 #[.float .f64 old, .float .f64 sample, .float .f64 share] w fun e w' => e = .returned (.float .f64 (plainF old)) ∧ w' = w := by
  have c1 := clamp5 share 0 4607182418800017408
  have n1 := isnan6 old
  rw [hno] at n1
  have n2 := isnan6 sample
  have p1 := plain3 old
  have e0 := eq0 (clampF share 0 4607182418800017408)
  generalize clampF share 0 4607182418800017408 = s at *
  generalize plainF old = y at *
  generalize decide (kf s = 0) = z at *
  generalize isN sample = q at *
  clear hno
  cases q <;> cases z <;> simp at h <;> (
  go_enter Tryd.func12, Tryd.ntmps12
  go_wp2_with (first
    | (go_at_call 26; with_reducible refine (c1 _).mono ?_; rintro e w' ⟨rfl, rfl⟩)
    | (go_at_call 27; with_reducible refine (n1 _).mono ?_; rintro e w' ⟨rfl, rfl⟩)
    | (go_at_call 27; with_reducible refine (n2 _).mono ?_; rintro e w' ⟨rfl, rfl⟩)
    | (go_at_call 28; with_reducible refine (p1 _).mono ?_; rintro e w' ⟨rfl, rfl⟩))
  go_ret
  exact ⟨rfl, rfl⟩)
set_option maxHeartbeats 1000000 in
theorem mean6_far (old sample share : Nat) (ho : old < 18446744073709551616) (hs : sample < 18446744073709551616) (hno : isN old = false) (hns : isN sample = false) (hz : decide (kf (clampF share 0 4607182418800017408) = 0) = false) (h : (farF old || farF sample) = true) (w : World) :
    Calls Tryd.prog 12 #[.float .f64 old, .float .f64 sample, .float .f64 share] w fun e w' => e = .returned (.float .f64 (plainF sample)) ∧ w' = w := by
  have c1 := clamp5 share 0 4607182418800017408
  have n1 := isnan6 old
  rw [hno] at n1
  have n2 := isnan6 sample
  rw [hns] at n2
  have i1 := isinf0 old ho
  have i2 := isinf0 sample hs
  have p1 := plain3 sample
  have e0 := eq0 (clampF share 0 4607182418800017408)
  rw [hz] at e0
  clear hz
  generalize clampF share 0 4607182418800017408 = s at *
  generalize plainF sample = y at *
  generalize farF old = f1 at *
  generalize farF sample = f2 at *
  clear hno hns ho hs
  cases f1 <;> cases f2 <;> simp at h <;> (
  go_enter Tryd.func12, Tryd.ntmps12
  go_wp2_with (first
    | (go_at_call 26; with_reducible refine (c1 _).mono ?_; rintro e w' ⟨rfl, rfl⟩)
    | (go_at_call 27; with_reducible refine (n1 _).mono ?_; rintro e w' ⟨rfl, rfl⟩)
    | (go_at_call 27; with_reducible refine (n2 _).mono ?_; rintro e w' ⟨rfl, rfl⟩)
    | (go_at_call 22; with_reducible refine (i1 _).mono ?_; rintro e w' ⟨rfl, rfl⟩)
    | (go_at_call 22; with_reducible refine (i2 _).mono ?_; rintro e w' ⟨rfl, rfl⟩)
    | (go_at_call 28; with_reducible refine (p1 _).mono ?_; rintro e w' ⟨rfl, rfl⟩))
  go_ret
  exact ⟨rfl, rfl⟩)
set_option maxHeartbeats 1000000 in
theorem rmean6_old (old sample share : Nat) (hs : sample < 18446744073709551616) (hh : share < 18446744073709551616) (hno : isN old = true) (w : World) :
    Calls Tryd.prog 14 #[.float .f64 old, .float .f64 sample, .float .f64 share] w fun e w' => e = .returned (.float .f64 (plainF sample)) ∧ w' = w := by
  have c1 := rclamp5 share 0 4607182418800017408 hh (by decide) (by decide)
  have n1 := nan6 old
  rw [hno] at n1
  have p1 := rplain3 sample hs
  generalize clampF share 0 4607182418800017408 = s at *
  generalize plainF sample = y at *
  clear hno hs hh
  go_enter Tryd.func14, Tryd.ntmps14
  go_wp2_with (first
    | (go_at_call 30; with_reducible refine (c1 _).mono ?_; rintro e w' ⟨rfl, rfl⟩)
    | (go_at_call 15; with_reducible refine (n1 _).mono ?_; rintro e w' ⟨rfl, rfl⟩)
    | (go_at_call 31; with_reducible refine (p1 _).mono ?_; rintro e w' ⟨rfl, rfl⟩))
  go_ret
  exact ⟨rfl, rfl⟩
set_option maxHeartbeats 1000000 in
theorem rmean6_smp (old sample share : Nat) (ho : old < 18446744073709551616) (hh : share < 18446744073709551616) (hno : isN old = false) (h : (isN sample || decide (kf (clampF share 0 4607182418800017408) = 0)) = true) (w : World) :
    Calls Tryd.prog 14 #[.float .f64 old, .float .f64 sample, .float .f64 share] w fun e w' => e = .returned (.float .f64 (plainF old)) ∧ w' = w := by
  have hl := clampF_lt (x := share) (lo := 0) (hi := 4607182418800017408) hh (by decide) (by decide)
  have c1 := rclamp5 share 0 4607182418800017408 hh (by decide) (by decide)
  have n1 := nan6 old
  rw [hno] at n1
  have n2 := nan6 sample
  have p1 := rplain3 old ho
  generalize clampF share 0 4607182418800017408 = s at *
  have k0 := key4 s hl
  have e0 : (kf s == 0) = decide (kf s = 0) := rfl
  have e1 : (kf s != 0) = !decide (kf s = 0) := rfl
  generalize plainF old = y at *
  generalize decide (kf s = 0) = z at *
  generalize isN sample = q at *
  clear hno ho hh hl
  cases q <;> cases z <;> simp at h <;> (
  go_enter Tryd.func14, Tryd.ntmps14
  go_wp2_with (first
    | (go_at_call 30; with_reducible refine (c1 _).mono ?_; rintro e w' ⟨rfl, rfl⟩)
    | (go_at_call 15; with_reducible refine (n1 _).mono ?_; rintro e w' ⟨rfl, rfl⟩)
    | (go_at_call 15; with_reducible refine (n2 _).mono ?_; rintro e w' ⟨rfl, rfl⟩)
    | (go_at_call 25; with_reducible refine (k0 _).mono ?_; rintro e w' ⟨rfl, rfl⟩)
    | (go_at_call 31; with_reducible refine (p1 _).mono ?_; rintro e w' ⟨rfl, rfl⟩))
  go_ret
  exact ⟨rfl, rfl⟩)
set_option maxHeartbeats 1000000 in
theorem rmean6_far (old sample share : Nat) (ho : old < 18446744073709551616) (hs : sample < 18446744073709551616) (hh : share < 18446744073709551616) (hno : isN old = false) (hns : isN sample = false) (hz : decide (kf (clampF share 0 4607182418800017408) = 0) = false) (h : (farF old || farF sample) = true) (w : World) :
    Calls Tryd.prog 14 #[.float .f64 old, .float .f64 sample, .float .f64 share] w fun e w' => e = .returned (.float .f64 (plainF sample)) ∧ w' = w := by
  have hl := clampF_lt (x := share) (lo := 0) (hi := 4607182418800017408) hh (by decide) (by decide)
  have c1 := rclamp5 share 0 4607182418800017408 hh (by decide) (by decide)
  have n1 := nan6 old
  rw [hno] at n1
  have n2 := nan6 sample
  rw [hns] at n2
  have i1 := far3 old ho
  have i2 := far3 sample hs
  have p1 := rplain3 sample hs
  generalize clampF share 0 4607182418800017408 = s at *
  have k0 := key4 s hl
  have e0 : (kf s == 0) = decide (kf s = 0) := rfl
  rw [hz] at e0
  clear hz
  generalize plainF sample = y at *
  generalize farF old = f1 at *
  generalize farF sample = f2 at *
  clear hno hns ho hs hh hl
  cases f1 <;> cases f2 <;> simp at h <;> (
  go_enter Tryd.func14, Tryd.ntmps14
  go_wp2_with (first
    | (go_at_call 30; with_reducible refine (c1 _).mono ?_; rintro e w' ⟨rfl, rfl⟩)
    | (go_at_call 15; with_reducible refine (n1 _).mono ?_; rintro e w' ⟨rfl, rfl⟩)
    | (go_at_call 15; with_reducible refine (n2 _).mono ?_; rintro e w' ⟨rfl, rfl⟩)
    | (go_at_call 32; with_reducible refine (i1 _).mono ?_; rintro e w' ⟨rfl, rfl⟩)
    | (go_at_call 32; with_reducible refine (i2 _).mono ?_; rintro e w' ⟨rfl, rfl⟩)
    | (go_at_call 25; with_reducible refine (k0 _).mono ?_; rintro e w' ⟨rfl, rfl⟩)
    | (go_at_call 31; with_reducible refine (p1 _).mono ?_; rintro e w' ⟨rfl, rfl⟩))
  go_ret
  exact ⟨rfl, rfl⟩)
set_option maxHeartbeats 1000000 in
theorem rmean6_num (old sample s x m M y : Nat) (hl : s < 18446744073709551616) (hz : decide (kf s = 0) = false) (hno : isN old = false) (hns : isN sample = false) (hfo : farF old = false) (hfs : farF sample = false) (share : Nat) (ho : old < 18446744073709551616) (hs : sample < 18446744073709551616) (hh : share < 18446744073709551616) (hxl : x < 18446744073709551616)
    (d p : Nat) (hd : floatBits .sub .f64 sample old = some d) (hp : floatBits .mul .f64 s d = some p) (hx : floatBits .add .f64 old p = some x)
    (hcl : clampF share 0 4607182418800017408 = s)
    (t : Bool) (ht : decide (kf old < kf sample) = t) (hm : m = if t then old else sample) (hM : M = if t then sample else old)
    (hy : clampF x m M = y) (w : World) :
    Calls Tryd.prog 14 #[.float .f64 old, .float .f64 sample, .float .f64 share] w fun e w' => e = .returned (.float .f64 y) ∧ w' = w := by
  have c1 := rclamp5 share 0 4607182418800017408 hh (by decide) (by decide)
  rw [hcl] at c1
  have c2 := rclamp5 x m M hxl (by rw [hm]; split <;> assumption) (by rw [hM]; split <;> assumption)
  rw [hy] at c2
  have n1 := nan6 old
  have n2 := nan6 sample
  rw [hno] at n1
  rw [hns] at n2
  have i1 := far3 old ho
  have i2 := far3 sample hs
  rw [hfo] at i1
  rw [hfs] at i2
  have k0 := key4 s hl
  have k1 := key4 old ho
  have k2 := key4 sample hs
  have e0 : (kf s == 0) = decide (kf s = 0) := rfl
  rw [hz] at e0
  have r1 := fun w t => run_float_arith (P := Tryd.prog) w .sub t .f64 sample old d hd
  have r2 := fun w t => run_float_arith (P := Tryd.prog) w .mul t .f64 s d p hp
  have r3 := fun w t => run_float_arith (P := Tryd.prog) w .add t .f64 old p x hx
  clear hd hp hx hcl hy hno hns hfo hfs ho hs hz hl hh hxl
  cases t <;> simp only [if_true, Bool.false_eq_true, if_false] at hm hM <;> subst hm <;> subst hM <;> (
  go_enter Tryd.func14, Tryd.ntmps14
  go_wp2_with (first
    | (go_at_call 30; with_reducible refine (c1 _).mono ?_; rintro e w' ⟨rfl, rfl⟩)
    | (go_at_call 30; with_reducible refine (c2 _).mono ?_; rintro e w' ⟨rfl, rfl⟩)
    | (go_at_call 15; with_reducible refine (n1 _).mono ?_; rintro e w' ⟨rfl, rfl⟩)
    | (go_at_call 15; with_reducible refine (n2 _).mono ?_; rintro e w' ⟨rfl, rfl⟩)
    | (go_at_call 32; with_reducible refine (i1 _).mono ?_; rintro e w' ⟨rfl, rfl⟩)
    | (go_at_call 32; with_reducible refine (i2 _).mono ?_; rintro e w' ⟨rfl, rfl⟩)
    | (go_at_call 25; with_reducible refine (k0 _).mono ?_; rintro e w' ⟨rfl, rfl⟩)
    | (go_at_call 25; with_reducible refine (k1 _).mono ?_; rintro e w' ⟨rfl, rfl⟩)
    | (go_at_call 25; with_reducible refine (k2 _).mono ?_; rintro e w' ⟨rfl, rfl⟩)
    | (go_at_call 31; with_reducible refine (p1 _).mono ?_; rintro e w' ⟨rfl, rfl⟩))
  go_ret
  exact ⟨rfl, rfl⟩)
end Go.Proofs.YtbgppkjcmgljnaaDoor
