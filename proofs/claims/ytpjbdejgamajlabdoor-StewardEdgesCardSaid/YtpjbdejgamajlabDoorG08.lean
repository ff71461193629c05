/- Packed: FlD, EdS, FmL. -/
import GoSem.PinnedTables
import Derived.Lib.EndianBits
import Derived.Lib.RabinKarpLaws
import Derived.Lib.ItoaNum
import Derived.Test.YtpjbdejgamajlabDoorG00
import Derived.Test.YtpjbdejgamajlabDoorG04
/- Floats: Mean of score and of its reference. -/
namespace Go.Proofs.YtpjbdejgamajlabDoor
open Go.RowKit

theorem kf_hi (x : Nat) : kf x ≤ 9223372036854775807 := by
  cases h : isN x
  · have := kf_num h; omega
  · rw [kf_nan h]; exact Int.le_refl _
theorem kf_eq {x y : Nat} (hx : x < 18446744073709551616) (hy : y < 18446744073709551616) (nx : isN x = false) (ny : isN y = false) (h : kf x = kf y) (h0 : kf x ≠ 0) : x = y := by
  unfold kf at h h0
  rw [nx] at h h0
  rw [ny] at h
  have a1 : x = mg x + (if ng x then 9223372036854775808 else 0) := by
    unfold mg ng
    cases e : (x / 9223372036854775808 % 2 == 1)
    · rw [beq_eq_false_iff_ne] at e
      show x = x % 9223372036854775808 + 0
      omega
    · rw [beq_iff_eq] at e
      show x = x % 9223372036854775808 + 9223372036854775808
      omega
  have a2 : y = mg y + (if ng y then 9223372036854775808 else 0) := by
    unfold mg ng
    cases e : (y / 9223372036854775808 % 2 == 1)
    · rw [beq_eq_false_iff_ne] at e
      show y = y % 9223372036854775808 + 0
      omega
    · rw [beq_iff_eq] at e
      show y = y % 9223372036854775808 + 9223372036854775808
      omega
  generalize mg x = r at *
  generalize mg y = s at *
  cases hx : ng x <;> cases hy : ng y <;> rw [hx] at h h0 a1 <;> rw [hy] at h a2 <;> simp at h h0 a1 a2 <;> omega
theorem plainF_lt {x : Nat} (h : x < 18446744073709551616) : plainF x < 18446744073709551616 := by unfold plainF; split <;> omega
theorem plainF_kf (x : Nat) : kf (plainF x) = kf x := by
  unfold plainF
  split
  · rename_i h; rw [h, kf_zero]
  · rfl
theorem clampF_lt {x lo hi : Nat} (h1 : x < 18446744073709551616) (h2 : lo < 18446744073709551616) (h3 : hi < 18446744073709551616) : clampF x lo hi < 18446744073709551616 := by
  unfold clampF
  split
  · exact plainF_lt h3
  · split
    · exact plainF_lt h2
    · exact plainF_lt h1
theorem clampF_kf (x lo hi : Nat) (h : kf lo ≤ kf hi) : kf lo ≤ kf (clampF x lo hi) ∧ kf (clampF x lo hi) ≤ kf hi := by
  unfold clampF
  split
  · rw [plainF_kf]; omega
  · split
    · rw [plainF_kf]; omega
    · rw [plainF_kf]; omega
theorem isN_of_kf {x : Nat} (h : kf x < 9223372036854775807) : isN x = false := by
  cases e : isN x
  · rfl
  · rw [kf_nan e] at h; omega
theorem mg_of_kf {x : Nat} (h0 : 0 ≤ kf x) (h : kf x < 9218868437227405312) : mg x < 9218868437227405312 := by
  have e := isN_of_kf (x := x) (by omega)
  unfold kf at h h0
  rw [e] at h h0
  cases g : ng x <;> rw [g] at h h0 <;> simp at h h0 <;> omega
theorem far_mg {x : Nat} (hn : isN x = false) (h : farF x = false) : mg x < 9218868437227405312 := by
  have : mg x ≤ 9218868437227405312 := by simpa [isN] using hn
  have h2 : mg x ≠ 9218868437227405312 := by simpa [farF] using h
  omega

/-- What a clamp to two numbers comes to, whichever of the equal ones are named. -/
theorem clampF_same {x a b c d : Nat} (h : plainF a = plainF c) (h' : plainF b = plainF d) (k : kf a = kf c) (k' : kf b = kf d) : clampF x a b = clampF x c d := by
  unfold clampF
  rw [h, h', k, k']
theorem plainF_same {x y : Nat} (hx : x < 18446744073709551616) (hy : y < 18446744073709551616) (nx : isN x = false) (ny : isN y = false) (h : kf x = kf y) : plainF x = plainF y := by
  unfold plainF
  rw [← h]
  split
  · rfl
  · rename_i h0
    exact kf_eq hx hy nx ny h h0

set_option maxHeartbeats 1000000 in
theorem mean6_num (old sample s x m M y : Nat) (hz : decide (kf s = 0) = false) (hno : isN old = false) (hns : isN sample = false) (hfo : farF old = false) (hfs : farF sample = false) (share : Nat) (ho : old < 18446744073709551616) (hs : sample < 18446744073709551616)
    (d p : Nat) (hd : floatBits .sub .f64 sample old = some d) (hp : floatBits .mul .f64 s d = some p) (hx : floatBits .add .f64 old p = some x)
    (hcl : clampF share 0 4607182418800017408 = s)
    (hmin : ∀ ts t w, (Builtin.min_ ts t #[.float .f64 old, .float .f64 sample]).run Tryd.prog w = .ok (.float .f64 m) w)
    (hmax : ∀ ts t w, (Builtin.max_ ts t #[.float .f64 old, .float .f64 sample]).run Tryd.prog w = .ok (.float .f64 M) w)
    (hy : clampF x m M = y) (w : World) :
    Calls Tryd.prog 19 #[.float .f64 old, .float .f64 sample, .float .f64 share] w fun e w' => e = .returned (.float .f64 y) ∧ w' = w := by
  have c1 := clamp5 share 0 4607182418800017408
  rw [hcl] at c1
  have c2 := clamp5 x m M
  rw [hy] at c2
  have n1 := isnan6 old
  have n2 := isnan6 sample
  rw [hno] at n1
  rw [hns] at n2
  have i1 := isinf0 old ho
  have i2 := isinf0 sample hs
  rw [hfo] at i1
  rw [hfs] at i2
  have e0 := eq0 s
  rw [hz] at e0
  have r1 := fun w t => run_float_arith (P := Tryd.prog) w .sub t .f64 sample old d hd
  have r2 := fun w t => run_float_arith (P := Tryd.prog) w .mul t .f64 s d p hp
  have r3 := fun w t => run_float_arith (P := Tryd.prog) w .add t .f64 old p x hx
  clear hd hp hx hcl hy hno hns hfo hfs ho hs hz
  go_enter Tryd.func19, Tryd.ntmps19
  go_wp2_with (first
    | (go_at_call 43; with_reducible refine (c1 _).mono ?_; rintro e w' ⟨rfl, rfl⟩)
    | (go_at_call 43; with_reducible refine (c2 _).mono ?_; rintro e w' ⟨rfl, rfl⟩)
    | (go_at_call 39; with_reducible refine (n1 _).mono ?_; rintro e w' ⟨rfl, rfl⟩)
    | (go_at_call 39; with_reducible refine (n2 _).mono ?_; rintro e w' ⟨rfl, rfl⟩)
    | (go_at_call 40; with_reducible refine (i1 _).mono ?_; rintro e w' ⟨rfl, rfl⟩)
    | (go_at_call 40; with_reducible refine (i2 _).mono ?_; rintro e w' ⟨rfl, rfl⟩))
  go_ret
  exact ⟨rfl, rfl⟩
set_option maxHeartbeats 1000000 in
theorem mean6_old (old sample share : Nat) (hno : isN old = true) (w : World) :
    Calls Tryd.prog 19 #[.float .f64 old, .float .f64 sample, .float .f64 share] w fun e w' => e = .returned (.float .f64 (plainF sample)) ∧ w' = w := by
  have c1 := clamp5 share 0 4607182418800017408
  have n1 := isnan6 old
  rw [hno] at n1
  have p1 := plain3 sample
  generalize clampF share 0 4607182418800017408 = s at *
  generalize plainF sample = y at *
  clear hno
  go_enter Tryd.func19, Tryd.ntmps19
  go_wp2_with (first
    | (go_at_call 43; with_reducible refine (c1 _).mono ?_; rintro e w' ⟨rfl, rfl⟩)
    | (go_at_call 39; with_reducible refine (n1 _).mono ?_; rintro e w' ⟨rfl, rfl⟩)
    | (go_at_call 42; with_reducible refine (p1 _).mono ?_; rintro e w' ⟨rfl, rfl⟩))
  go_ret
  exact ⟨rfl, rfl⟩
set_option maxHeartbeats 1000000 in
theorem mean6_smp (old sample share : Nat) (hno : isN old = false) (h : (isN sample || decide (kf (clampF share 0 4607182418800017408) = 0)) = true) (w : World) :
    Calls Tryd.prog 19 #[.float .f64 old, .float .f64 sample, .float .f64 share] w fun e w' => e = .returned (.float .f64 (plainF old)) ∧ w' = w := by
  have c1 := clamp5 share 0 4607182418800017408
  have n1 := isnan6 old
  rw [hno] at n1
  have n2 := isnan6 sample
  have p1 := plain3 old
  have e0 := eq0 (clampF share 0 4607182418800017408)
  generalize clampF share 0 4607182418800017408 = s at *
  generalize plainF old = y at *
  generalize decide (kf s = 0) = z at *
  generalize isN sample = q at *
  clear hno
  cases q <;> cases z <;> simp at h <;> (
  go_enter Tryd.func19, Tryd.ntmps19
  go_wp2_with (first
    | (go_at_call 43; with_reducible refine (c1 _).mono ?_; rintro e w' ⟨rfl, rfl⟩)
    | (go_at_call 39; with_reducible refine (n1 _).mono ?_; rintro e w' ⟨rfl, rfl⟩)
    | (go_at_call 39; with_reducible refine (n2 _).mono ?_; rintro e w' ⟨rfl, rfl⟩)
    | (go_at_call 42; with_reducible refine (p1 _).mono ?_; rintro e w' ⟨rfl, rfl⟩))
  go_ret
  exact ⟨rfl, rfl⟩)
set_option maxHeartbeats 1000000 in
theorem mean6_far (old sample share : Nat) (ho : old < 18446744073709551616) (hs : sample < 18446744073709551616) (hno : isN old = false) (hns : isN sample = false) (hz : decide (kf (clampF share 0 4607182418800017408) = 0) = false) (h : (farF old || farF sample) = true) (w : World) :
    Calls Tryd.prog 19 #[.float .f64 old, .float .f64 sample, .float .f64 share] w fun e w' => e = .returned (.float .f64 (plainF sample)) ∧ w' = w := by
  have c1 := clamp5 share 0 4607182418800017408
  have n1 := isnan6 old
  rw [hno] at n1
  have n2 := isnan6 sample
  rw [hns] at n2
  have i1 := isinf0 old ho
  have i2 := isinf0 sample hs
  have p1 := plain3 sample
  have e0 := eq0 (clampF share 0 4607182418800017408)
  rw [hz] at e0
  clear hz
  generalize clampF share 0 4607182418800017408 = s at *
  generalize plainF sample = y at *
  generalize farF old = f1 at *
  generalize farF sample = f2 at *
  clear hno hns ho hs
  cases f1 <;> cases f2 <;> simp at h <;> (
  go_enter Tryd.func19, Tryd.ntmps19
  go_wp2_with (first
    | (go_at_call 43; with_reducible refine (c1 _).mono ?_; rintro e w' ⟨rfl, rfl⟩)
    | (go_at_call 39; with_reducible refine (n1 _).mono ?_; rintro e w' ⟨rfl, rfl⟩)
    | (go_at_call 39; with_reducible refine (n2 _).mono ?_; rintro e w' ⟨rfl, rfl⟩)
    | (go_at_call 40; with_reducible refine (i1 _).mono ?_; rintro e w' ⟨rfl, rfl⟩)
    | (go_at_call 40; with_reducible refine (i2 _).mono ?_; rintro e w' ⟨rfl, rfl⟩)
    | (go_at_call 42; with_reducible refine (p1 _).mono ?_; rintro e w' ⟨rfl, rfl⟩))
  go_ret
  exact ⟨rfl, rfl⟩)
end Go.Proofs.YtpjbdejgamajlabDoor

/- StewardEdges: how the number 2 is written (reckoned; a try with the definitions of FmB and FmD written out). -/
namespace Go.Proofs.YtpjbdejgamajlabDoor.Ed
open Go.RowKit

def uscI (H M M2 : Int) (k : Nat) : Int :=
  if (IntKind.u64.wrap (H / 2 ^ k * 2 ^ k) != H) = true then bits .or .u64 (H / 2 ^ k) 1
  else bits .or .u64 (IntKind.u64.wrap (H - if decide (M < M2) then 1 else 0) / 2 ^ k) (if decide (IntKind.u64.wrap (M - M2) > 1) then 1 else 0)
def uscF (x hi lo : Nat) (s : Int) : Int := uscI ((x * hi / 18446744073709551616 : Nat) : Int) ((x * hi % 18446744073709551616 : Nat) : Int) ((x * lo / 18446744073709551616 : Nat) : Int) (bits .and .i64 s 63).toNat
def dminF (x : Nat × Nat) (s mn od : Int) : Int := IntKind.u64.wrap (IntKind.u64.wrap (uscF mn.toNat x.1 x.2 s + IntKind.u64.wrap od) + 3) / 4
def dmaxF (x : Nat × Nat) (s mx od : Int) : Int := IntKind.u64.wrap (IntKind.u64.wrap (uscF mx.toNat x.1 x.2 s + IntKind.u64.wrap (wrap64 (-od)))) / 4
def rndF (x : Nat × Nat) (s m : Int) : Int := IntKind.u64.wrap (IntKind.u64.wrap (uscF m.toNat x.1 x.2 s + 1) + bits .and .u64 (uscF m.toNat x.1 x.2 s / 4) 1) / 4
def rowF (p : Int) : Nat × Nat := Go.Pinned.pow10Rows.getD (p + 348).toNat (0, 0)
def shRF (m e mn mx od p : Int) : Int × Int :=
  let s := -(e + p * 108853 / 32768 + 3)
  let dmin := dminF (rowF p) s mn od
  let dmax := dmaxF (rowF p) s mx od
  let d := IntKind.u64.wrap (dmax.tdiv 10)
  if IntKind.u64.wrap (d * 10) ≥ dmin then (d, wrap64 (-wrap64 (p - 1))) else if dmin < dmax then (rndF (rowF p) s m, wrap64 (-p)) else (dmin, wrap64 (-p))
theorem two_sh : shRF (9223372036854775808 : Int) (-62) (9223372036854775296 : Int) (9223372036854776832 : Int) (bits BinOp.and IntKind.i64 4503599627370496 1) (-(((-62 + 11) * 631305 - 261663) / 2097152)) = (2000000000000000, -15) := by decide +kernel
end Go.Proofs.YtpjbdejgamajlabDoor.Ed

/- strconv: the parts of a float64. -/
namespace Go.Proofs.YtpjbdejgamajlabDoor
open Go.RowKit Go.Lib

def xE (x : Nat) : Nat := x / 4503599627370496 % 2048
def xM (x : Nat) : Nat := x % 4503599627370496
/-- The whole number, its exponent, how far it is shifted. -/
def xMant (x : Nat) : Nat := if xE x = 0 then xM x else xM x + 4503599627370496
def xExp (x : Nat) : Int := if xE x = 0 then 1 else (xE x : Int)
def xS (x : Nat) : Nat := 64 - Lib.bitLen (xMant x)
theorem and_xE (x : Nat) (hx : x < 18446744073709551616) : bits .and .i64 ((x : Int) / 4503599627370496) 2047 = (xE x : Int) := by
  have h := bits_mask .i64 63 (by decide) (fun n h0 h1 => by rw [two63] at h1; rw [IntKind.wrap_i64]; omega) 11 (by decide) ((x : Int) / 4503599627370496) (by omega) (by rw [two63]; omega)
  have e : ((2 : Int) ^ 11 - 1) = 2047 := by decide
  rw [e] at h
  rw [h]
  unfold xE
  omega
theorem and_xM (x : Nat) (hx : x < 18446744073709551616) : bits .and .u64 (x : Int) 4503599627370495 = (xM x : Int) := by
  have h := bits_and_u64_nat x 4503599627370495 hx (by decide)
  have e : x &&& 4503599627370495 = x % 4503599627370496 := Nat.and_two_pow_sub_one_eq_mod x 52
  exact h.trans (by rw [e]; rfl)
theorem or_xM (x : Nat) : bits .or .u64 (xM x : Int) 4503599627370496 = (xM x : Int) + 4503599627370496 := by
  have h : xM x < 4503599627370496 := Nat.mod_lt _ (by decide)
  exact bits_join_low .u64 64 (by decide) wraps_u64 52 (xM x : Int) 4503599627370496 (by omega) (by omega) (by omega) (by omega) (by omega) (by omega)
theorem xMant_in (x : Nat) (h : ¬ (xE x = 0 ∧ xM x = 0)) : 0 < xMant x ∧ xMant x < 9007199254740992 := by
  have h1 : xM x < 4503599627370496 := Nat.mod_lt _ (by decide)
  unfold xMant
  split <;> omega
theorem xS_in (x : Nat) (h : ¬ (xE x = 0 ∧ xM x = 0)) : 11 ≤ xS x ∧ xS x ≤ 63 ∧ Lib.bitLen (xMant x) + xS x = 64 ∧ 9223372036854775808 ≤ xMant x * 2 ^ xS x ∧ xMant x * 2 ^ xS x < 18446744073709551616 := by
  obtain ⟨h0, h1⟩ := xMant_in x h
  unfold xS
  generalize xMant x = m at *
  have hb := Lib.bitLenAux_bounds 64 m (by omega) (by omega)
  have hbl : Lib.bitLen m = Lib.bitLenAux 64 m := rfl
  rw [← hbl] at hb
  generalize Lib.bitLen m = L at *
  obtain ⟨b1, b2, b3⟩ := hb
  have hL : L ≤ 53 := by
    rcases Nat.lt_or_ge 53 L with h | h
    · have : 2 ^ 53 ≤ 2 ^ (L - 1) := Nat.pow_le_pow_right (by decide) (by omega)
      omega
    · exact h
  refine ⟨by omega, by omega, by omega, ?_, ?_⟩
  · have e : 2 ^ (L - 1) * 2 ^ (64 - L) = 9223372036854775808 := by rw [← Nat.pow_add, show L - 1 + (64 - L) = 63 by omega]
    calc 9223372036854775808 = 2 ^ (L - 1) * 2 ^ (64 - L) := e.symm
      _ ≤ m * 2 ^ (64 - L) := Nat.mul_le_mul_right _ b2
  · have e : 2 ^ L * 2 ^ (64 - L) = 18446744073709551616 := by rw [← Nat.pow_add, show L + (64 - L) = 64 by omega]
    calc m * 2 ^ (64 - L) < 2 ^ L * 2 ^ (64 - L) := Nat.mul_lt_mul_of_pos_right b3 (Nat.pow_pos (by decide))
      _ = 18446744073709551616 := e
end Go.Proofs.YtpjbdejgamajlabDoor

