/- prime: leastDivisor, modulo, Is, Gcd; the reference's Is, Gcd, Mod. -/
import Derived.Test.YtpjbdejgamajlaaPqM
import Derived.IntWalk
namespace Go.Proofs.Ytpjbdejgamajlaa
open Go.RowKit

theorem tmodN (a b : Nat) : ((a : Int).tmod (b : Int)) = ((a % b : Nat) : Int) := by rw [Int.tmod_eq_emod_of_nonneg (by omega)]; rfl
theorem tdivN (a b : Nat) : ((a : Int).tdiv (b : Int)) = ((a / b : Nat) : Int) := by rw [Int.tdiv_eq_ediv_of_nonneg (by omega)]; rfl
theorem sq_le {d n m : Nat} (h : d * d ≤ n) (hn : n < m * m) : d < m := by
  rcases Nat.lt_or_ge d m with hl | hl
  · exact hl
  · have := Nat.mul_le_mul hl hl; omega
theorem dvd_of_rem {n d : Nat} (h : ((n % d : Nat) : Int) = 0) : d ∣ n := Nat.dvd_of_mod_eq_zero (by omega)
theorem ndvd_of_rem {n d : Nat} (h : ¬ ((n % d : Nat) : Int) = 0) : ¬ d ∣ n := fun hd => h (by rw [Nat.mod_eq_zero_of_dvd hd]; rfl)
set_option maxHeartbeats 1000000 in
theorem least20 (n : Nat) (h2 : 2 ≤ n) (hm : n ≤ 1048576) (w : World) :
    Calls Try.prog 20 #[.int .i64 (n : Int)] w fun e w' => ∃ p : Nat, e = .returned (.int .i64 (p : Int)) ∧ LD n p ∧ w' = w := by
  go_enter Try.func20, Try.ntmps20
  go_wp2_with fail
  go_loopw [3] (fun d wr => ∃ D : Nat, 2 ≤ D ∧ D ≤ 1025 ∧ d = .int .i64 (D : Int) ∧ NoDiv n D ∧ wr = w) (fun d _ => 1025 - (intOf d).toNat)
  case atStart => exact ⟨2, by omega, by omega, rfl, NoDiv.two n, rfl⟩
  case round =>
    obtain ⟨D, hD2, hDm, rfl, hnd, rfl⟩ := hrel
    have hsq := Nat.mul_le_mul hDm hDm
    have em : (D : Int) * (D : Int) = ((D * D : Nat) : Int) := by simp
    have ew : wrap64 ((D * D : Nat) : Int) = ((D * D : Nat) : Int) := by unfold wrap64; omega
    have er := tmodN n D
    have hz : ¬ (D : Int) = 0 := by omega
    by_cases hc : D * D ≤ n
    · have hD := sq_le (m := 1025) hc (by omega)
      have hc' : ((D * D : Nat) : Int) ≤ (n : Int) := by omega
      by_cases hd : D ∣ n
      · have hr0 : ((n % D : Nat) : Int) = 0 := by rw [Nat.mod_eq_zero_of_dvd hd]; rfl
        have hl := hnd.hit hD2 hd
        have hr1 : ((n : Int).tmod (D : Int)) = 0 := by rw [er, hr0]
        clear er hr0 hd hnd
        generalize D * D = Q at *
        go_wp2_with fail
        go_ret
        exact ⟨D, rfl, hl, rfl⟩
      · have hr0 : ¬ ((n % D : Nat) : Int) = 0 := fun h => hd (dvd_of_rem h)
        have hs := hnd.step hd
        generalize n % D = R at *
        generalize D * D = Q at *
        go_wp2_with fail
        go_roundw
        case rel => exact ⟨D + 1, by omega, by omega, by go_num, hs, by trivial⟩
        case measure => simp [intOf]; omega
    · have hl := hnd.stop h2 (by omega)
      have hc' : ¬ ((D * D : Nat) : Int) ≤ (n : Int) := by omega
      clear hc er
      generalize D * D = Q at *
      go_wp2_with fail
      go_ret
      exact ⟨n, rfl, hl, rfl⟩
set_option maxHeartbeats 1000000 in
theorem refis11 (n : Int) (w : World) :
    Calls Try.prog 11 #[.int .i64 n] w fun e w' => e = .returned (.bool (isP n)) ∧ w' = w := by
  by_cases h2 : n < 2
  · rw [isP_low h2]
    go_enter Try.func11, Try.ntmps11
    go_wp2_with fail
    go_ret
    exact ⟨rfl, rfl⟩
  by_cases hm : 1048576 < n
  · rw [isP_high hm]
    go_enter Try.func11, Try.ntmps11
    go_wp2_with fail
    go_ret
    exact ⟨rfl, rfl⟩
  obtain ⟨n, rfl⟩ := Int.eq_ofNat_of_zero_le (show 0 ≤ n by omega)
  have h2 : 2 ≤ n := by omega
  have hm : n ≤ 1048576 := by omega
  rw [isP_mid h2 hm]
  have g1 : ¬ ((n : Int) < 2) := by omega
  have g2 : ¬ ((1048576 : Int) < n) := by omega
  go_enter Try.func11, Try.ntmps11
  go_wp2_with fail
  go_loopw [3] (fun d wr => ∃ D : Nat, 2 ≤ D ∧ D ≤ 1025 ∧ d = .int .i64 (D : Int) ∧ NoDiv n D ∧ wr = w) (fun d _ => 1025 - (intOf d).toNat)
  case atStart => exact ⟨2, by omega, by omega, rfl, NoDiv.two n, rfl⟩
  case round =>
    obtain ⟨D, hD2, hDm, rfl, hnd, rfl⟩ := hrel
    have hsq := Nat.mul_le_mul hDm hDm
    have em : (D : Int) * (D : Int) = ((D * D : Nat) : Int) := by simp
    have ew : wrap64 ((D * D : Nat) : Int) = ((D * D : Nat) : Int) := by unfold wrap64; omega
    have er := tmodN n D
    have hz : ¬ (D : Int) = 0 := by omega
    by_cases hc : D * D ≤ n
    · have hD := sq_le (m := 1025) hc (by omega)
      have hc' : ((D * D : Nat) : Int) ≤ (n : Int) := by omega
      by_cases hd : D ∣ n
      · have hr0 : ((n % D : Nat) : Int) = 0 := by rw [Nat.mod_eq_zero_of_dvd hd]; rfl
        have hl := NoDiv.not hD2 hd hc
        have hr1 : ((n : Int).tmod (D : Int)) = 0 := by rw [er, hr0]
        clear er hr0 hd hnd
        generalize D * D = Q at *
        have HL := Lib.hid hl
        clear hl
        go_wp2_with fail
        go_ret
        exact ⟨by rw [HL.out]; rfl, rfl⟩
      · have hr0 : ¬ ((n % D : Nat) : Int) = 0 := fun h => hd (dvd_of_rem h)
        have hs := hnd.step hd
        generalize n % D = R at *
        generalize D * D = Q at *
        go_wp2_with fail
        go_roundw
        case rel => exact ⟨D + 1, by omega, by omega, by go_num, hs, by trivial⟩
        case measure => simp [intOf]; omega
    · have hl := hnd.prime (by omega) (by omega)
      have hc' : ¬ ((D * D : Nat) : Int) ≤ (n : Int) := by omega
      clear hc er
      generalize D * D = Q at *
      have HL := Lib.hid hl
      clear hl
      go_wp2_with fail
      go_ret
      exact ⟨by rw [HL.out]; rfl, rfl⟩
theorem is17 (n : Int) (w : World) :
    Calls Try.prog 17 #[.int .i64 n] w fun e w' => e = .returned (.bool (isP n)) ∧ w' = w := by
  by_cases h2 : n < 2
  · rw [isP_low h2]
    have g : ¬ (1 : Int) < n := by omega
    go_enter Try.func17, Try.ntmps17
    go_wp2_with fail
    go_ret
    exact ⟨rfl, rfl⟩
  by_cases hm : 1048576 < n
  · rw [isP_high hm]
    have g : (1 : Int) < n := by omega
    have g2 : ¬ n ≤ 1048576 := by omega
    go_enter Try.func17, Try.ntmps17
    go_wp2_with fail
    go_ret
    exact ⟨rfl, rfl⟩
  obtain ⟨n, rfl⟩ := Int.eq_ofNat_of_zero_le (show 0 ≤ n by omega)
  have g : (1 : Int) < n := by omega
  have g2 : (n : Int) ≤ 1048576 := by omega
  have HL := least20 n (by omega) (by omega) w
  have HI := Lib.hid (fun p hp => isP_LD (n := n) (p := p) (by omega) (by omega) hp)
  go_enter Try.func17, Try.ntmps17
  go_wp2_with fail
  refine HL.mono ?_
  rintro e w' ⟨p, rfl, hp, rfl⟩
  have HH := Lib.hid (HI.out p hp)
  clear hp HI
  go_wp2_with fail
  go_ret
  exact ⟨by rw [HH.out]; rfl, rfl⟩
theorem tmod_fix (n m : Int) (hm : 0 < m) (hm2 : m ≤ 1048576) : wrap64 (n.tmod m + m) = n.tmod m + m ∧ (n.tmod m + m).tmod m = n % m := by
  have h1 := Int.tmod_lt_of_pos n hm
  have h2 := Int.lt_tmod_of_pos n hm
  refine ⟨by unfold wrap64; omega, ?_⟩
  rw [Int.tmod_eq_emod_of_nonneg (by omega)]
  have h3 := Int.mul_tdiv_add_tmod n m
  have h4 : n.tmod m + m = n + m * (1 - n.tdiv m) := by rw [Int.mul_sub]; omega
  rw [h4, Int.add_mul_emod_self_left]
theorem mod21 (n m : Int) (hm : 0 < m) (hm2 : m ≤ 1048576) (w : World) :
    Calls Try.prog 21 #[.int .i64 n, .int .i64 m] w fun e w' => e = .returned (.int .i64 (n % m)) ∧ w' = w := by
  obtain ⟨h1, h2⟩ := tmod_fix n m hm hm2
  have hz : ¬ m = 0 := by omega
  have HR : Hid (n % m = n % m) := rfl
  go_enter Try.func21, Try.ntmps21
  go_wp2_with fail
  go_ret
  exact ⟨rfl, rfl⟩
theorem refmod15 (n m : Int) (hm : 0 < m) (hm2 : m ≤ 1048576) (w : World) :
    Calls Try.prog 15 #[.int .i64 n, .int .i64 m] w fun e w' => e = .returned (.int .i64 (n % m)) ∧ w' = w := by
  have h1 := Int.tmod_lt_of_pos n hm
  have h2 := Int.lt_tmod_of_pos n hm
  have hz : ¬ m = 0 := by omega
  have hq := tmod_fix n m hm hm2
  by_cases hn : n.tmod m < 0
  · have hv : n % m = n.tmod m + m := by
      rw [← hq.2, Int.tmod_eq_emod_of_nonneg (by omega), Int.emod_eq_of_lt (by omega) (by omega)]
    have hw := hq.1
    rw [hv]
    go_enter Try.func15, Try.ntmps15
    go_wp2_with fail
    go_ret
    exact ⟨rfl, rfl⟩
  · have hv : n % m = n.tmod m := by
      rw [← hq.2, Int.tmod_eq_emod_of_nonneg (by omega), Int.add_emod_right, Int.emod_eq_of_lt (by omega) (by omega)]
    rw [hv]
    go_enter Try.func15, Try.ntmps15
    go_wp2_with fail
    go_ret
    exact ⟨rfl, rfl⟩
/-- A number below 0 counts as 0. -/
def natI (a : Int) : Nat := a.toNat
theorem gcd8 (a b : Int) (ha : a ≤ 1099511627776) (hb : b ≤ 1099511627776) (w : World) :
    Calls Try.prog 8 #[.int .i64 a, .int .i64 b] w fun e w' => e = .returned (.int .i64 (Nat.gcd (natI a) (natI b) : Nat)) ∧ w' = w := by
  have h1 : (if (0 : Int) > a then (0 : Int) else a) = ((natI a : Nat) : Int) := by unfold natI; split <;> omega
  have h2 : (if (0 : Int) > b then (0 : Int) else b) = ((natI b : Nat) : Int) := by unfold natI; split <;> omega
  have h3 : (if a > (0 : Int) then a else 0) = ((natI a : Nat) : Int) := by unfold natI; split <;> omega
  have h4 : (if b > (0 : Int) then b else 0) = ((natI b : Nat) : Int) := by unfold natI; split <;> omega
  have h5 : max a 0 = ((natI a : Nat) : Int) := by unfold natI; omega
  have h6 : max b 0 = ((natI b : Nat) : Int) := by unfold natI; omega
  generalize natI a = A at *
  generalize natI b = B at *
  go_enter Try.func8, Try.ntmps8
  go_wp2_with fail
  go_loopw [0, 1] (fun x y wr => ∃ X Y : Nat, x = .int .i64 (X : Int) ∧ y = .int .i64 (Y : Int) ∧ Hid (Nat.gcd X Y = Nat.gcd A B) ∧ wr = w) (fun x _ _ => (intOf x).toNat)
  case atStart => exact ⟨A, B, rfl, rfl, rfl, rfl⟩
  case round =>
    obtain ⟨X, Y, rfl, rfl, hg, rfl⟩ := hrel
    by_cases hx : X = 0
    · subst hx
      have he := hg.out
      rw [Nat.gcd_zero_left] at he
      have HE := Lib.hid he
      clear he hg
      go_wp2_with fail
      go_ret
      exact ⟨by rw [HE.out]; rfl, rfl⟩
    · have hz : ¬ (X : Int) = 0 := by omega
      have hz2 : ((X : Int) != 0) = true := by simpa using hx
      have er := tmodN Y X
      have hlt := Nat.mod_lt Y (show 0 < X by omega)
      have hs : Hid (Nat.gcd (Y % X) X = Nat.gcd A B) := gcd_step.trans hg.out
      clear hg
      generalize Y % X = R at *
      go_wp2_with fail
      go_roundw
      case rel => exact ⟨R, X, rfl, rfl, hs, by trivial⟩
      case measure => simp [intOf]; omega
theorem refgcd9 (n : Nat) : ∀ (a b : Nat) (w : World), a + b ≤ n → a ≤ 1099511627776 → b ≤ 1099511627776 →
    Calls Try.prog 9 #[.int .i64 (a : Int), .int .i64 (b : Int)] w fun e w' => e = .returned (.int .i64 (Nat.gcd a b : Nat)) ∧ w' = w := by
  induction n with
  | zero =>
    intro a b w hn _ _
    obtain ⟨rfl, rfl⟩ : a = 0 ∧ b = 0 := by omega
    go_enter Try.func9, Try.ntmps9
    go_wp2_with fail
    go_ret
    exact ⟨rfl, rfl⟩
  | succ n ih =>
    intro a b w hn ha hb
    by_cases h0 : a = 0
    · subst h0
      rw [Nat.gcd_zero_left]
      rcases Nat.eq_zero_or_pos b with hb0 | hb0
      · subst hb0
        go_enter Try.func9, Try.ntmps9
        go_wp2_with fail
        go_ret
        exact ⟨rfl, rfl⟩
      · go_enter Try.func9, Try.ntmps9
        go_wp2_with fail
        go_ret
        exact ⟨rfl, rfl⟩
    by_cases h1 : b = 0
    · subst h1
      rw [Nat.gcd_zero_right]
      have g : ¬ (a : Int) ≤ 0 := by omega
      go_enter Try.func9, Try.ntmps9
      go_wp2_with fail
      go_ret
      exact ⟨rfl, rfl⟩
    have g : ¬ (a : Int) ≤ 0 := by omega
    have g' : ¬ (b : Int) ≤ 0 := by omega
    have z1 : ¬ (a : Int) = 0 := by omega
    have z2 : ¬ (b : Int) = 0 := by omega
    by_cases hc : b ≤ a
    · have hlt := Nat.mod_lt a (show 0 < b by omega)
      have e := tmodN a b
      have hg : Nat.gcd (a % b) b = Nat.gcd a b := by rw [Nat.gcd_comm (a % b) b, Nat.gcd_comm a b, Nat.gcd_rec b a, Nat.gcd_comm]
      have HI := Lib.hid (ih (a % b) b w (by omega) (by omega) hb)
      have HG := Lib.hid hg
      clear hg ih
      generalize a % b = r at *
      have hc' : (b : Int) ≤ a := by omega
      go_enter Try.func9, Try.ntmps9
      go_wp2_with fail
      refine HI.out.mono ?_
      rintro e w' ⟨rfl, rfl⟩
      go_wp2_with fail
      go_ret
      exact ⟨by rw [HG.out]; rfl, rfl⟩
    · have hlt := Nat.mod_lt b (show 0 < a by omega)
      have e := tmodN b a
      have hg : Nat.gcd a (b % a) = Nat.gcd a b := by rw [Nat.gcd_comm a (b % a), ← Nat.gcd_rec]
      have HI := Lib.hid (ih a (b % a) w (by omega) ha (by omega))
      have HG := Lib.hid hg
      clear hg ih
      generalize b % a = r at *
      have hc' : ¬ (b : Int) ≤ a := by omega
      go_enter Try.func9, Try.ntmps9
      go_wp2_with fail
      refine HI.out.mono ?_
      rintro e w' ⟨rfl, rfl⟩
      go_wp2_with fail
      go_ret
      exact ⟨by rw [HG.out]; rfl, rfl⟩
theorem refgcd9i (a b : Int) (ha : a ≤ 1099511627776) (hb : b ≤ 1099511627776) (w : World) :
    Calls Try.prog 9 #[.int .i64 a, .int .i64 b] w fun e w' => e = .returned (.int .i64 (Nat.gcd (natI a) (natI b) : Nat)) ∧ w' = w := by
  by_cases h0 : a ≤ 0
  · have e0 : natI a = 0 := by unfold natI; omega
    rw [e0, Nat.gcd_zero_left]
    have h5 : max 0 b = ((natI b : Nat) : Int) := by unfold natI; omega
    have h6 : (if b > 0 then b else 0) = ((natI b : Nat) : Int) := by unfold natI; split <;> omega
    generalize natI b = B at *
    go_enter Try.func9, Try.ntmps9
    go_wp2_with fail
    go_ret
    exact ⟨rfl, rfl⟩
  by_cases h1 : b ≤ 0
  · have e0 : natI b = 0 := by unfold natI; omega
    rw [e0, Nat.gcd_zero_right]
    have e1 : ((natI a : Nat) : Int) = a := by unfold natI; omega
    rw [e1]
    go_enter Try.func9, Try.ntmps9
    go_wp2_with fail
    go_ret
    exact ⟨rfl, rfl⟩
  obtain ⟨x, rfl⟩ := Int.eq_ofNat_of_zero_le (show 0 ≤ a by omega)
  obtain ⟨y, rfl⟩ := Int.eq_ofNat_of_zero_le (show 0 ≤ b by omega)
  exact refgcd9 (x + y) x y w (Nat.le_refl _) (by omega) (by omega)
def gcdI (a b : Int) : Nat := Nat.gcd (natI a) (natI b)
theorem gcd8i (a b : Int) (ha : a ≤ 1099511627776) (hb : b ≤ 1099511627776) (w : World) :
    Calls Try.prog 8 #[.int .i64 a, .int .i64 b] w fun e w' => e = .returned (.int .i64 ((gcdI a b : Nat) : Int)) ∧ w' = w := gcd8 a b ha hb w
theorem refgcd9j (a b : Int) (ha : a ≤ 1099511627776) (hb : b ≤ 1099511627776) (w : World) :
    Calls Try.prog 9 #[.int .i64 a, .int .i64 b] w fun e w' => e = .returned (.int .i64 ((gcdI a b : Nat) : Int)) ∧ w' = w := refgcd9i a b ha hb w
end Go.Proofs.Ytpjbdejgamajlaa
