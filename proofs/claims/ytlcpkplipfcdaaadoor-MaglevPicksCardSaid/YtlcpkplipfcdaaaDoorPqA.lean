/- prime: leastDivisor, modulo, Is, Gcd; the reference's Is, Gcd, Mod. -/
import Derived.Test.YtlcpkplipfcdaaaDoorPqM
import Derived.IntWalk
namespace Go.Proofs.YtlcpkplipfcdaaaDoor
open Go.RowKit

theorem tmodN (a b : Nat) : ((a : Int).tmod (b : Int)) = ((a % b : Nat) : Int) := by rw [Int.tmod_eq_emod_of_nonneg (by omega)]; rfl
theorem tdivN (a b : Nat) : ((a : Int).tdiv (b : Int)) = ((a / b : Nat) : Int) := by rw [Int.tdiv_eq_ediv_of_nonneg (by omega)]; rfl
theorem sq_le {d n m : Nat} (h : d * d ≤ n) (hn : n < m * m) : d < m := by
  rcases Nat.lt_or_ge d m with hl | hl
  · exact hl
  · have := Nat.mul_le_mul hl hl; omega
theorem dvd_of_rem {n d : Nat} (h : ((n % d : Nat) : Int) = 0) : d ∣ n := Nat.dvd_of_mod_eq_zero (by omega)
theorem ndvd_of_rem {n d : Nat} (h : ¬ ((n % d : Nat) : Int) = 0) : ¬ d ∣ n := fun hd => h (by rw [Nat.mod_eq_zero_of_dvd hd]; rfl)
set_option maxHeartbeats 1000000 in
theorem least20 (n : Nat) (h2 : 2 ≤ n) (hm : n ≤ 1048576) (w : World) :
    Calls Tryd.prog 56 #[.int .i64 (n : Int)] w fun e w' => ∃ p : Nat, e = .returned (.int .i64 (p : Int)) ∧ LD n p ∧ w' = w := by
  go_enter Tryd.func56, Tryd.ntmps56
  go_wp2_with fail
  go_loopw [3] (fun d wr => ∃ D : Nat, 2 ≤ D ∧ D ≤ 1025 ∧ d = .int .i64 (D : Int) ∧ NoDiv n D ∧ wr = w) (fun d _ => 1025 - (intOf d).toNat)
  case atStart => exact ⟨2, by omega, by omega, rfl, NoDiv.two n, rfl⟩
  case round =>
    obtain ⟨D, hD2, hDm, rfl, hnd, rfl⟩ := hrel
    have hsq := Nat.mul_le_mul hDm hDm
    have em : (D : Int) * (D : Int) = ((D * D : Nat) : Int) := by simp
    have ew : wrap64 ((D * D : Nat) : Int) = ((D * D : Nat) : Int) := by unfold wrap64; omega
    have er := tmodN n D
    have hz : ¬ (D : Int) = 0 := by omega
    by_cases hc : D * D ≤ n
    · have hD := sq_le (m := 1025) hc (by omega)
      have hc' : ((D * D : Nat) : Int) ≤ (n : Int) := by omega
      by_cases hd : D ∣ n
      · have hr0 : ((n % D : Nat) : Int) = 0 := by rw [Nat.mod_eq_zero_of_dvd hd]; rfl
        have hl := hnd.hit hD2 hd
        have hr1 : ((n : Int).tmod (D : Int)) = 0 := by rw [er, hr0]
        clear er hr0 hd hnd
        generalize D * D = Q at *
        go_wp2_with fail
        go_ret
        exact ⟨D, rfl, hl, rfl⟩
      · have hr0 : ¬ ((n % D : Nat) : Int) = 0 := fun h => hd (dvd_of_rem h)
        have hs := hnd.step hd
        generalize n % D = R at *
        generalize D * D = Q at *
        go_wp2_with fail
        go_roundw
        case rel => exact ⟨D + 1, by omega, by omega, by go_num, hs, by trivial⟩
        case measure => simp [intOf]; omega
    · have hl := hnd.stop h2 (by omega)
      have hc' : ¬ ((D * D : Nat) : Int) ≤ (n : Int) := by omega
      clear hc er
      generalize D * D = Q at *
      go_wp2_with fail
      go_ret
      exact ⟨n, rfl, hl, rfl⟩
set_option maxHeartbeats 1000000 in
theorem refis11 (n : Int) (w : World) :
    Calls Tryd.prog 43 #[.int .i64 n] w fun e w' => e = .returned (.bool (isP n)) ∧ w' = w := by
  by_cases h2 : n < 2
  · rw [isP_low h2]
    go_enter Tryd.func43, Tryd.ntmps43
    go_wp2_with fail
    go_ret
    exact ⟨rfl, rfl⟩
  by_cases hm : 1048576 < n
  · rw [isP_high hm]
    go_enter Tryd.func43, Tryd.ntmps43
    go_wp2_with fail
    go_ret
    exact ⟨rfl, rfl⟩
  obtain ⟨n, rfl⟩ := Int.eq_ofNat_of_zero_le (show 0 ≤ n by omega)
  have h2 : 2 ≤ n := by omega
  have hm : n ≤ 1048576 := by omega
  rw [isP_mid h2 hm]
  have g1 : ¬ ((n : Int) < 2) := by omega
  have g2 : ¬ ((1048576 : Int) < n) := by omega
  go_enter Tryd.func43, Tryd.ntmps43
  go_wp2_with fail
  go_loopw [3] (fun d wr => ∃ D : Nat, 2 ≤ D ∧ D ≤ 1025 ∧ d = .int .i64 (D : Int) ∧ NoDiv n D ∧ wr = w) (fun d _ => 1025 - (intOf d).toNat)
  case atStart => exact ⟨2, by omega, by omega, rfl, NoDiv.two n, rfl⟩
  case round =>
    obtain ⟨D, hD2, hDm, rfl, hnd, rfl⟩ := hrel
    have hsq := Nat.mul_le_mul hDm hDm
    have em : (D : Int) * (D : Int) = ((D * D : Nat) : Int) := by simp
    have ew : wrap64 ((D * D : Nat) : Int) = ((D * D : Nat) : Int) := by unfold wrap64; omega
    have er := tmodN n D
    have hz : ¬ (D : Int) = 0 := by omega
    by_cases hc : D * D ≤ n
    · have hD := sq_le (m := 1025) hc (by omega)
      have hc' : ((D * D : Nat) : Int) ≤ (n : Int) := by omega
      by_cases hd : D ∣ n
      · have hr0 : ((n % D : Nat) : Int) = 0 := by rw [Nat.mod_eq_zero_of_dvd hd]; rfl
        have hl := NoDiv.not hD2 hd hc
        have hr1 : ((n : Int).tmod (D : Int)) = 0 := by rw [er, hr0]
        clear er hr0 hd hnd
        generalize D * D = Q at *
        have HL := Lib.hid hl
        clear hl
        go_wp2_with fail
        go_ret
        exact ⟨by rw [HL.out]; rfl, rfl⟩
      · have hr0 : ¬ ((n % D : Nat) : Int) = 0 := fun h => hd (dvd_of_rem h)
        have hs := hnd.step hd
        generalize n % D = R at *
        generalize D * D = Q at *
        go_wp2_with fail
        go_roundw
        case rel => exact ⟨D + 1, by omega, by omega, by go_num, hs, by trivial⟩
        case measure => simp [intOf]; omega
    · have hl := hnd.prime (by omega) (by omega)
      have hc' : ¬ ((D * D : Nat) : Int) ≤ (n : Int) := by omega
      clear hc er
      generalize D * D = Q at *
      have HL := Lib.hid hl
      clear hl
      go_wp2_with fail
      go_ret
      exact ⟨by rw [HL.out]; rfl, rfl⟩
theorem is17 (n : Int) (w : World) :
    Calls Tryd.prog 38 #[.int .i64 n] w fun e w' => e = .returned (.bool (isP n)) ∧ w' = w := by
  by_cases h2 : n < 2
  · rw [isP_low h2]
    have g : ¬ (1 : Int) < n := by omega
    go_enter Tryd.func38, Tryd.ntmps38
    go_wp2_with fail
    go_ret
    exact ⟨rfl, rfl⟩
  by_cases hm : 1048576 < n
  · rw [isP_high hm]
    have g : (1 : Int) < n := by omega
    have g2 : ¬ n ≤ 1048576 := by omega
    go_enter Tryd.func38, Tryd.ntmps38
    go_wp2_with fail
    go_ret
    exact ⟨rfl, rfl⟩
  obtain ⟨n, rfl⟩ := Int.eq_ofNat_of_zero_le (show 0 ≤ n by omega)
  have g : (1 : Int) < n := by omega
  have g2 : (n : Int) ≤ 1048576 := by omega
  have HL := least20 n (by omega) (by omega) w
  have HI := Lib.hid (fun p hp => isP_LD (n := n) (p := p) (by omega) (by omega) hp)
  go_enter Tryd.func38, Tryd.ntmps38
  go_wp2_with fail
  refine HL.mono ?_
  rintro e w' ⟨p, rfl, hp, rfl⟩
  have HH := Lib.hid (HI.out p hp)
  clear hp HI
  go_wp2_with fail
  go_ret
  exact ⟨by rw [HH.out]; rfl, rfl⟩
theorem tmod_fix (n m : Int) (hm : 0 < m) (hm2 : m ≤ 1048576) : wrap64 (n.tmod m + m) = n.tmod m + m ∧ (n.tmod m + m).tmod m = n % m := by
  have h1 := Int.tmod_lt_of_pos n hm
  have h2 := Int.lt_tmod_of_pos n hm
  refine ⟨by unfold wrap64; omega, ?_⟩
  rw [Int.tmod_eq_emod_of_nonneg (by omega)]
  have h3 := Int.mul_tdiv_add_tmod n m
  have h4 : n.tmod m + m = n + m * (1 - n.tdiv m) := by rw [Int.mul_sub]; omega
  rw [h4, Int.add_mul_emod_self_left]
theorem refmod15 (n m : Int) (hm : 0 < m) (hm2 : m ≤ 1048576) (w : World) :
    Calls Tryd.prog 67 #[.int .i64 n, .int .i64 m] w fun e w' => e = .returned (.int .i64 (n % m)) ∧ w' = w := by
  have h1 := Int.tmod_lt_of_pos n hm
  have h2 := Int.lt_tmod_of_pos n hm
  have hz : ¬ m = 0 := by omega
  have hq := tmod_fix n m hm hm2
  by_cases hn : n.tmod m < 0
  · have hv : n % m = n.tmod m + m := by
      rw [← hq.2, Int.tmod_eq_emod_of_nonneg (by omega), Int.emod_eq_of_lt (by omega) (by omega)]
    have hw := hq.1
    rw [hv]
    go_enter Tryd.func67, Tryd.ntmps67
    go_wp2_with fail
    go_ret
    exact ⟨rfl, rfl⟩
  · have hv : n % m = n.tmod m := by
      rw [← hq.2, Int.tmod_eq_emod_of_nonneg (by omega), Int.add_emod_right, Int.emod_eq_of_lt (by omega) (by omega)]
    rw [hv]
    go_enter Tryd.func67, Tryd.ntmps67
    go_wp2_with fail
    go_ret
    exact ⟨rfl, rfl⟩
/-- A number below 0 counts as 0. -/
def natI (a : Int) : Nat := a.toNat
def gcdI (a b : Int) : Nat := Nat.gcd (natI a) (natI b)
end Go.Proofs.YtlcpkplipfcdaaaDoor
