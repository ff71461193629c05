/- Floats: Halve of what is no number; the reference's; both are one number; awake. -/
import Derived.Test.YtbgppkjcmgljnaaDoorFlI
import Derived.Test.YtbgppkjcmgljnaaDoorFmZ
namespace Go.Proofs.YtbgppkjcmgljnaaDoor
open Go.RowKit

theorem plainF_nan (x : Nat) (hn : isN x = true) : plainF x = x := by unfold plainF; rw [kf_nan hn, if_neg (by decide)]
set_option maxRecDepth 100000 in
set_option maxHeartbeats 1000000 in
theorem halve_nan (x : Nat) (hn : isN x = true) (n : Int) (w : World) :
    Calls Tryd.prog 16 #[.float .f64 x, .int .i64 n] w fun e w' => e = .returned (.float .f64 (plainF x)) ∧ Below w.heap.size w w' := by
  obtain ⟨b, _, hb, hq⟩ := run_half_nan x hn w
  have hz : cmpF b x = 0 := by unfold cmpF; rw [kf_nan hb, kf_nan hn]; rfl
  have hc := compare5 b x
  rw [hz] at hc
  have hp := plain3 x
  have hbd : Below w.heap.size w w.drew := (Below.refl _ _).drew
  clear hz hb hn
  generalize w.drew = W at *
  generalize hB : w.heap.size = B at *
  by_cases hlt : 0 < n
  · go_enter Tryd.func16, Tryd.ntmps16
    go_wp2_with fail
    go_loopw [0, 5, 7] (fun v _ i wr => i = .int .i64 0 ∧ v = .float .f64 x ∧ wr = w) (fun _ _ i _ => 1 - (intOf i).toNat)
    case atStart => exact ⟨rfl, rfl, rfl⟩
    case round =>
      obtain ⟨rfl, rfl, rfl⟩ := hrel
      go_wp2_with (first | (go_at_call 9; with_reducible refine (hc _).mono ?_; rintro e w' ⟨rfl, rfl⟩) | (go_at_call 28; with_reducible refine (hp _).mono ?_; rintro e w' ⟨rfl, rfl⟩))
      go_ret
      exact ⟨rfl, hbd⟩
  · go_enter Tryd.func16, Tryd.ntmps16
    go_wp2_with fail
    go_loopw [0, 5, 7] (fun v _ i wr => i = .int .i64 0 ∧ v = .float .f64 x ∧ wr = w) (fun _ _ i _ => 1 - (intOf i).toNat)
    case atStart => exact ⟨rfl, rfl, rfl⟩
    case round =>
      obtain ⟨rfl, rfl, rfl⟩ := hrel
      go_wp2_with (go_at_call 28; with_reducible refine (hp _).mono ?_; rintro e w' ⟨rfl, rfl⟩)
      go_ret
      exact ⟨rfl, by subst hB; exact Below.refl _ _⟩
theorem halve_all (x : Nat) (hx : x < 18446744073709551616) (n : Int) (hn1 : n ≤ 1000000) (w : World) :
    Calls Tryd.prog 16 #[.float .f64 x, .int .i64 n] w fun e w' => e = .returned (.float .f64 (hvF x n)) ∧ Below w.heap.size w w' := by
  unfold hvF
  cases hn : isN x
  · refine (halve_num x hx hn n hn1 w).mono ?_
    rintro e w' ⟨rfl, rfl⟩
    exact ⟨rfl, Below.refl _ _⟩
  · exact halve_nan x hn n w

set_option maxRecDepth 100000 in
set_option maxHeartbeats 1000000 in
theorem rhalve_nan (x : Nat) (hx : x < 18446744073709551616) (hn : isN x = true) (n : Int) (w : World) :
    Calls Tryd.prog 17 #[.float .f64 x, .int .i64 n] w fun e w' => e = .returned (.float .f64 (plainF x)) ∧ w' = w := by
  have hk := key4 x hx
  have hi := nan6 x
  have hp := rplain3 x hx
  rw [kf_nan hn] at hk
  rw [hn] at hi
  clear hn hx
  by_cases hlt : 0 < n
  all_goals (
    go_enter Tryd.func17, Tryd.ntmps17
    go_wp2_with fail
    go_loopw [0, 1] (fun v i wr => i = .int .i64 n ∧ v = .float .f64 x ∧ wr = w) (fun _ i _ => 1 - (intOf i).toNat)
    case atStart => exact ⟨rfl, rfl, rfl⟩
    case round =>
      obtain ⟨rfl, rfl, rfl⟩ := hrel
      go_wp2_with (first | (go_at_call 25; with_reducible refine (hk _).mono ?_; rintro e w' ⟨rfl, rfl⟩) | (go_at_call 15; with_reducible refine (hi _).mono ?_; rintro e w' ⟨rfl, rfl⟩) | (go_at_call 31; with_reducible refine (hp _).mono ?_; rintro e w' ⟨rfl, rfl⟩))
      go_ret
      exact ⟨rfl, rfl⟩)
set_option maxRecDepth 100000 in
set_option maxHeartbeats 1000000 in
theorem rhalve_num (x : Nat) (hx : x < 18446744073709551616) (hn : isN x = false) (n : Int) (hn0 : 0 ≤ n) (hn1 : n ≤ 1000000) (w : World) :
    Calls Tryd.prog 17 #[.float .f64 x, .int .i64 n] w fun e w' => e = .returned (.float .f64 (plainF (itF x n.toNat))) ∧ w' = w := by
  obtain ⟨N, rfl⟩ := Int.eq_ofNat_of_zero_le hn0
  rw [Int.toNat_natCast]
  have HH := Lib.hid (itF_ok x hx hn)
  have HF := Lib.hid (itF_fix x hx hn)
  obtain ⟨R, hR⟩ : ∃ R, R = plainF (itF x N) := ⟨_, rfl⟩
  rw [← hR]
  have HR := Lib.hid hR
  clear hR hx hn
  go_enter Tryd.func17, Tryd.ntmps17
  go_wp2_with fail
  go_loopw [0, 1] (fun v i wr => ∃ j d : Nat, j + d = N ∧ i = .int .i64 (d : Int) ∧ v = .float .f64 (itF x j) ∧ wr = w) (fun _ i _ => (intOf i).toNat)
  case atStart => exact ⟨0, N, by omega, rfl, rfl, rfl⟩
  case round =>
    obtain ⟨j, d, hj, rfl, rfl, rfl⟩ := hrel
    have ok := HH.out j
    have hk := key4 (itF x j) ok.1
    have hi := nan6 (itF x j)
    have hf := far3 (itF x j) ok.1
    have hp := rplain3 (itF x j) ok.1
    rw [ok.2] at hi
    by_cases hlt : 0 < d
    · have hlt' : (0 : Int) < d := by omega
      by_cases h0 : kf (itF x j) = 0
      · have e : itF x N = itF x j := by
          have := HF.out j (.inl (mg_of_kf0 ok.2 h0)) d
          rwa [hj] at this
        have HE := Lib.hid e
        rw [h0] at hk
        clear e ok h0 hf
        generalize itF x j = y at *
        go_wp2_with (first | (go_at_call 25; with_reducible refine (hk _).mono ?_; rintro e w' ⟨rfl, rfl⟩) | (go_at_call 15; with_reducible refine (hi _).mono ?_; rintro e w' ⟨rfl, rfl⟩) | (go_at_call 31; with_reducible refine (hp _).mono ?_; rintro e w' ⟨rfl, rfl⟩))
        go_ret
        exact ⟨by rw [HR.out, HE.out]; rfl, rfl⟩
      · have h0' : (kf (itF x j) != 0) = true := by rw [bne_iff_ne]; exact h0
        cases hfar : farF (itF x j)
        · have s := hfN_spec (itF x j) ok.2
          have hq := fun w t => run_float_arith (P := Tryd.prog) w .quo t .f64 (itF x j) 4611686018427387904 (hfN (itF x j)) s.1
          have e : itF x (j + 1) = hfN (itF x j) := rfl
          have HE := Lib.hid e
          rw [hfar] at hf
          clear e ok h0 s hfar
          generalize itF x j = y at *
          generalize hfN y = z at *
          generalize kf y = k at *
          go_wp2_with (first | (go_at_call 25; with_reducible refine (hk _).mono ?_; rintro e w' ⟨rfl, rfl⟩) | (go_at_call 15; with_reducible refine (hi _).mono ?_; rintro e w' ⟨rfl, rfl⟩) | (go_at_call 32; with_reducible refine (hf _).mono ?_; rintro e w' ⟨rfl, rfl⟩))
          go_roundw
          case rel => exact ⟨j + 1, d - 1, by omega, by go_num, by rw [HE.out], trivial⟩
          case measure => simp [intOf]; omega
        · have e : itF x N = itF x j := by
            have := HF.out j (.inr (by simpa [farF] using hfar)) d
            rwa [hj] at this
          have HE := Lib.hid e
          rw [hfar] at hf
          clear e ok h0 hfar
          generalize itF x j = y at *
          generalize kf y = k at *
          go_wp2_with (first | (go_at_call 25; with_reducible refine (hk _).mono ?_; rintro e w' ⟨rfl, rfl⟩) | (go_at_call 15; with_reducible refine (hi _).mono ?_; rintro e w' ⟨rfl, rfl⟩) | (go_at_call 32; with_reducible refine (hf _).mono ?_; rintro e w' ⟨rfl, rfl⟩) | (go_at_call 31; with_reducible refine (hp _).mono ?_; rintro e w' ⟨rfl, rfl⟩))
          go_ret
          exact ⟨by rw [HR.out, HE.out]; rfl, rfl⟩
    · obtain rfl : d = 0 := by omega
      obtain rfl : j = N := by omega
      have hlt' : ¬ ((0 : Int) < ((0 : Nat) : Int)) := by decide
      clear ok
      generalize itF x j = y at *
      go_wp2_with (go_at_call 31; with_reducible refine (hp _).mono ?_; rintro e w' ⟨rfl, rfl⟩)
      go_ret
      exact ⟨by rw [HR.out]; rfl, rfl⟩
set_option maxRecDepth 100000 in
theorem rhalve_neg (x : Nat) (hx : x < 18446744073709551616) (n : Int) (hn0 : n < 0) (w : World) :
    Calls Tryd.prog 17 #[.float .f64 x, .int .i64 n] w fun e w' => e = .returned (.float .f64 (plainF x)) ∧ w' = w := by
  have hp := rplain3 x hx
  have hlt : ¬ 0 < n := by omega
  clear hx hn0
  go_enter Tryd.func17, Tryd.ntmps17
  go_wp2_with fail
  go_loopw [0, 1] (fun v i wr => i = .int .i64 n ∧ v = .float .f64 x ∧ wr = w) (fun _ i _ => 1 - (intOf i).toNat)
  case atStart => exact ⟨rfl, rfl, rfl⟩
  case round =>
    obtain ⟨rfl, rfl, rfl⟩ := hrel
    go_wp2_with (go_at_call 31; with_reducible refine (hp _).mono ?_; rintro e w' ⟨rfl, rfl⟩)
    go_ret
    exact ⟨rfl, rfl⟩
theorem rhalve_all (x : Nat) (hx : x < 18446744073709551616) (n : Int) (hn1 : n ≤ 1000000) (w : World) :
    Calls Tryd.prog 17 #[.float .f64 x, .int .i64 n] w fun e w' => e = .returned (.float .f64 (hvF x n)) ∧ w' = w := by
  unfold hvF
  cases hn : isN x
  · by_cases h : 0 ≤ n
    · exact rhalve_num x hx hn n h hn1 w
    · have e : n.toNat = 0 := by omega
      rw [e]
      exact rhalve_neg x hx n (by omega) w
  · exact rhalve_nan x hx hn n w
end Go.Proofs.YtbgppkjcmgljnaaDoor
