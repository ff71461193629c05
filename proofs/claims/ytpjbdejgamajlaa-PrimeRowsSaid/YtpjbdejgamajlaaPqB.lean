/- prime: Next and Ahead at one place each, Inverse; awake; the laws PrimeGcd and PrimeInverse. -/
import Derived.Test.YtpjbdejgamajlaaPqA
namespace Go.Proofs.Ytpjbdejgamajlaa
open Go.RowKit

theorem next18 (w : World) :
    Calls Try.prog 18 #[.int .i64 100] w fun e w' => e = .returned (.int .i64 101) ∧ w' = w := by
  have HA := Lib.hid (show isP 100 = false by decide +kernel)
  have HB := Lib.hid (show isP 101 = true by decide +kernel)
  go_enter Try.func18, Try.ntmps18
  go_wp2_with fail
  go_loopw [3] (fun p wr => ∃ k : Nat, k ≤ 1 ∧ p = .int .i64 (100 + (k : Int)) ∧ wr = w) (fun p _ => 101 - (intOf p).toNat)
  case atStart => exact ⟨0, by omega, rfl, rfl⟩
  case round =>
    obtain ⟨k, hk, rfl, rfl⟩ := hrel
    match k, hk with
    | 0, _ =>
      go_wp2_with fail
      refine (is17 _ _).mono ?_
      rintro e w' ⟨rfl, rfl⟩
      have h := HA.out
      go_wp2_with fail
      go_roundw
      case rel => exact ⟨1, by omega, rfl, by trivial⟩
      case measure => simp [intOf]
    | 1, _ =>
      go_wp2_with fail
      refine (is17 _ _).mono ?_
      rintro e w' ⟨rfl, rfl⟩
      have h := HB.out
      go_wp2_with fail
      go_ret
      exact ⟨rfl, rfl⟩
theorem ahead19 (w : World) :
    Calls Try.prog 19 #[.int .i64 3] w fun e w' => e = .returned (.int .i64 2) ∧ w' = w := by
  have HB := Lib.hid (show isP 2 = true by decide +kernel)
  go_enter Try.func19, Try.ntmps19
  go_wp2_with fail
  go_loopw [3] (fun p wr => p = .int .i64 3 ∧ wr = w) (fun _ _ => 0)
  case atStart => exact ⟨rfl, rfl⟩
  case round =>
    obtain ⟨rfl, rfl⟩ := hrel
    go_wp2_with fail
    refine (is17 _ _).mono ?_
    rintro e w' ⟨rfl, rfl⟩
    have h := HB.out
    go_wp2_with fail
    go_ret
    exact ⟨rfl, rfl⟩
theorem wrapN {n : Nat} (h : n ≤ 4611686018427387904) : wrap64 (n : Int) = n := IntWalk.wrap64_in _ ⟨by omega, by omega⟩
theorem wrapI {z : Int} (h1 : -4611686018427387904 ≤ z) (h2 : z ≤ 4611686018427387904) : wrap64 z = z := IntWalk.wrap64_in _ ⟨by omega, by omega⟩
theorem wrap_rest (R S : Nat) (hR : R ≤ 4611686018427387904) : wrap64 ((R : Int) - ((R / S * S : Nat) : Int)) = ((R % S : Nat) : Int) := by
  have h := Nat.div_add_mod R S
  rw [Nat.mul_comm] at h
  generalize R / S * S = a at *
  generalize R % S = b at *
  rw [show (R : Int) - (a : Int) = (b : Int) by omega]
  exact wrapN (by omega)
theorem wrap_two {m : Nat} {x y q : Int} (hx : -(m : Int) ≤ x ∧ x ≤ m) (_ : -(m : Int) ≤ y ∧ y ≤ m) (hz : -(m : Int) ≤ x - q ∧ x - q ≤ m) (hm : m ≤ 1048576) : wrap64 q = q ∧ wrap64 (x - q) = x - q :=
  ⟨wrapI (by omega) (by omega), wrapI (by omega) (by omega)⟩
/-- What Inverse returns. -/
def InvP (a m x : Int) : Prop := ((m < 2 ∨ 1048576 < m) → x = 0) ∧ (2 ≤ m → m ≤ 1048576 → (Nat.gcd (natI (a % m)) (natI m) ≠ 1 → x = 0) ∧ (Nat.gcd (natI (a % m)) (natI m) = 1 → 0 < x ∧ x < m ∧ ((a % m) * x) % m = 1))
set_option maxHeartbeats 2000000 in
theorem inverse16 (a m : Int) (w : World) :
    Calls Try.prog 16 #[.int .i64 a, .int .i64 m] w fun e w' => ∃ x : Int, e = .returned (.int .i64 x) ∧ InvP a m x ∧ w' = w := by
  by_cases h2 : m < 2
  · have hp : InvP a m 0 := ⟨fun _ => rfl, fun h => by omega⟩
    go_enter Try.func16, Try.ntmps16
    go_wp2_with fail
    go_ret
    exact ⟨0, rfl, hp, rfl⟩
  by_cases hm : 1048576 < m
  · have hp : InvP a m 0 := ⟨fun _ => rfl, fun h => by omega⟩
    go_enter Try.func16, Try.ntmps16
    go_wp2_with fail
    go_ret
    exact ⟨0, rfl, hp, rfl⟩
  obtain ⟨M, rfl⟩ := Int.eq_ofNat_of_zero_le (show 0 ≤ m by omega)
  obtain ⟨A, hA⟩ := Int.eq_ofNat_of_zero_le (Int.emod_nonneg a (b := (M : Int)) (by omega))
  have hAM := Int.emod_lt_of_pos a (b := (M : Int)) (by omega)
  have HM := Lib.hid (mod21 a M (by omega) (by omega) w)
  rw [hA] at HM hAM
  have HX := Lib.hid (fun x w h1 h2 => mod21 x M h1 h2 w)
  have HS := Lib.hid (InvE.start (m := M) (A := A) (by omega))
  have HP : Hid (∀ x : Int, (Nat.gcd A M ≠ 1 → x = 0) → (Nat.gcd A M = 1 → 0 < x ∧ x < M ∧ ((A : Int) * x) % M = 1) → InvP a M x) := by
    intro x h1 h2
    refine ⟨fun h => by omega, fun _ _ => ?_⟩
    have e1 : natI (M : Int) = M := by simp [natI]
    have e2 : natI (A : Int) = A := by simp [natI]
    rw [hA, e1, e2]
    exact ⟨h1, h2⟩
  have hM2 : 2 ≤ M := by omega
  have hMm : M ≤ 1048576 := by omega
  have hAM2 : A ≤ M := by omega
  clear hA
  go_enter Try.func16, Try.ntmps16
  go_wp2_with fail
  refine HM.out.mono ?_
  rintro e w' ⟨rfl, rfl⟩
  go_wp2_with fail
  go_loopw [5, 6, 7, 8, 9] (fun r s x y _ wr => ∃ (R S : Nat) (X Y : Int), r = .int .i64 (R : Int) ∧ s = .int .i64 (S : Int) ∧ x = .int .i64 X ∧ y = .int .i64 Y ∧ S ≤ M ∧ Hid (InvE M A R S X Y) ∧ wr = w') (fun _ s _ _ _ _ => (intOf s).toNat)
  case atStart => exact ⟨M, A, 0, 1, rfl, rfl, rfl, rfl, hAM2, HS, rfl⟩
  case round =>
    clear HM HS
    obtain ⟨R, S, X, Y, rfl, rfl, rfl, rfl, hSM, hI, rfl⟩ := hrel
    have hRM := hI.out.rm
    have hR1 := hI.out.r
    by_cases hS : S = 0
    · subst hS
      by_cases hR : R = 1
      · subst hR
        have hf := hI.out.fin hM2 rfl
        have hg := hI.out.g
        rw [Nat.gcd_zero_right] at hg
        have HQ : Hid (InvP a M (X % M)) := HP.out _ (fun h => absurd hg.symm h) (fun _ => hf)
        clear hf hg hI
        go_wp2_with fail
        refine (HX.out X _ (by omega) (by omega)).mono ?_
        rintro e w' ⟨rfl, rfl⟩
        go_wp2_with fail
        go_ret
        exact ⟨_, rfl, HQ.out, rfl⟩
      · have hg := hI.out.g
        rw [Nat.gcd_zero_right] at hg
        have HQ : Hid (InvP a M 0) := HP.out _ (fun _ => rfl) (fun h => absurd (hg.trans h) hR)
        have hne : ¬ (R : Int) = 1 := by omega
        have hne2 : ((R : Int) != 1) = true := by rw [bne_iff_ne]; omega
        clear hg hI
        go_wp2_with fail
        go_ret
        exact ⟨_, rfl, HQ.out, rfl⟩
    · have hn := hI.out.step (by omega) hSM
      have yb := hI.out.yb
      have xb := hI.out.xb
      have nb := hn.yb
      have hlt := Nat.mod_lt R (show 0 < S by omega)
      have hz : ¬ (S : Int) = 0 := by omega
      have hz2 : ((S : Int) != 0) = true := by rw [bne_iff_ne]; omega
      have ed := tdivN R S
      have ep : ((R / S : Nat) : Int) * (S : Int) = ((R / S * S : Nat) : Int) := by simp
      have hle := Nat.div_mul_le_self R S
      have ew0 : wrap64 ((R / S : Nat) : Int) = ((R / S : Nat) : Int) := wrapN (Nat.le_trans (Nat.div_le_self R S) (by omega))
      have ew1 : wrap64 ((R / S * S : Nat) : Int) = ((R / S * S : Nat) : Int) := wrapN (by omega)
      have es : wrap64 ((R : Int) - ((R / S * S : Nat) : Int)) = ((R % S : Nat) : Int) := wrap_rest R S (by omega)
      have ew2 : wrap64 (((R / S : Nat) : Int) * Y) = ((R / S : Nat) : Int) * Y := (wrap_two xb yb nb (by omega)).1
      have ew3 : wrap64 (X - ((R / S : Nat) : Int) * Y) = X - ((R / S : Nat) : Int) * Y := (wrap_two xb yb nb (by omega)).2
      have HN := Lib.hid hn
      clear hn hI yb xb nb hle
      obtain ⟨QY, hQY⟩ : ∃ QY, ((R / S : Nat) : Int) * Y = QY := ⟨_, rfl⟩
      rw [hQY] at ew2 ew3 HN
      obtain ⟨Z, hQZ⟩ : ∃ Z, X - QY = Z := ⟨_, rfl⟩
      rw [hQZ] at ew3 HN
      generalize R / S * S = QS at *
      generalize R / S = Q at *
      generalize R % S = T at *
      go_wp2_with fail
      go_roundw
      case rel => exact ⟨S, T, Y, Z, rfl, by rw [es], rfl, by rw [ew3], by omega, HN, by trivial⟩
      case measure => simp [intOf]; omega
theorem inv37 {x : Int} (h : InvP 3 7 x) : x = 5 := by
  obtain ⟨_, h2⟩ := h
  obtain ⟨h3, h4, h5⟩ := (h2 (by decide) (by decide)).2 (by decide)
  have e : (3 : Int) % 7 = 3 := by decide
  rw [e] at h5
  omega
theorem awake7 (w : World) : Calls Try.prog 7 #[] w fun e w' => e = .returned (.bool true) ∧ w' = w := by
  have H1 := Lib.hid (show isP 101 = true by decide +kernel)
  have H2 := Lib.hid (show isP 91 = false by decide +kernel)
  have H3 := Lib.hid (show Nat.gcd (natI 12) (natI 18) = 6 by decide +kernel)
  go_enter Try.func7, Try.ntmps7
  go_wp2_with fail
  refine (is17 _ _).mono ?_
  rintro e w' ⟨rfl, rfl⟩
  have h := H1.out
  go_wp2_with fail
  refine (is17 _ _).mono ?_
  rintro e w' ⟨rfl, rfl⟩
  have h := H2.out
  go_wp2_with fail
  refine (next18 _).mono ?_
  rintro e w' ⟨rfl, rfl⟩
  go_wp2_with fail
  refine (ahead19 _).mono ?_
  rintro e w' ⟨rfl, rfl⟩
  go_wp2_with fail
  refine (inverse16 3 7 _).mono ?_
  rintro e w' ⟨x, rfl, hx, rfl⟩
  obtain rfl := inv37 hx
  clear hx
  go_wp2_with fail
  refine (gcd8 12 18 (by omega) (by omega) _).mono ?_
  rintro e w' ⟨rfl, rfl⟩
  rw [H3.out]
  go_wp2_with fail
  go_ret
  exact ⟨rfl, rfl⟩
set_option maxHeartbeats 1000000 in
theorem lawPrimeGcd (a b : Int) (w : World) :
    Calls Try.prog 3 #[.int .i64 a, .int .i64 b] w fun e w' => e = .returned (.bool true) ∧ Below w.heap.size w w' := by
  have HB := Lib.hid (Below.refl w.heap.size w)
  go_enter Try.func3, Try.ntmps3
  go_wp2_with fail
  refine (awake7 _).mono ?_
  rintro e w' ⟨rfl, rfl⟩
  go_wp2_with (go_at_call 8; refine (gcd8i _ _ (by omega) (by omega) _).mono ?_; rintro e w' ⟨rfl, rfl⟩)
  all_goals (refine (refgcd9j _ _ (by omega) (by omega) _).mono ?_; rintro e w' ⟨rfl, rfl⟩; go_wp2_with fail; go_ret; exact ⟨by simp, HB.out⟩)
theorem inv_end {a m x : Int} (h : InvP a m x) (h2 : 2 ≤ m) (hm : m ≤ 1048576) (hg : gcdI (a % m) m = 1) : 0 < x ∧ x < m ∧ ((a % m) * x).tmod m = 1 ∧ wrap64 ((a % m) * x) = (a % m) * x := by
  obtain ⟨_, h3⟩ := h
  obtain ⟨h4, h5, h6⟩ := (h3 h2 hm).2 hg
  have h7 := Int.emod_nonneg a (b := m) (by omega)
  have h8 := Int.emod_lt_of_pos a (b := m) (by omega)
  have h9 : 0 ≤ (a % m) * x := Int.mul_nonneg h7 (by omega)
  have h10 : (a % m) * x ≤ 1048576 * 1048576 := Int.mul_le_mul (by omega) (by omega) (by omega) (by omega)
  refine ⟨h4, h5, ?_, wrapI (by omega) (by omega)⟩
  rw [Int.tmod_eq_emod_of_nonneg h9]; exact h6
set_option maxHeartbeats 1000000 in
theorem lawPrimeInverse (a m : Int) (w : World) :
    Calls Try.prog 6 #[.int .i64 a, .int .i64 m] w fun e w' => e = .returned (.bool true) ∧ Below w.heap.size w w' := by
  have HB := Lib.hid (Below.refl w.heap.size w)
  go_enter Try.func6, Try.ntmps6
  go_wp2_with fail
  refine (awake7 _).mono ?_
  rintro e w' ⟨rfl, rfl⟩
  go_wp2_with fail
  refine (inverse16 a m _).mono ?_
  rintro e w' ⟨x, rfl, hx, rfl⟩
  by_cases h2 : m < 2
  · obtain rfl := hx.1 (.inl h2)
    clear hx
    go_wp2_with fail
    go_ret
    exact ⟨rfl, HB.out⟩
  by_cases hm : 1048576 < m
  · obtain rfl := hx.1 (.inr hm)
    clear hx
    go_wp2_with fail
    go_ret
    exact ⟨rfl, HB.out⟩
  have h7 := Int.emod_nonneg a (b := m) (by omega)
  have h8 := Int.emod_lt_of_pos a (b := m) (by omega)
  by_cases hg : gcdI (a % m) m = 1
  · obtain ⟨g1, g2, g3, g4⟩ := inv_end hx (by omega) (by omega) hg
    have hz : ¬ m = 0 := by omega
    have hgg : (((gcdI (a % m) m : Nat) : Int) != 1) = false := by rw [hg]; rfl
    clear hx
    go_wp2_with fail
    refine (refmod15 a m (by omega) (by omega) _).mono ?_
    rintro e w' ⟨rfl, rfl⟩
    go_wp2_with fail
    refine (refgcd9j _ _ (by omega) (by omega) _).mono ?_
    rintro e w' ⟨rfl, rfl⟩
    go_wp2_with fail
    refine (refmod15 a m (by omega) (by omega) _).mono ?_
    rintro e w' ⟨rfl, rfl⟩
    go_wp2_with fail
    go_ret
    exact ⟨rfl, HB.out⟩
  · obtain rfl := ((hx.2 (by omega) (by omega)).1 hg)
    have hgg : (((gcdI (a % m) m : Nat) : Int) != 1) = true := by rw [bne_iff_ne]; omega
    clear hx
    go_wp2_with fail
    refine (refmod15 a m (by omega) (by omega) _).mono ?_
    rintro e w' ⟨rfl, rfl⟩
    go_wp2_with fail
    refine (refgcd9j _ _ (by omega) (by omega) _).mono ?_
    rintro e w' ⟨rfl, rfl⟩
    go_wp2_with fail
    go_ret
    exact ⟨rfl, HB.out⟩
end Go.Proofs.Ytpjbdejgamajlaa
