/- Floats: Halve of score and of its reference. -/
import Derived.Test.YtbgppkjcmgljnaaDoorFlH
namespace Go.Proofs.YtbgppkjcmgljnaaDoor
open Go.RowKit

def hfN (x : Nat) : Nat := (floatBits .quo .f64 x 4611686018427387904).getD x
theorem hfN_spec (x : Nat) (hn : isN x = false) : floatBits .quo .f64 x 4611686018427387904 = some (hfN x) ∧ hfN x < 18446744073709551616 ∧ isN (hfN x) = false ∧ ng (hfN x) = ng x ∧
    (mg x = 0 → mg (hfN x) = 0) ∧ (mg x = 9218868437227405312 → mg (hfN x) = 9218868437227405312) ∧ (mg x ≠ 0 → mg x ≠ 9218868437227405312 → mg (hfN x) < mg x) := by
  obtain ⟨h, h1, h2⟩ := half_some x hn
  have e : hfN x = h := by unfold hfN; rw [h1]; rfl
  rw [e]
  exact ⟨h1, h2⟩
theorem word_eq {x y : Nat} (hx : x < 18446744073709551616) (hy : y < 18446744073709551616) (h1 : mg x = mg y) (h2 : ng x = ng y) : x = y := by
  unfold mg at h1
  unfold ng at h2
  rw [Bool.eq_iff_iff, beq_iff_eq, beq_iff_eq] at h2
  omega
/-- A zero and an infinity remain. -/
theorem hfN_fix (x : Nat) (hx : x < 18446744073709551616) (hn : isN x = false) (h : mg x = 0 ∨ mg x = 9218868437227405312) : hfN x = x := by
  have s := hfN_spec x hn
  refine word_eq s.2.1 hx ?_ s.2.2.2.1
  rcases h with h | h
  · rw [h]; exact s.2.2.2.2.1 h
  · rw [h]; exact s.2.2.2.2.2.1 h
/-- What is as large as its half remains. -/
theorem kf_fix (x : Nat) (hn : isN x = false) (h : kf (hfN x) = kf x) : mg x = 0 ∨ mg x = 9218868437227405312 := by
  have s := hfN_spec x hn
  by_cases h0 : mg x = 0
  · exact .inl h0
  · by_cases h1 : mg x = 9218868437227405312
    · exact .inr h1
    · have hlt := s.2.2.2.2.2.2 h0 h1
      unfold kf at h
      rw [hn, s.2.2.1, s.2.2.2.1] at h
      cases g : ng x <;> rw [g] at h <;> simp at h <;> omega
def itF (x : Nat) : Nat → Nat
  | 0 => x
  | n + 1 => hfN (itF x n)
theorem itF_ok (x : Nat) (hx : x < 18446744073709551616) (hn : isN x = false) : ∀ n, itF x n < 18446744073709551616 ∧ isN (itF x n) = false
  | 0 => ⟨hx, hn⟩
  | n + 1 => ⟨(hfN_spec _ (itF_ok x hx hn n).2).2.1, (hfN_spec _ (itF_ok x hx hn n).2).2.2.1⟩
theorem itF_fix (x : Nat) (hx : x < 18446744073709551616) (hn : isN x = false) (i : Nat) (h : mg (itF x i) = 0 ∨ mg (itF x i) = 9218868437227405312) : ∀ d, itF x (i + d) = itF x i
  | 0 => rfl
  | d + 1 => by
    have ok := itF_ok x hx hn i
    show hfN (itF x (i + d)) = _
    rw [itF_fix x hx hn i h d]
    exact hfN_fix _ ok.1 ok.2 h
theorem itF_add (x : Nat) (n : Nat) : ∀ m, itF x (n + m) = itF (itF x n) m
  | 0 => rfl
  | m + 1 => by
    show hfN (itF x (n + m)) = hfN _
    rw [itF_add x n m]
theorem mg_of_kf0 {x : Nat} (hn : isN x = false) (h : kf x = 0) : mg x = 0 := by
  unfold kf at h
  rw [hn] at h
  cases g : ng x <;> rw [g] at h <;> simp at h <;> omega
theorem plainF_it (x : Nat) (hx : x < 18446744073709551616) (hn : isN x = false) (m : Nat) : plainF (itF (plainF x) m) = plainF (itF x m) := by
  by_cases h : kf x = 0
  · have e : plainF x = 0 := by unfold plainF; rw [if_pos h]
    have a := itF_fix 0 (by decide) isN_zero 0 (.inl (by decide)) m
    have b := itF_fix x hx hn 0 (.inl (mg_of_kf0 hn h)) m
    rw [Nat.zero_add] at a b
    rw [e, a, b]
    show plainF 0 = plainF x
    rw [e]
    decide
  · have e : plainF x = x := by unfold plainF; rw [if_neg h]
    rw [e]
/-- What n halvings come to. -/
def hvF (x : Nat) (n : Int) : Nat := plainF (if isN x then x else itF x n.toNat)

set_option maxRecDepth 100000 in
set_option maxHeartbeats 1000000 in
theorem halve_num (x : Nat) (hx : x < 18446744073709551616) (hn : isN x = false) (n : Int) (hn1 : n ≤ 1000000) (w : World) :
    Calls Tryd.prog 16 #[.float .f64 x, .int .i64 n] w fun e w' => e = .returned (.float .f64 (plainF (itF x n.toNat))) ∧ w' = w := by
  have HH := Lib.hid (itF_ok x hx hn)
  have HF := Lib.hid (itF_fix x hx hn)
  obtain ⟨R, hR⟩ : ∃ R, R = plainF (itF x n.toNat) := ⟨_, rfl⟩
  rw [← hR]
  have HR := Lib.hid hR
  clear hR hx hn
  go_enter Tryd.func16, Tryd.ntmps16
  go_wp2_with fail
  go_loopw [0, 5, 7] (fun v _ i wr => ∃ j : Nat, (j = 0 ∨ (j : Int) ≤ n) ∧ i = .int .i64 (j : Int) ∧ v = .float .f64 (itF x j) ∧ wr = w) (fun _ _ i _ => n.toNat - (intOf i).toNat)
  case atStart => exact ⟨0, .inl rfl, rfl, rfl, rfl⟩
  case round =>
    obtain ⟨j, hj, rfl, rfl, rfl⟩ := hrel
    by_cases hlt : (j : Int) < n
    · have ok := HH.out j
      have s := hfN_spec (itF x j) ok.2
      have hq := fun w t => run_float_arith (P := Tryd.prog) w .quo t .f64 (itF x j) 4611686018427387904 (hfN (itF x j)) s.1
      have hc := compare5 (hfN (itF x j)) (itF x j)
      by_cases hk : kf (hfN (itF x j)) = kf (itF x j)
      · have e : itF x n.toNat = itF x j := by
          have := HF.out j (kf_fix _ ok.2 hk) (n.toNat - j)
          rw [show j + (n.toNat - j) = n.toNat by omega] at this
          exact this
        have hz : cmpF (hfN (itF x j)) (itF x j) = 0 := by unfold cmpF; rw [if_neg (by omega), if_neg (by omega)]
        rw [hz] at hc
        have hp := plain3 (itF x j)
        have HE := Lib.hid e
        clear hz hk s ok e
        generalize itF x j = y at *
        generalize hfN y = z at *
        go_wp2_with (first | (go_at_call 9; with_reducible refine (hc _).mono ?_; rintro e w' ⟨rfl, rfl⟩) | (go_at_call 28; with_reducible refine (hp _).mono ?_; rintro e w' ⟨rfl, rfl⟩))
        go_ret
        exact ⟨by rw [HR.out, HE.out]; rfl, rfl⟩
      · have hz : (cmpF (hfN (itF x j)) (itF x j) == 0) = false := by
          rw [beq_eq_false_iff_ne]
          unfold cmpF
          split
          · decide
          · split
            · decide
            · omega
        have e : itF x (j + 1) = hfN (itF x j) := rfl
        have HE := Lib.hid e
        clear hk s ok e
        generalize itF x j = y at *
        generalize hfN y = z at *
        generalize cmpF z y = c at *
        go_wp2_with (go_at_call 9; with_reducible refine (hc _).mono ?_; rintro e w' ⟨rfl, rfl⟩)
        go_roundw
        case rel => exact ⟨j + 1, by omega, by go_num, by rw [HE.out], trivial⟩
        case measure => simp [intOf]; omega
    · have e : itF x n.toNat = itF x j := by congr 1; omega
      have hp := plain3 (itF x j)
      have HE := Lib.hid e
      clear e
      generalize itF x j = y at *
      go_wp2_with (go_at_call 28; with_reducible refine (hp _).mono ?_; rintro e w' ⟨rfl, rfl⟩)
      go_ret
      exact ⟨by rw [HR.out, HE.out]; rfl, rfl⟩
end Go.Proofs.YtbgppkjcmgljnaaDoor
