/- The walk of the statement ScoreHalves. -/
import Derived.Test.YtbgppkjcmgljnaaDoorFlK
namespace Go.Proofs.YtbgppkjcmgljnaaDoor
open Go.RowKit

theorem and1023 (m : Int) : ∃ k : Nat, k ≤ 1023 ∧ bits .and .i64 m 1023 = (k : Int) := by
  have e : bits .and .i64 m 1023 = IntKind.i64.wrap (((BitVec.ofInt 64 m &&& BitVec.ofInt 64 1023).toNat : Nat) : Int) := rfl
  have h : (BitVec.ofInt 64 m &&& BitVec.ofInt 64 1023).toNat ≤ 1023 := by
    rw [BitVec.toNat_and]
    exact Nat.and_le_right
  refine ⟨_, h, ?_⟩
  rw [e, IntKind.wrap_i64]
  omega
set_option maxHeartbeats 4000000 in
set_option maxRecDepth 100000 in
theorem lawScoreHalves (x : Nat) (n m : Int) (hx : x < 18446744073709551616) (w : World) :
    Calls Tryd.prog 6 #[.float .f64 x, .int .i64 n, .int .i64 m] w fun e w' => e = .returned (.bool true) ∧ Below w.heap.size w w' := by
  have HA := Lib.hid (awake13 w)
  obtain ⟨k, hk, hand⟩ := and1023 m
  -- the number of halvings
  obtain ⟨N, hN, hmin⟩ : ∃ N : Int, N ≤ 3000 ∧ (if 3000 < n then 3000 else n) = N := ⟨_, by split <;> omega, rfl⟩
  obtain ⟨M, hM, hmax⟩ : ∃ M : Nat, M ≤ 3000 ∧ (if N > 0 then N else 0) = (M : Int) := by
    by_cases h : N > 0
    · exact ⟨N.toNat, by omega, by rw [if_pos h]; omega⟩
    · exact ⟨0, by omega, by rw [if_neg h]; rfl⟩
  have hv : hvF x N < 18446744073709551616 := by
    unfold hvF
    cases hn : isN x
    · exact plainF_lt (itF_ok x hx hn _).1
    · exact plainF_lt hx
  have hsame : hvF (hvF x N) (k : Int) = hvF x ((M : Int) + (k : Int)) := by
    unfold hvF
    cases hn : isN x
    · have ok := itF_ok x hx hn N.toNat
      have hp : isN (plainF (itF x N.toNat)) = false := by
        unfold plainF
        split
        · exact isN_zero
        · exact ok.2
      have e : N.toNat = M := by
        by_cases h : N > 0
        · rw [if_pos h] at hmax; omega
        · rw [if_neg h] at hmax; omega
      have e2 : ((M : Int) + (k : Int)).toNat = M + k := by omega
      simp only [Bool.false_eq_true, if_false]
      rw [hp, Int.toNat_natCast, e2, itF_add]
      simp only [Bool.false_eq_true, if_false]
      rw [e] at ok ⊢
      exact plainF_it _ ok.1 ok.2 k
    · simp only [if_true]
      rw [plainF_nan x hn, hn]
      simp only [if_true]
      exact plainF_nan x hn
  have h1 := halve_all x hx N (by omega)
  have h2 := rhalve_all x hx N (by omega)
  have h3 := halve_all (hvF x N) hv (k : Int) (by omega)
  have h4 := halve_all x hx ((M : Int) + (k : Int)) (by omega)
  rw [hsame] at h3
  have s1 := same_self (hvF x N)
  have s2 := same_self (hvF x ((M : Int) + (k : Int)))
  have hw : wrap64 ((M : Int) + (k : Int)) = (M : Int) + (k : Int) := by unfold wrap64; omega
  clear hsame hv hx
  generalize hvF x N = a at *
  generalize hvF x ((M : Int) + (k : Int)) = b at *
  clear hk hN hM
  go_enter Tryd.func6, Tryd.ntmps6
  go_wp2_with fail
  refine HA.out.mono ?_
  rintro e w1 ⟨rfl, hb⟩
  go_wp2_with (first
    | (go_at_call 16; with_reducible refine (h1 _).mono ?_; rintro e w' ⟨rfl, hb1⟩)
    | (go_at_call 17; with_reducible refine (h2 _).mono ?_; rintro e w' ⟨rfl, rfl⟩)
    | (go_at_call 13; with_reducible refine (s1 _).mono ?_; rintro e w' ⟨rfl, rfl⟩)
    | (go_at_call 16; with_reducible refine (h3 _).mono ?_; rintro e w2 ⟨rfl, hb2⟩)
    | (go_at_call 16; with_reducible refine (h4 _).mono ?_; rintro e w3 ⟨rfl, hb3⟩)
    | (go_at_call 13; with_reducible refine (s2 _).mono ?_; rintro e w' ⟨rfl, rfl⟩))
  go_ret
  have z1 := hb.size
  have z2 := hb1.size
  have z3 := hb2.size
  exact ⟨rfl, ((hb.trans (hb1.mono z1)).trans (hb2.mono (by omega))).trans (hb3.mono (by omega))⟩
end Go.Proofs.YtbgppkjcmgljnaaDoor
