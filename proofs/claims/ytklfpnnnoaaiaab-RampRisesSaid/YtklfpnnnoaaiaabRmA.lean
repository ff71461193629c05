/- ramp: full, tick, lasting, grown, Weight; the reference's Weight. -/
import Derived.Test.YtklfpnnnoaaiaabRmM
import Derived.IntWalk
namespace Go.Proofs.Ytklfpnnnoaaiaab
open Go.RowKit

theorem fullC (x : Int) (w : World) : Calls Try.prog 13 #[.int .i64 x] w fun e w' => e = .returned (.int .i64 (fullN x : Nat)) ∧ w' = w := by
  have h := fullA x
  generalize fullN x = F at *
  go_enter Try.func13, Try.ntmps13
  go_wp2_with fail
  all_goals
    go_ret
    exact ⟨congrArg (fun z : Int => Ending.returned (.int .i64 z)) (by omega), rfl⟩
theorem tickC (x : Int) (w : World) : Calls Try.prog 14 #[.int .i64 x] w fun e w' => e = .returned (.int .i64 (tickN x : Nat)) ∧ w' = w := by
  have h := tickA x
  generalize tickN x = F at *
  go_enter Try.func14, Try.ntmps14
  go_wp2_with fail
  all_goals
    go_ret
    exact ⟨congrArg (fun z : Int => Ending.returned (.int .i64 z)) (by omega), rfl⟩
theorem lastC (x : Int) (w : World) : Calls Try.prog 15 #[.int .i64 x] w fun e w' => e = .returned (.int .i64 (lastN x : Nat)) ∧ w' = w := by
  have h := lastA x
  generalize lastN x = F at *
  go_enter Try.func15, Try.ntmps15
  go_wp2_with fail
  all_goals
    go_ret
    exact ⟨congrArg (fun z : Int => Ending.returned (.int .i64 z)) (by omega), rfl⟩
theorem tickR (x : Int) (w : World) : Calls Try.prog 16 #[.int .i64 x] w fun e w' => e = .returned (.int .i64 (tickN x : Nat)) ∧ w' = w := by
  have h := tickB x
  generalize tickN x = F at *
  go_enter Try.func16, Try.ntmps16
  go_wp2_with fail
  all_goals
    go_ret
    exact ⟨congrArg (fun z : Int => Ending.returned (.int .i64 z)) (by omega), rfl⟩
set_option maxHeartbeats 1000000 in
theorem grownC (W S : Nat) (a : Int) (_hW : 1 ≤ W) (hW2 : W ≤ 65535) (hS : S ≤ 1048576) (h1 : -1099511627776 ≤ a) (h2 : a ≤ 1099511627776) (w : World) :
    Calls Try.prog 12 #[.int .i64 (W : Nat), .int .i64 a, .int .i64 (S : Nat)] w fun e w' => e = .returned (.int .i64 (gI W a S : Nat)) ∧ w' = w := by
  by_cases h0 : S = 0
  · subst h0
    rw [gI_full (.inl rfl)]
    go_enter Try.func12, Try.ntmps12
    go_wp2_with fail
    go_ret
    exact ⟨rfl, rfl⟩
  by_cases hs : (S : Int) ≤ a
  · rw [gI_full (.inr hs)]
    have z : ¬ (S : Int) = 0 := by omega
    go_enter Try.func12, Try.ntmps12
    go_wp2_with fail
    go_ret
    exact ⟨rfl, rfl⟩
  have z : ¬ (S : Int) = 0 := by omega
  by_cases hn : 0 ≤ a
  · obtain ⟨A, rfl⟩ := Int.eq_ofNat_of_zero_le hn
    rw [gI_part h0 (by omega), Int.toNat_natCast]
    have hm : W * A ≤ 65535 * 1048576 := Nat.mul_le_mul hW2 (by omega)
    have em : (W : Int) * (A : Int) = ((W * A : Nat) : Int) := by simp
    have ed := tdivR (W * A) S
    have hq := Nat.div_le_self (W * A) S
    generalize W * A = Q at *
    generalize Q / S = R at *
    have ex : max (R : Int) 1 = ((max R 1 : Nat) : Int) := by omega
    generalize max R 1 = X at *
    go_enter Try.func12, Try.ntmps12
    go_wp2_with fail
    all_goals
      go_ret
      exact ⟨congrArg (fun z : Int => Ending.returned (.int .i64 z)) (by omega), rfl⟩
  · rw [gI_neg h0 (by omega)]
    obtain ⟨A, hA⟩ : ∃ A : Nat, a = -(A : Int) := ⟨a.natAbs, by omega⟩
    have hm : W * A ≤ 65535 * 1099511627776 := Nat.mul_le_mul hW2 (by omega)
    have em : (W : Int) * a = -((W * A : Nat) : Int) := by rw [hA, Int.mul_neg]; simp
    have ed : (-((W * A : Nat) : Int)).tdiv (S : Int) = -((W * A / S : Nat) : Int) := by rw [Int.neg_tdiv, tdivR]
    have hq := Nat.div_le_self (W * A) S
    clear hA
    generalize W * A = Q at *
    generalize Q / S = R at *
    have ex : max (-(R : Int)) 1 = 1 := by omega
    go_enter Try.func12, Try.ntmps12
    go_wp2_with fail
    all_goals
      go_ret
      exact ⟨congrArg (fun z : Int => Ending.returned (.int .i64 z)) (by omega), rfl⟩
set_option maxHeartbeats 1000000 in
theorem weightC (wt since now slow : Int) (w : World) :
    Calls Try.prog 7 #[.int .i64 wt, .int .i64 since, .int .i64 now, .int .i64 slow] w fun e w' => e = .returned (.int .i64 (wtN wt since now slow : Nat)) ∧ w' = w := by
  have HF := fullC wt
  have HT := tickC now
  have HS := tickC since
  have HL := lastC slow
  have b1 := fullN_b wt
  have b2 := tickN_b now
  have b3 := tickN_b since
  have b4 := lastN_b slow
  unfold wtN
  generalize fullN wt = W at *
  generalize tickN now = N at *
  generalize tickN since = T at *
  generalize lastN slow = S at *
  have HG := fun w => grownC W S ((N : Int) - (T : Int)) b1.1 b1.2 b4 (by omega) (by omega) w
  generalize gI W ((N : Int) - (T : Int)) S = R at *
  generalize hd : (N : Int) - (T : Int) = D at *
  go_enter Try.func7, Try.ntmps7
  go_wp2_with fail
  refine (HF _).mono ?_
  rintro e w' ⟨rfl, rfl⟩
  go_wp2_with fail
  refine (HT _).mono ?_
  rintro e w' ⟨rfl, rfl⟩
  go_wp2_with fail
  refine (HS _).mono ?_
  rintro e w' ⟨rfl, rfl⟩
  go_wp2_with fail
  refine (HL _).mono ?_
  rintro e w' ⟨rfl, rfl⟩
  go_wp2_with fail
  refine (HG _).mono ?_
  rintro e w' ⟨rfl, rfl⟩
  go_wp2_with fail
  go_ret
  exact ⟨rfl, rfl⟩
set_option maxHeartbeats 1000000 in
theorem weightR (wt since now slow : Int) (w : World) :
    Calls Try.prog 8 #[.int .i64 wt, .int .i64 since, .int .i64 now, .int .i64 slow] w fun e w' => e = .returned (.int .i64 (wtN wt since now slow : Nat)) ∧ w' = w := by
  have HT := tickR now
  have HS := tickR since
  obtain ⟨u1, f1⟩ : ∃ u1 : Int, u1 = min wt 65535 := ⟨_, rfl⟩
  obtain ⟨u2, f2⟩ : ∃ u2 : Int, u2 = min slow 1048576 := ⟨_, rfl⟩
  have f3 := fullB wt
  have f4 := lastB slow
  rw [← f1] at f3
  rw [← f2] at f4
  have p1 : (if (65535 : Int) < wt then 65535 else wt) = u1 := by split <;> omega
  have p2 : (if (1048576 : Int) < slow then 1048576 else slow) = u2 := by split <;> omega
  have p3 : (if (1 : Int) < u1 then u1 else 1) = (fullN wt : Int) := by split <;> omega
  have p4 : (if (0 : Int) < u2 then u2 else 0) = (lastN slow : Int) := by split <;> omega
  clear f1 f2 f3 f4
  have b1 := fullN_b wt
  have b2 := tickN_b now
  have b3 := tickN_b since
  have b4 := lastN_b slow
  unfold wtN
  generalize fullN wt = W at *
  generalize tickN now = N at *
  generalize tickN since = T at *
  generalize lastN slow = S at *
  clear b4
  obtain ⟨D, hd⟩ : ∃ D : Int, (N : Int) - (T : Int) = D := ⟨_, rfl⟩
  have d1 : -1099511627776 ≤ D := by omega
  have d2 : D ≤ 1099511627776 := by omega
  rw [hd]
  by_cases h0 : S = 0
  · subst h0
    rw [gI_full (.inl rfl)]
    go_enter Try.func8, Try.ntmps8
    go_wp2_with fail
    refine (HT _).mono ?_
    rintro e w' ⟨rfl, rfl⟩
    go_wp2_with fail
    refine (HS _).mono ?_
    rintro e w' ⟨rfl, rfl⟩
    go_wp2_with fail
    go_ret
    exact ⟨rfl, rfl⟩
  have z : ¬ (S : Int) = 0 := by omega
  have z2 : (0 : Int) < S := by omega
  have q1 : ((S : Int) == 0) = false := by simpa using h0
  obtain rfl : u2 = (S : Int) := by have := p4; split at this <;> omega
  clear p4
  by_cases hs : (S : Int) ≤ D
  · rw [gI_full (.inr hs)]
    have hs2 : ¬ D < (S : Int) := by omega
    go_enter Try.func8, Try.ntmps8
    go_wp2_with fail
    refine (HT _).mono ?_
    rintro e w' ⟨rfl, rfl⟩
    go_wp2_with fail
    refine (HS _).mono ?_
    rintro e w' ⟨rfl, rfl⟩
    go_wp2_with fail
    go_ret
    exact ⟨rfl, rfl⟩
  by_cases hn : 0 ≤ D
  · obtain ⟨A, rfl⟩ := Int.eq_ofNat_of_zero_le hn
    rw [gI_part h0 (by omega), Int.toNat_natCast]
    have q2 : decide (S ≤ A) = false := by simp; omega
    have q3 : decide ((S : Int) ≤ (A : Int)) = false := by simp; omega
    have hm : W * A ≤ 65535 * 1099511627776 := Nat.mul_le_mul b1.2 (by omega)
    have em : (W : Int) * (A : Int) = ((W * A : Nat) : Int) := by simp
    have ed := tdivR (W * A) S
    have hq := Nat.div_le_self (W * A) S
    generalize W * A = Q at *
    generalize Q / S = R at *
    have ex : (if (1 : Int) < (R : Int) then (R : Int) else 1) = ((max R 1 : Nat) : Int) := by split <;> omega
    generalize max R 1 = X at *
    go_enter Try.func8, Try.ntmps8
    go_wp2_with fail
    refine (HT _).mono ?_
    rintro e w' ⟨rfl, rfl⟩
    go_wp2_with fail
    refine (HS _).mono ?_
    rintro e w' ⟨rfl, rfl⟩
    go_wp2_with fail
    go_ret
    exact ⟨rfl, rfl⟩
  · rw [gI_neg h0 (by omega)]
    have em : (W : Int) * 0 = 0 := Int.mul_zero _
    have ed : (0 : Int).tdiv (S : Int) = 0 := Int.zero_tdiv _
    have hn2 : D < 0 := by omega
    have q2 : decide ((S : Int) ≤ D) = false := by simp; omega
    go_enter Try.func8, Try.ntmps8
    go_wp2_with fail
    refine (HT _).mono ?_
    rintro e w' ⟨rfl, rfl⟩
    go_wp2_with fail
    refine (HS _).mono ?_
    rintro e w' ⟨rfl, rfl⟩
    go_wp2_with fail
    go_ret
    exact ⟨rfl, rfl⟩
end Go.Proofs.Ytklfpnnnoaaiaab
