/- The walk of the statement ScoreLeast. -/
import Derived.Test.YtbgppkjcmgljnaaDoorFlK
import Derived.Test.YtbgppkjcmgljnaaDoorIsF
namespace Go.Proofs.YtbgppkjcmgljnaaDoor
open Go.RowKit

set_option maxHeartbeats 2000000 in
set_option maxRecDepth 100000 in
theorem lawScoreLeast_none (a : Option Addr) (c : Nat) (w : World) :
    Calls Tryd.prog 4 #[.slice a 0 c] w fun e w' => e = .returned (.bool true) ∧ Below w.heap.size w w' := by
  have HA := Lib.hid (awake13 w)
  have hL := fun a c w => least3 a 0 c (fun _ => 0) w (by decide) (.inl rfl)
  rw [show lstF (fun _ => 0) 0 = -1 from rfl] at hL
  cases a with
  | none =>
    go_enter Tryd.func4, Tryd.ntmps4
    go_wp2_with fail
    refine HA.out.mono ?_
    rintro e w1 ⟨rfl, hb⟩
    go_wp2_with (go_at_call 11; with_reducible refine (hL _ _ _).mono ?_; rintro e w' ⟨rfl, rfl⟩)
    go_ret
    exact ⟨rfl, hb⟩
  | some a =>
    go_enter Tryd.func4, Tryd.ntmps4
    go_wp2_with fail
    refine HA.out.mono ?_
    rintro e w1 ⟨rfl, hb⟩
    go_wp2_with (go_at_call 11; with_reducible refine (hL _ _ _).mono ?_; rintro e w' ⟨rfl, rfl⟩)
    go_ret
    exact ⟨rfl, hb⟩
theorem le30 (xs : List Nat) : ∃ n : Nat, n ≤ 30 ∧ n ≤ xs.length ∧ (0 < xs.length → 0 < n) ∧ (if (30 : Int) < (xs.length : Int) then (30 : Int) else (xs.length : Int)) = (n : Int) := by
  by_cases h : (30 : Int) < xs.length
  · exact ⟨30, by omega, by omega, by omega, by rw [if_pos h]; rfl⟩
  · exact ⟨xs.length, by omega, by omega, id, by rw [if_neg h]⟩
set_option maxHeartbeats 2000000 in
set_option maxRecDepth 100000 in
theorem lawScoreLeast (a : Option Addr) (c : Nat) (xs : List Nat) (w : World) (hx : IsFlts w a c xs) :
    Calls Tryd.prog 4 #[.slice a xs.length c] w fun e w' => e = .returned (.bool true) ∧ Below w.heap.size w w' := by
  by_cases h0 : xs = []
  · subst h0; exact lawScoreLeast_none a c w
  have HX := Lib.hid hx
  obtain h | ⟨bk, o, rfl, hbk, hc, hcell⟩ := hx
  · exact absurd h h0
  have HA := Lib.hid (awake13 w)
  have hpos : 0 < xs.length := List.length_pos_iff.2 h0
  obtain ⟨n, hn30, hnl, hn0, hmin⟩ := le30 xs
  have hn0 := hn0 hpos
  obtain ⟨f, hf⟩ : ∃ f : Nat → Nat, f = fun j => xs.getD j 0 := ⟨_, rfl⟩
  have hrow : ∀ j, j < n → w.cell? ⟨bk, o + j, none⟩ = some (.float .f64 (f j)) ∧ f j < 18446744073709551616 := by
    intro j hj
    have h1 : xs[j]? = some (f j) := by rw [hf]; simp [show j < xs.length by omega]
    exact hcell j _ h1
  have hlst := lstF_lt f n
  have hge := lstF_ge f n hn0
  have hok := lstF_ok f n hn0
  obtain ⟨m, hm⟩ := Int.eq_ofNat_of_zero_le hge
  have HL := fun w1 c1 (h : ∀ j, j < n → w1.cell? ⟨bk, o + j, none⟩ = some (.float .f64 (f j))) => least3 (some ⟨bk, o, none⟩) n c1 f w1 (by omega) (.inr ⟨_, _, rfl, h⟩)
  rw [hm] at hlst hok HL
  have hmn : m < n := by omega
  have OK : Hid (∀ i, i < n → kf (f m) < kf (f i) ∨ kf (f m) = kf (f i) ∧ m ≤ i) := by
    intro i hi
    have := hok i hi
    rw [Int.toNat_natCast] at this
    omega
  have HR := Lib.hid hrow
  have hnc : n ≤ c := by omega
  clear hok hge hlst hcell hf hm hrow hpos h0 hc
  go_enter Tryd.func4, Tryd.ntmps4
  go_wp2_with fail
  refine HA.out.mono ?_
  rintro e w1 ⟨rfl, hb⟩
  have hr1 : ∀ j, j < n → w1.cell? ⟨bk, o + j, none⟩ = some (.float .f64 (f j)) := fun j hj => by
    rw [(bcell hb).1 _ _ hbk]
    exact (HR.out j hj).1
  have HL1 := Lib.hid (HL w1 c hr1)
  have HR1 := Lib.hid hr1
  clear HL hr1
  go_wp2_with fail
  have d0 : decide ((m : Int) < 0) = false := decide_eq_false (by omega)
  have d1 : decide (n ≤ m) = false := decide_eq_false (by omega)
  have d2 : decide ((n : Int) ≤ (m : Int)) = false := decide_eq_false (by omega)
  have d3 : ((n : Int) == 0) = false := by rw [beq_eq_false_iff_ne]; omega
  refine (calls_flop HL1.out).mono ?_
  rintro e w' ⟨rfl, rfl⟩
  go_wp2_with fail
  go_loopw [31] (fun i wr => ∃ j : Nat, j ≤ n ∧ i = .int .i64 (j : Int) ∧ wr = w1) (fun i _ => n - (intOf i).toNat)
  case atStart => exact ⟨0, Nat.zero_le _, rfl, rfl⟩
  case round =>
    obtain ⟨j, hj, rfl, rfl⟩ := hrel
    by_cases hlt : j < n
    · have cj := HR1.out j hlt
      have cm := HR1.out m hmn
      have hcmp := rcompare5 (f j) (f m) (HR.out j hlt).2 (HR.out m hmn).2
      have hk := OK.out j hlt
      by_cases hk1 : kf (f m) < kf (f j)
      · rw [show cmpF (f j) (f m) = 1 by unfold cmpF; rw [if_neg (by omega), if_pos hk1]] at hcmp
        clear hk hk1
        go_wp2_with (go_at_call 10; with_reducible refine (hcmp _).mono ?_; rintro e w' ⟨rfl, rfl⟩)
        go_roundw
        case rel => exact ⟨j + 1, by omega, by go_num, trivial⟩
        case measure => simp [intOf]; omega
      · obtain ⟨he, hmj⟩ := hk.resolve_left hk1
        rw [show cmpF (f j) (f m) = 0 by unfold cmpF; rw [if_neg (by omega), if_neg (by omega)]] at hcmp
        have g : ¬ ((j : Int) < (m : Int)) := by omega
        clear hk hk1 he
        go_wp2_with (go_at_call 10; with_reducible refine (hcmp _).mono ?_; rintro e w' ⟨rfl, rfl⟩)
        go_roundw
        case rel => exact ⟨j + 1, by omega, by go_num, trivial⟩
        case measure => simp [intOf]; omega
    · obtain rfl : j = n := by omega
      go_wp2_with fail
      go_ret
      exact ⟨rfl, hb⟩
end Go.Proofs.YtbgppkjcmgljnaaDoor
