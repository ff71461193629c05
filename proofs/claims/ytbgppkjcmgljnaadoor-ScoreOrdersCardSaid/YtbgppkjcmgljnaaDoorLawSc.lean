/- The walks of the statements ScoreOrders, ScoreMeans, ScoreHalves. -/
import Derived.Test.YtbgppkjcmgljnaaDoorFlK
namespace Go.Proofs.YtbgppkjcmgljnaaDoor
open Go.RowKit

theorem cmpF_cases (a b : Nat) : (kf a < kf b ∧ cmpF a b = -1) ∨ (kf a = kf b ∧ cmpF a b = 0) ∨ (kf b < kf a ∧ cmpF a b = 1) := by
  unfold cmpF
  rcases Int.lt_trichotomy (kf a) (kf b) with h | h | h
  · exact .inl ⟨h, if_pos h⟩
  · exact .inr (.inl ⟨h, by rw [if_neg (by omega), if_neg (by omega)]⟩)
  · exact .inr (.inr ⟨h, by rw [if_neg (by omega), if_pos h]⟩)
set_option maxHeartbeats 4000000 in
set_option maxRecDepth 100000 in
theorem lawScoreOrders (a b c : Nat) (ha : a < 18446744073709551616) (hb : b < 18446744073709551616) (w : World) :
    Calls Tryd.prog 3 #[.float .f64 a, .float .f64 b, .float .f64 c] w fun e w' => e = .returned (.bool true) ∧ Below w.heap.size w w' := by
  have HA := Lib.hid (awake13 w)
  have h1 := compare5 a b
  have h2 := compare5 b c
  have h3 := compare5 a c
  have h4 := compare5 b a
  have h5 := compare5 a a
  have h6 := rcompare5 a b ha hb
  have haa : cmpF a a = 0 := by unfold cmpF; rw [if_neg (Int.lt_irrefl _), if_neg (Int.lt_irrefl _)]
  have hba : cmpF b a = -cmpF a b := by
    rcases cmpF_cases a b with ⟨h, e⟩ | ⟨h, e⟩ | ⟨h, e⟩ <;> rcases cmpF_cases b a with ⟨h', e'⟩ | ⟨h', e'⟩ | ⟨h', e'⟩ <;> omega
  have hT : (cmpF a b = -1 ∨ cmpF a b = 0 ∨ cmpF a b = 1) ∧ (cmpF b c = -1 ∨ cmpF b c = 0 ∨ cmpF b c = 1) ∧ (cmpF a c = -1 ∨ cmpF a c = 0 ∨ cmpF a c = 1) ∧
      (cmpF a b ≤ 0 → cmpF b c ≤ 0 → cmpF a c ≤ 0 ∧ (cmpF a c < 0 ∨ cmpF a b = 0 ∧ cmpF b c = 0)) := by
    rcases cmpF_cases a b with ⟨h, e⟩ | ⟨h, e⟩ | ⟨h, e⟩ <;> rcases cmpF_cases b c with ⟨h', e'⟩ | ⟨h', e'⟩ | ⟨h', e'⟩ <;> rcases cmpF_cases a c with ⟨h'', e''⟩ | ⟨h'', e''⟩ | ⟨h'', e''⟩ <;> omega
  rw [haa] at h5
  rw [hba] at h4
  clear haa hba ha hb
  generalize cmpF a b = x at *
  generalize cmpF b c = y at *
  generalize cmpF a c = z at *
  obtain ⟨hx, hy, hz, hT⟩ := hT
  rcases hx with rfl | rfl | rfl <;> rcases hy with rfl | rfl | rfl <;> rcases hz with rfl | rfl | rfl <;> first
    | (exfalso; omega)
    | (clear hT
       go_enter Tryd.func3, Tryd.ntmps3
       go_wp2_with fail
       refine HA.out.mono ?_
       rintro e w1 ⟨rfl, hb⟩
       go_wp2_with (first
         | (go_at_call 9; with_reducible refine (h1 _).mono ?_; rintro e w' ⟨rfl, rfl⟩)
         | (go_at_call 9; with_reducible refine (h2 _).mono ?_; rintro e w' ⟨rfl, rfl⟩)
         | (go_at_call 9; with_reducible refine (h3 _).mono ?_; rintro e w' ⟨rfl, rfl⟩)
         | (go_at_call 9; with_reducible refine (h4 _).mono ?_; rintro e w' ⟨rfl, rfl⟩)
         | (go_at_call 9; with_reducible refine (h5 _).mono ?_; rintro e w' ⟨rfl, rfl⟩)
         | (go_at_call 10; with_reducible refine (h6 _).mono ?_; rintro e w' ⟨rfl, rfl⟩))
       go_ret
       exact ⟨rfl, hb⟩)

set_option maxHeartbeats 4000000 in
set_option maxRecDepth 100000 in
theorem lawScoreMeans (old sample share : Nat) (ho : old < 18446744073709551616) (hs : sample < 18446744073709551616) (hh : share < 18446744073709551616) (w : World) :
    Calls Tryd.prog 5 #[.float .f64 old, .float .f64 sample, .float .f64 share] w fun e w' => e = .returned (.bool true) ∧ Below w.heap.size w w' := by
  have HA := Lib.hid (awake13 w)
  obtain ⟨y, hy, hm, hr, hn, hbt⟩ := mean_all old sample share ho hs hh
  have hS := same_self y
  have n1 := nan6 old
  have n2 := nan6 sample
  have h1 := rcompare5 y old hy ho
  have h2 := rcompare5 y sample hy hs
  have h3 := rcompare5 old y ho hy
  have hP : (isN old = false ∧ isN sample = false) ∨ cmpF y old = 0 ∨ cmpF y sample = 0 := by
    rcases cmpF_cases y old with ⟨h, e⟩ | ⟨h, e⟩ | ⟨h, e⟩ <;> rcases cmpF_cases y sample with ⟨h', e'⟩ | ⟨h', e'⟩ | ⟨h', e'⟩ <;> first | exact .inr (.inl e) | exact .inr (.inr e') | exact .inl (by rcases hn with hn | hn | hn <;> first | (exfalso; omega) | exact hn)
  have hQ : (cmpF old y ≤ 0 ∧ cmpF y sample ≤ 0) ∨ (0 ≤ cmpF old y ∧ 0 ≤ cmpF y sample) := by
    rcases cmpF_cases old y with ⟨h, e⟩ | ⟨h, e⟩ | ⟨h, e⟩ <;> rcases cmpF_cases y sample with ⟨h', e'⟩ | ⟨h', e'⟩ | ⟨h', e'⟩ <;> omega
  have hX : cmpF y old = -cmpF old y := by
    rcases cmpF_cases y old with ⟨h, e⟩ | ⟨h, e⟩ | ⟨h, e⟩ <;> rcases cmpF_cases old y with ⟨h', e'⟩ | ⟨h', e'⟩ | ⟨h', e'⟩ <;> omega
  have hR : (cmpF old y = -1 ∨ cmpF old y = 0 ∨ cmpF old y = 1) ∧ (cmpF y sample = -1 ∨ cmpF y sample = 0 ∨ cmpF y sample = 1) := by
    rcases cmpF_cases old y with ⟨h, e⟩ | ⟨h, e⟩ | ⟨h, e⟩ <;> rcases cmpF_cases y sample with ⟨h', e'⟩ | ⟨h', e'⟩ | ⟨h', e'⟩ <;> omega
  clear hn hbt hy ho hs hh
  rw [hX] at h1 hP
  clear hX
  generalize cmpF old y = a at *
  generalize cmpF y sample = b at *
  generalize isN old = s at *
  generalize isN sample = t at *
  obtain ⟨ra, rb⟩ := hR
  cases s <;> cases t <;> rcases ra with rfl | rfl | rfl <;> rcases rb with rfl | rfl | rfl <;> first
    | (exfalso; revert hP hQ; decide)
    | (clear hP hQ
       go_enter Tryd.func5, Tryd.ntmps5
       go_wp2_with fail
       refine HA.out.mono ?_
       rintro e w1 ⟨rfl, hb⟩
       go_wp2_with (first
         | (go_at_call 12; with_reducible refine (hm _).mono ?_; rintro e w' ⟨rfl, rfl⟩)
         | (go_at_call 14; with_reducible refine (hr _).mono ?_; rintro e w' ⟨rfl, rfl⟩)
         | (go_at_call 13; with_reducible refine (hS _).mono ?_; rintro e w' ⟨rfl, rfl⟩)
         | (go_at_call 15; with_reducible refine (n1 _).mono ?_; rintro e w' ⟨rfl, rfl⟩)
         | (go_at_call 15; with_reducible refine (n2 _).mono ?_; rintro e w' ⟨rfl, rfl⟩)
         | (go_at_call 10; with_reducible refine (h1 _).mono ?_; rintro e w' ⟨rfl, rfl⟩)
         | (go_at_call 10; with_reducible refine (h2 _).mono ?_; rintro e w' ⟨rfl, rfl⟩)
         | (go_at_call 10; with_reducible refine (h3 _).mono ?_; rintro e w' ⟨rfl, rfl⟩))
       go_ret
       exact ⟨rfl, hb⟩)
end Go.Proofs.YtbgppkjcmgljnaaDoor
