/- Floats: both Means are one number, which lies between; Same; Least. -/
import Derived.Test.YtcmjcpgfnkhnoaaFlD
namespace Go.Proofs.Ytcmjcpgfnkhnoaa
open Go.RowKit

theorem kf_share (x : Nat) (hx : x < 18446744073709551616) : ∃ s, clampF x 0 4607182418800017408 = s ∧ s < 18446744073709551616 ∧ isN s = false ∧ 0 ≤ kf s ∧ mg s < 9218868437227405312 := by
  have h := clampF_kf x 0 4607182418800017408 (by decide)
  rw [kf_zero, show kf 4607182418800017408 = 4607182418800017408 by decide] at h
  exact ⟨_, rfl, clampF_lt hx (by decide) (by decide), isN_of_kf (by omega), h.1, mg_of_kf h.1 (by omega)⟩
theorem mg_kf0 {s : Nat} (hn : isN s = false) (h : decide (kf s = 0) = false) : mg s ≠ 0 := by
  intro h0
  have : kf s = 0 := by
    unfold kf
    rw [hn, h0]
    cases ng s <;> rfl
  rw [decide_eq_true this] at h
  cases h
/-- The first of the least. -/
def lstF (f : Nat → Nat) : Nat → Int
  | 0 => -1
  | n + 1 => if lstF f n < 0 then n else if kf (f n) < kf (f (lstF f n).toNat) then n else lstF f n
theorem lstF_lt (f : Nat → Nat) : ∀ n, lstF f n < n ∧ -1 ≤ lstF f n
  | 0 => ⟨by show (-1 : Int) < ((0 : Nat) : Int); decide, by show (-1 : Int) ≤ -1; decide⟩
  | n + 1 => by
    have h := lstF_lt f n
    unfold lstF
    split
    · omega
    · split <;> omega
theorem lstF_ge (f : Nat → Nat) : ∀ n, 0 < n → 0 ≤ lstF f n
  | 0, h => absurd h (by decide)
  | n + 1, _ => by
    unfold lstF
    split
    · omega
    · split <;> omega
theorem lstF_ok (f : Nat → Nat) : ∀ n, 0 < n → ∀ i, i < n → kf (f (lstF f n).toNat) < kf (f i) ∨ kf (f (lstF f n).toNat) = kf (f i) ∧ lstF f n ≤ i
  | 0, h, _, _ => absurd h (by decide)
  | n + 1, _, i, hi => by
    have hge := lstF_ge f n
    have hlt := lstF_lt f n
    have ih := lstF_ok f n
    unfold lstF
    by_cases h0 : n = 0
    · subst h0
      obtain rfl : i = 0 := by omega
      have e : lstF f 0 < 0 := by show (-1 : Int) < 0; decide
      rw [if_pos e]
      exact .inr ⟨rfl, by omega⟩
    · have hn : 0 < n := by omega
      have g := hge hn
      rw [if_neg (by omega)]
      split
      · rename_i hk
        rw [Int.toNat_natCast]
        by_cases e : i = n
        · subst e; exact .inr ⟨rfl, by omega⟩
        · have := ih hn i (by omega)
          omega
      · rename_i hk
        by_cases e : i = n
        · subst e; omega
        · exact ih hn i (by omega)
set_option maxRecDepth 100000 in
set_option maxHeartbeats 1000000 in
theorem least3 (a : Option Addr) (n c : Nat) (f : Nat → Nat) (w : World) (hn : n ≤ 1000000)
    (hrow : n = 0 ∨ ∃ b o, a = some ⟨b, o, none⟩ ∧ ∀ j, j < n → w.cell? ⟨b, o + j, none⟩ = some (.float .f64 (f j))) :
    Calls Try.prog 29 #[.slice a n c] w fun e w' => e = .returned (.int .i64 (lstF f n)) ∧ w' = w := by
  have HR := Lib.hid hrow
  clear hrow
  go_enter Try.func29, Try.ntmps29
  go_wp2_with fail
  go_loopw [3, 8] (fun l i wr => ∃ j : Nat, j ≤ n ∧ i = .int .i64 (j : Int) ∧ l = .int .i64 (lstF f j) ∧ wr = w) (fun _ i _ => n - (intOf i).toNat)
  case atStart => exact ⟨0, Nat.zero_le _, rfl, rfl, rfl⟩
  case round =>
    obtain ⟨j, hj, rfl, rfl, rfl⟩ := hrel
    by_cases hlt : j < n
    · obtain h0 | ⟨b, o, rfl, hc⟩ := HR.out
      · subst h0; simp at hlt
      have cj := hc j hlt
      by_cases h0 : j = 0
      · subst h0
        have e : lstF f 0 = -1 := rfl
        rw [e]
        rw [Nat.add_zero] at cj
        go_wp2_with fail
        go_roundw
        case rel => exact ⟨1, by omega, rfl, rfl, trivial⟩
        case measure => simp [intOf]; omega
      · have g := lstF_ge f j (by omega)
        have g2 := (lstF_lt f j).1
        obtain ⟨m, hm⟩ := Int.eq_ofNat_of_zero_le g
        have hs : lstF f (j + 1) = if decide (kf (f j) < kf (f m)) = true then (j : Int) else (m : Int) := by
          rw [lstF, if_neg (by omega), hm]
          simp
        rw [hm] at g g2 ⊢
        have cm := hc m (by omega)
        have hb := before5 (f j) (f m)
        have HS := Lib.hid hs
        have hmj : m < n := by omega
        have hneg : ¬ ((m : Int) < 0) := by omega
        clear hs hm g hc
        generalize decide (kf (f j) < kf (f m)) = t at *
        cases t <;> (
        go_wp2_with (go_at_call 41; with_reducible refine (hb _).mono ?_; rintro e w' ⟨rfl, rfl⟩)
        go_roundw
        case rel => exact ⟨j + 1, by omega, by go_num, by rw [HS.out]; simp, trivial⟩
        case measure => simp [intOf]; omega)
    · obtain rfl : j = n := by omega
      go_wp2_with fail
      go_ret
      exact ⟨rfl, rfl⟩
end Go.Proofs.Ytcmjcpgfnkhnoaa
