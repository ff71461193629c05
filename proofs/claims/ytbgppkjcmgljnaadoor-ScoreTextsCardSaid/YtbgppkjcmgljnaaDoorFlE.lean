/- Floats: both Means are one number, which lies between; Same; Least. -/
import Derived.Test.YtbgppkjcmgljnaaDoorFlD
namespace Go.Proofs.YtbgppkjcmgljnaaDoor
open Go.RowKit

theorem kf_share (x : Nat) (hx : x < 18446744073709551616) : ∃ s, clampF x 0 4607182418800017408 = s ∧ s < 18446744073709551616 ∧ isN s = false ∧ 0 ≤ kf s ∧ mg s < 9218868437227405312 := by
  have h := clampF_kf x 0 4607182418800017408 (by decide)
  rw [kf_zero, show kf 4607182418800017408 = 4607182418800017408 by decide] at h
  exact ⟨_, rfl, clampF_lt hx (by decide) (by decide), isN_of_kf (by omega), h.1, mg_of_kf h.1 (by omega)⟩
theorem mg_kf0 {s : Nat} (hn : isN s = false) (h : decide (kf s = 0) = false) : mg s ≠ 0 := by
  intro h0
  have : kf s = 0 := by
    unfold kf
    rw [hn, h0]
    cases ng s <;> rfl
  rw [decide_eq_true this] at h
  cases h
/-- THE MEAN: what the program gives and what the reference gives are one number, which lies between. -/
theorem mean_all (old sample share : Nat) (ho : old < 18446744073709551616) (hs : sample < 18446744073709551616) (hh : share < 18446744073709551616) :
    ∃ y, y < 18446744073709551616 ∧
      (∀ w, Calls Tryd.prog 12 #[.float .f64 old, .float .f64 sample, .float .f64 share] w fun e w' => e = .returned (.float .f64 y) ∧ w' = w) ∧
      (∀ w, Calls Tryd.prog 14 #[.float .f64 old, .float .f64 sample, .float .f64 share] w fun e w' => e = .returned (.float .f64 y) ∧ w' = w) ∧
      (kf y = kf old ∨ kf y = kf sample ∨ isN old = false ∧ isN sample = false) ∧
      ((kf old ≤ kf y ∧ kf y ≤ kf sample) ∨ (kf sample ≤ kf y ∧ kf y ≤ kf old)) := by
  cases hno : isN old
  · cases h2 : (isN sample || decide (kf (clampF share 0 4607182418800017408) = 0))
    · obtain ⟨hns, hz⟩ := Bool.or_eq_false_iff.1 h2
      clear h2
      cases h3 : (farF old || farF sample)
      · obtain ⟨hfo, hfs⟩ := Bool.or_eq_false_iff.1 h3
        obtain ⟨s, hcl, hsl, hsn, hs0, hsm⟩ := kf_share share hh
        rw [hcl] at hz
        have mo := far_mg hno hfo
        have ms := far_mg hns hfs
        obtain ⟨d, hd, _, hdn⟩ := sub_some sample old ms mo
        obtain ⟨p, hp, _, hpn⟩ := mul_some s d hsm (mg_kf0 hsn hz) hdn
        obtain ⟨x, hx, hxl, _⟩ := add_some old p mo hpn
        rcases Int.lt_trichotomy (kf old) (kf sample) with h | h | h
        · refine ⟨clampF x old sample, clampF_lt hxl ho hs, fun w => ?_, fun w => ?_, .inr (.inr ⟨rfl, hns⟩), ?_⟩
          · exact mean6_num old sample s x old sample _ hz hno hns hfo hfs share ho hs d p hd hp hx hcl (fun ts t w => min_lt ts t _ _ hno hns h w) (fun ts t w => max_lt ts t _ _ hno hns h w) rfl w
          · exact rmean6_num old sample s x old sample _ hsl hz hno hns hfo hfs share ho hs hh hxl d p hd hp hx hcl true (decide_eq_true h) rfl rfl rfl w
          · have := clampF_kf x old sample (by omega)
            omega
        · refine ⟨clampF x sample old, clampF_lt hxl hs ho, fun w => ?_, fun w => ?_, .inr (.inr ⟨rfl, hns⟩), ?_⟩
          · have hps := plainF_same ho hs hno hns h
            refine mean6_num old sample s x _ _ _ hz hno hns hfo hfs share ho hs d p hd hp hx hcl (fun ts t w => min_eq ts t _ _ hno hns h w) (fun ts t w => max_eq ts t _ _ hno hns h w) ?_ w
            cases ng old
            · show clampF x sample old = _
              rfl
            · show clampF x old sample = _
              exact clampF_same hps hps.symm h h.symm
          · exact rmean6_num old sample s x sample old _ hsl hz hno hns hfo hfs share ho hs hh hxl d p hd hp hx hcl false (decide_eq_false (by omega)) rfl rfl rfl w
          · have := clampF_kf x sample old (by omega)
            omega
        · refine ⟨clampF x sample old, clampF_lt hxl hs ho, fun w => ?_, fun w => ?_, .inr (.inr ⟨rfl, hns⟩), ?_⟩
          · exact mean6_num old sample s x sample old _ hz hno hns hfo hfs share ho hs d p hd hp hx hcl (fun ts t w => min_gt ts t _ _ hno hns h w) (fun ts t w => max_gt ts t _ _ hno hns h w) rfl w
          · exact rmean6_num old sample s x sample old _ hsl hz hno hns hfo hfs share ho hs hh hxl d p hd hp hx hcl false (decide_eq_false (by omega)) rfl rfl rfl w
          · have := clampF_kf x sample old (by omega)
            omega
      · refine ⟨plainF sample, plainF_lt hs, fun w => mean6_far old sample share ho hs hno hns hz h3 w, fun w => rmean6_far old sample share ho hs hh hno hns hz h3 w, ?_, ?_⟩ <;> rw [plainF_kf] <;> omega
    · refine ⟨plainF old, plainF_lt ho, fun w => mean6_smp old sample share hno h2 w, fun w => rmean6_smp old sample share ho hh hno h2 w, ?_, ?_⟩ <;> rw [plainF_kf] <;> omega
  · refine ⟨plainF sample, plainF_lt hs, fun w => mean6_old old sample share hno w, fun w => rmean6_old old sample share hs hh hno w, ?_, ?_⟩ <;> rw [plainF_kf] <;> omega

theorem same_self (y : Nat) (w : World) : Calls Tryd.prog 13 #[.float .f64 y, .float .f64 y] w fun e w' => e = .returned (.bool true) ∧ w' = w := by
  have hn := nan6 y
  have hb := bits21 y
  generalize isN y = q at *
  cases q <;> (
  go_enter Tryd.func13, Tryd.ntmps13
  go_wp2_with (go_at_call 15; with_reducible refine (hn _).mono ?_; rintro e w' ⟨rfl, rfl⟩)
  go_ret
  exact ⟨by simp, rfl⟩)

/-- The first of the least. -/
def lstF (f : Nat → Nat) : Nat → Int
  | 0 => -1
  | n + 1 => if lstF f n < 0 then n else if kf (f n) < kf (f (lstF f n).toNat) then n else lstF f n
theorem lstF_lt (f : Nat → Nat) : ∀ n, lstF f n < n ∧ -1 ≤ lstF f n
  | 0 => ⟨by show (-1 : Int) < ((0 : Nat) : Int); decide, by show (-1 : Int) ≤ -1; decide⟩
  | n + 1 => by
    have h := lstF_lt f n
    unfold lstF
    split
    · omega
    · split <;> omega
theorem lstF_ge (f : Nat → Nat) : ∀ n, 0 < n → 0 ≤ lstF f n
  | 0, h => absurd h (by decide)
  | n + 1, _ => by
    unfold lstF
    split
    · omega
    · split <;> omega
theorem lstF_ok (f : Nat → Nat) : ∀ n, 0 < n → ∀ i, i < n → kf (f (lstF f n).toNat) < kf (f i) ∨ kf (f (lstF f n).toNat) = kf (f i) ∧ lstF f n ≤ i
  | 0, h, _, _ => absurd h (by decide)
  | n + 1, _, i, hi => by
    have hge := lstF_ge f n
    have hlt := lstF_lt f n
    have ih := lstF_ok f n
    unfold lstF
    by_cases h0 : n = 0
    · subst h0
      obtain rfl : i = 0 := by omega
      have e : lstF f 0 < 0 := by show (-1 : Int) < 0; decide
      rw [if_pos e]
      exact .inr ⟨rfl, by omega⟩
    · have hn : 0 < n := by omega
      have g := hge hn
      rw [if_neg (by omega)]
      split
      · rename_i hk
        rw [Int.toNat_natCast]
        by_cases e : i = n
        · subst e; exact .inr ⟨rfl, by omega⟩
        · have := ih hn i (by omega)
          omega
      · rename_i hk
        by_cases e : i = n
        · subst e; omega
        · exact ih hn i (by omega)
set_option maxRecDepth 100000 in
set_option maxHeartbeats 1000000 in
theorem least3 (a : Option Addr) (n c : Nat) (f : Nat → Nat) (w : World) (hn : n ≤ 1000000)
    (hrow : n = 0 ∨ ∃ b o, a = some ⟨b, o, none⟩ ∧ ∀ j, j < n → w.cell? ⟨b, o + j, none⟩ = some (.float .f64 (f j))) :
    Calls Tryd.prog 11 #[.slice a n c] w fun e w' => e = .returned (.int .i64 (lstF f n)) ∧ w' = w := by
  have HR := Lib.hid hrow
  clear hrow
  go_enter Tryd.func11, Tryd.ntmps11
  go_wp2_with fail
  go_loopw [3, 8] (fun l i wr => ∃ j : Nat, j ≤ n ∧ i = .int .i64 (j : Int) ∧ l = .int .i64 (lstF f j) ∧ wr = w) (fun _ i _ => n - (intOf i).toNat)
  case atStart => exact ⟨0, Nat.zero_le _, rfl, rfl, rfl⟩
  case round =>
    obtain ⟨j, hj, rfl, rfl, rfl⟩ := hrel
    by_cases hlt : j < n
    · obtain h0 | ⟨b, o, rfl, hc⟩ := HR.out
      · subst h0; simp at hlt
      have cj := hc j hlt
      by_cases h0 : j = 0
      · subst h0
        have e : lstF f 0 = -1 := rfl
        rw [e]
        rw [Nat.add_zero] at cj
        go_wp2_with fail
        go_roundw
        case rel => exact ⟨1, by omega, rfl, rfl, trivial⟩
        case measure => simp [intOf]; omega
      · have g := lstF_ge f j (by omega)
        have g2 := (lstF_lt f j).1
        obtain ⟨m, hm⟩ := Int.eq_ofNat_of_zero_le g
        have hs : lstF f (j + 1) = if decide (kf (f j) < kf (f m)) = true then (j : Int) else (m : Int) := by
          rw [lstF, if_neg (by omega), hm]
          simp
        rw [hm] at g g2 ⊢
        have cm := hc m (by omega)
        have hb := before5 (f j) (f m)
        have HS := Lib.hid hs
        have hmj : m < n := by omega
        have hneg : ¬ ((m : Int) < 0) := by omega
        clear hs hm g hc
        generalize decide (kf (f j) < kf (f m)) = t at *
        cases t <;> (
        go_wp2_with (go_at_call 24; with_reducible refine (hb _).mono ?_; rintro e w' ⟨rfl, rfl⟩)
        go_roundw
        case rel => exact ⟨j + 1, by omega, by go_num, by rw [HS.out]; simp, trivial⟩
        case measure => simp [intOf]; omega)
    · obtain rfl : j = n := by omega
      go_wp2_with fail
      go_ret
      exact ⟨rfl, rfl⟩
end Go.Proofs.YtbgppkjcmgljnaaDoor
