/- Packed: EdM, FlE, FlH, FlW, FlX, FlY, CaA, CaB, CaC. -/
import Derived.Laws.NewFold
import Derived.Test.YtpjbdejgamajlabDoorG08
import Derived.Test.YtpjbdejgamajlabDoorG10
/- StewardEdges: turns by equal weights (lists). -/
namespace Go.Proofs.YtpjbdejgamajlabDoor

/-- The name of a place. -/
def nmI (i : Nat) : ByteArray := ⟨#[UInt8.ofNat (97 + i)]⟩
theorem nmI_inj {i j : Nat} (hi : i < 12) (hj : j < 12) (h : nmI i = nmI j) : i = j := by
  unfold nmI at h
  injection h with h
  simp only [Array.mk.injEq, List.cons.injEq, and_true] at h
  have h2 := congrArg UInt8.toNat h
  simp only [UInt8.toNat_ofNat'] at h2
  omega
/-- Each place with the weight 1. -/
def evE (n : Nat) : List Ent := (List.range n).map fun i => (nmI i, 1)
theorem evE_step (n : Nat) : evE (n + 1) = evE n ++ [(nmI n, 1)] := by unfold evE; rw [List.range_succ, List.map_append]; rfl
theorem evE_len (n : Nat) : (evE n).length = n := by simp [evE]
theorem evE_mem {n : Nat} {e : Ent} (h : e ∈ evE n) : ∃ i, i < n ∧ e = (nmI i, 1) := by
  obtain ⟨i, hi, rfl⟩ := List.mem_map.1 h
  exact ⟨i, List.mem_range.1 hi, rfl⟩
theorem evE_apart {n : Nat} (hn : n ≤ 12) : Apart (evE n) := by
  unfold evE Apart
  rw [List.pairwise_map]
  refine List.Pairwise.imp_of_mem ?_ (List.pairwise_lt_range (n := n))
  intro i j hi hj hlt h
  have := nmI_inj (i := i) (j := j) (by have := List.mem_range.1 hi; omega) (by have := List.mem_range.1 hj; omega) h
  omega
theorem evE_weights (n : Nat) : ∀ e ∈ evE n, 1 ≤ e.2 ∧ e.2 ≤ 65535 := by
  intro e h
  obtain ⟨i, _, rfl⟩ := evE_mem h
  exact ⟨Int.le_refl 1, by show (1 : Int) ≤ 65535; omega⟩
theorem evE_sum : ∀ n, sumW (evE n) = (n : Int)
  | 0 => rfl
  | n + 1 => by
    have ih := evE_sum n
    rw [evE_step]
    unfold sumW at ih ⊢
    rw [List.map_append, List.sum_append, ih]
    simp
/-- Behind three times as many turns as there are places each has had three. -/
theorem ev_three {n : Nat} (hn : 0 < n) (h12 : n ≤ 12) {f c : ByteArray → Int} (h : Share (evE n) (3 * (n : Int)) f c) : ∀ i, i < n → c (nmI i) = 3 := by
  intro i hi
  have hne : evE n ≠ [] := fun e => by have := evE_len n; rw [e] at this; simp at this; omega
  have h2 : Share (evE n) (3 * sumW (evE n)) f c := by rw [evE_sum]; exact h
  have := (h2.full hne (evE_weights n) (nmI i, 1) (List.mem_map.2 ⟨i, List.mem_range.2 hi, rfl⟩)).1
  simpa using this
end Go.Proofs.YtpjbdejgamajlabDoor

/- Floats: both Means are one number, which lies between; Same; Least. -/
namespace Go.Proofs.YtpjbdejgamajlabDoor
open Go.RowKit

theorem kf_share (x : Nat) (hx : x < 18446744073709551616) : ∃ s, clampF x 0 4607182418800017408 = s ∧ s < 18446744073709551616 ∧ isN s = false ∧ 0 ≤ kf s ∧ mg s < 9218868437227405312 := by
  have h := clampF_kf x 0 4607182418800017408 (by decide)
  rw [kf_zero, show kf 4607182418800017408 = 4607182418800017408 by decide] at h
  exact ⟨_, rfl, clampF_lt hx (by decide) (by decide), isN_of_kf (by omega), h.1, mg_of_kf h.1 (by omega)⟩
theorem mg_kf0 {s : Nat} (hn : isN s = false) (h : decide (kf s = 0) = false) : mg s ≠ 0 := by
  intro h0
  have : kf s = 0 := by
    unfold kf
    rw [hn, h0]
    cases ng s <;> rfl
  rw [decide_eq_true this] at h
  cases h
/-- The first of the least. -/
def lstF (f : Nat → Nat) : Nat → Int
  | 0 => -1
  | n + 1 => if lstF f n < 0 then n else if kf (f n) < kf (f (lstF f n).toNat) then n else lstF f n
theorem lstF_lt (f : Nat → Nat) : ∀ n, lstF f n < n ∧ -1 ≤ lstF f n
  | 0 => ⟨by show (-1 : Int) < ((0 : Nat) : Int); decide, by show (-1 : Int) ≤ -1; decide⟩
  | n + 1 => by
    have h := lstF_lt f n
    unfold lstF
    split
    · omega
    · split <;> omega
theorem lstF_ge (f : Nat → Nat) : ∀ n, 0 < n → 0 ≤ lstF f n
  | 0, h => absurd h (by decide)
  | n + 1, _ => by
    unfold lstF
    split
    · omega
    · split <;> omega
theorem lstF_ok (f : Nat → Nat) : ∀ n, 0 < n → ∀ i, i < n → kf (f (lstF f n).toNat) < kf (f i) ∨ kf (f (lstF f n).toNat) = kf (f i) ∧ lstF f n ≤ i
  | 0, h, _, _ => absurd h (by decide)
  | n + 1, _, i, hi => by
    have hge := lstF_ge f n
    have hlt := lstF_lt f n
    have ih := lstF_ok f n
    unfold lstF
    by_cases h0 : n = 0
    · subst h0
      obtain rfl : i = 0 := by omega
      have e : lstF f 0 < 0 := by show (-1 : Int) < 0; decide
      rw [if_pos e]
      exact .inr ⟨rfl, by omega⟩
    · have hn : 0 < n := by omega
      have g := hge hn
      rw [if_neg (by omega)]
      split
      · rename_i hk
        rw [Int.toNat_natCast]
        by_cases e : i = n
        · subst e; exact .inr ⟨rfl, by omega⟩
        · have := ih hn i (by omega)
          omega
      · rename_i hk
        by_cases e : i = n
        · subst e; omega
        · exact ih hn i (by omega)
set_option maxRecDepth 100000 in
set_option maxHeartbeats 1000000 in
theorem least3 (a : Option Addr) (n c : Nat) (f : Nat → Nat) (w : World) (hn : n ≤ 1000000)
    (hrow : n = 0 ∨ ∃ b o, a = some ⟨b, o, none⟩ ∧ ∀ j, j < n → w.cell? ⟨b, o + j, none⟩ = some (.float .f64 (f j))) :
    Calls Tryd.prog 36 #[.slice a n c] w fun e w' => e = .returned (.int .i64 (lstF f n)) ∧ w' = w := by
  have HR := Lib.hid hrow
  clear hrow
  go_enter Tryd.func36, Tryd.ntmps36
  go_wp2_with fail
  go_loopw [3, 8] (fun l i wr => ∃ j : Nat, j ≤ n ∧ i = .int .i64 (j : Int) ∧ l = .int .i64 (lstF f j) ∧ wr = w) (fun _ i _ => n - (intOf i).toNat)
  case atStart => exact ⟨0, Nat.zero_le _, rfl, rfl, rfl⟩
  case round =>
    obtain ⟨j, hj, rfl, rfl, rfl⟩ := hrel
    by_cases hlt : j < n
    · obtain h0 | ⟨b, o, rfl, hc⟩ := HR.out
      · subst h0; simp at hlt
      have cj := hc j hlt
      by_cases h0 : j = 0
      · subst h0
        have e : lstF f 0 = -1 := rfl
        rw [e]
        rw [Nat.add_zero] at cj
        go_wp2_with fail
        go_roundw
        case rel => exact ⟨1, by omega, rfl, rfl, trivial⟩
        case measure => simp [intOf]; omega
      · have g := lstF_ge f j (by omega)
        have g2 := (lstF_lt f j).1
        obtain ⟨m, hm⟩ := Int.eq_ofNat_of_zero_le g
        have hs : lstF f (j + 1) = if decide (kf (f j) < kf (f m)) = true then (j : Int) else (m : Int) := by
          rw [lstF, if_neg (by omega), hm]
          simp
        rw [hm] at g g2 ⊢
        have cm := hc m (by omega)
        have hb := before5 (f j) (f m)
        have HS := Lib.hid hs
        have hmj : m < n := by omega
        have hneg : ¬ ((m : Int) < 0) := by omega
        clear hs hm g hc
        generalize decide (kf (f j) < kf (f m)) = t at *
        cases t <;> (
        go_wp2_with (go_at_call 47; with_reducible refine (hb _).mono ?_; rintro e w' ⟨rfl, rfl⟩)
        go_roundw
        case rel => exact ⟨j + 1, by omega, by go_num, by rw [HS.out]; simp, trivial⟩
        case measure => simp [intOf]; omega)
    · obtain rfl : j = n := by omega
      go_wp2_with fail
      go_ret
      exact ⟨rfl, rfl⟩
end Go.Proofs.YtpjbdejgamajlabDoor

/- Floats: a half. -/
namespace Go.Proofs.YtpjbdejgamajlabDoor
open Go.RowKit

theorem log2_mul (m k : Nat) (h : m ≠ 0) : (m * 2 ^ k).log2 = m.log2 + k := by
  have hp : 0 < 2 ^ k := Nat.two_pow_pos k
  have hm : m * 2 ^ k ≠ 0 := Nat.ne_of_gt (Nat.mul_pos (Nat.pos_of_ne_zero h) hp)
  have h1 : 2 ^ m.log2 ≤ m := (Nat.le_log2 h).1 (Nat.le_refl _)
  have h2 : m < 2 ^ (m.log2 + 1) := (Nat.log2_lt h).1 (Nat.lt_succ_self _)
  have a : m.log2 + k ≤ (m * 2 ^ k).log2 := (Nat.le_log2 hm).2 (by rw [Nat.pow_add]; exact Nat.mul_le_mul_right _ h1)
  have b : (m * 2 ^ k).log2 < m.log2 + k + 1 := (Nat.log2_lt hm).2 (by
    rw [show m.log2 + k + 1 = (m.log2 + 1) + k by omega, Nat.pow_add]
    exact Nat.mul_lt_mul_of_pos_right h2 hp)
  omega
theorem cut_even (s : Bool) (m k : Nat) (h : m ≠ 0) : Ieee.Toward.even.cut s (m * 2 ^ k) k = m := by
  unfold Ieee.Toward.cut
  rw [log2_mul m k h, Nat.min_eq_left (by omega), Nat.shiftLeft_eq, Nat.one_mul]
  have hp : 0 < 2 ^ k := Nat.two_pow_pos k
  simp only [Nat.mul_div_cancel _ hp, Nat.mul_mod_left]
  have h1 : decide (2 ^ k < 2 * 0) = false := decide_eq_false (by omega)
  have h2 : (2 ^ k == 2 * 0) = false := by rw [beq_eq_false_iff_ne]; omega
  rw [h1, h2]
  rfl
theorem cut_half (s : Bool) (m k : Nat) (h : m ≠ 0) : Ieee.Toward.even.cut s (m * 2 ^ k) (k + 1) < m := by
  unfold Ieee.Toward.cut
  rw [log2_mul m k h, Nat.min_eq_left (by omega), Nat.shiftLeft_eq, Nat.one_mul]
  have hp : 0 < 2 ^ k := Nat.two_pow_pos k
  have e : 2 ^ (k + 1) = 2 * 2 ^ k := by rw [Nat.pow_succ, Nat.mul_comm]
  rw [e]
  simp only [Nat.mul_div_mul_right _ _ hp, Nat.mul_mod_mul_right]
  have hm2 : m % 2 = 0 ∨ m % 2 = 1 := by omega
  rcases hm2 with h2 | h2
  · rw [h2, Nat.zero_mul]
    have h3 : decide (2 * 2 ^ k < 2 * 0) = false := decide_eq_false (by omega)
    have h4 : (2 * 2 ^ k == 2 * 0) = false := by rw [beq_eq_false_iff_ne]; omega
    rw [h3, h4]
    show m / 2 + 0 < m
    omega
  · rw [h2, Nat.one_mul]
    have h3 : decide (2 * 2 ^ k < 2 * 2 ^ k) = false := decide_eq_false (by omega)
    have h4 : (2 * 2 ^ k == 2 * 2 ^ k) = true := by rw [beq_iff_eq]
    rw [h3, h4]
    simp only [Bool.false_or, Bool.true_and]
    by_cases h5 : m / 2 % 2 = 1
    · have : (m / 2 % 2 == 1) = true := by rw [beq_iff_eq]; exact h5
      rw [this]
      show m / 2 + 1 < m
      omega
    · have : (m / 2 % 2 == 1) = false := by rw [beq_eq_false_iff_ne]; exact h5
      rw [this]
      show m / 2 + 0 < m
      omega
theorem read_two : Ieee.double.read 4611686018427387904 = .number false 4503599627370496 (-51) := by decide
theorem quot_two (s : Bool) (m : Nat) (i : Int) (h0 : m ≠ 0) (hm : m < 9007199254740992) :
    ∃ k : Nat, 3 ≤ k ∧ (Ieee.Datum.number s m i).quotient 54 (.number false 4503599627370496 (-51)) = some (.number s (m * 2 ^ k) (i - k - 1)) := by
  have hl : m.log2 < 53 := (Nat.log2_lt h0).2 hm
  have e52 : Nat.log2 4503599627370496 = 52 := by decide
  obtain ⟨q, hq⟩ : ∃ q : Nat, 54 + 52 - m.log2 = q + 52 := ⟨54 - m.log2, by omega⟩
  refine ⟨q + 1, by omega, ?_⟩
  show (if (4503599627370496 : Nat) = 0 then (if m = 0 then none else some (Ieee.Datum.infinity (s ^^ false))) else some (Ieee.Datum.number (s ^^ false) (2 * ((m <<< (54 + Nat.log2 4503599627370496 - m.log2)) / 4503599627370496) + ((m <<< (54 + Nat.log2 4503599627370496 - m.log2)) % 4503599627370496 != 0).toNat) (i - (-51) - ((54 + Nat.log2 4503599627370496 - m.log2 : Nat) : Int) - 1))) = _
  have ep : ∀ q : Nat, 2 ^ (q + 52) = 2 ^ q * 4503599627370496 := fun q => Nat.pow_add 2 q 52
  rw [if_neg (by decide), e52, hq, Nat.shiftLeft_eq, ep, ← Nat.mul_assoc, Nat.mul_div_cancel _ (by decide), Nat.mul_mod_left, Bool.xor_false]
  have e2 : 2 * (m * 2 ^ q) + ((0 : Nat) != 0).toNat = m * 2 ^ (q + 1) := by
    rw [Nat.pow_succ, Nat.mul_comm 2, ← Nat.mul_assoc]
    rfl
  rw [e2]
  congr 2
  omega
/-- The word of half a number. -/
theorem half_num (s : Bool) (m k : Nat) (i : Int) (h0 : m ≠ 0) (hi : -1074 ≤ i) (hn : (4503599627370496 ≤ m ∧ m < 9007199254740992) ∨ (m < 4503599627370496 ∧ i = -1074)) :
    ∃ r, Ieee.double.write (.number s (m * 2 ^ k) (i - k - 1)) = Ieee.double.word s (min r 9218868437227405312) ∧
      (r < m ∧ i = -1074 ∨ -1074 < i ∧ 4503599627370496 ≤ m ∧ r = (i - 1 + 1074).toNat * 4503599627370496 + m) := by
  have hp : 0 < 2 ^ k := Nat.two_pow_pos k
  have hmk : m * 2 ^ k ≠ 0 := Nat.ne_of_gt (Nat.mul_pos (Nat.pos_of_ne_zero h0) hp)
  have hl : m.log2 < 53 := (Nat.log2_lt h0).2 (by omega)
  show ∃ r, (if m * 2 ^ k = 0 then Ieee.double.word s 0 else Ieee.double.word s (min ((max (i - k - 1 + ((m * 2 ^ k).log2 : Int) - 52) (-1074) - (-1074)).toNat * 4503599627370496 + Ieee.Toward.even.cut s ((m * 2 ^ k) <<< ((i - k - 1) - max (i - k - 1 + ((m * 2 ^ k).log2 : Int) - 52) (-1074)).toNat) (max (i - k - 1 + ((m * 2 ^ k).log2 : Int) - 52) (-1074) - (i - k - 1)).toNat) 9218868437227405312)) = _ ∧ _
  rw [if_neg hmk, log2_mul m k h0]
  refine ⟨_, rfl, ?_⟩
  by_cases h1 : -1074 < i
  · have hm : 4503599627370496 ≤ m := by omega
    have hl2 : 52 ≤ m.log2 := (Nat.le_log2 h0).2 hm
    have e : max (i - k - 1 + ((m.log2 + k : Nat) : Int) - 52) (-1074) = i - 1 := by omega
    right
    refine ⟨h1, hm, ?_⟩
    rw [e, show ((i - k - 1) - (i - 1)).toNat = 0 by omega, Nat.shiftLeft_zero, show ((i - 1) - (i - k - 1)).toNat = k by omega, cut_even s m k h0]
    omega
  · obtain rfl : i = -1074 := by omega
    have e : max (-1074 - k - 1 + ((m.log2 + k : Nat) : Int) - 52) (-1074) = -1074 := by omega
    left
    refine ⟨?_, rfl⟩
    rw [e, show ((-1074 - (k : Int) - 1) - (-1074)).toNat = 0 by omega, Nat.shiftLeft_zero, show ((-1074 : Int) - (-1074 - k - 1)).toNat = k + 1 by omega]
    have := cut_half s m k h0
    omega
/-- A HALF: its sign is the same; a zero and an infinity remain; any other number becomes less. -/
theorem half_some (x : Nat) (hn : isN x = false) : ∃ h, floatBits .quo .f64 x 4611686018427387904 = some h ∧ h < 18446744073709551616 ∧ isN h = false ∧ ng h = ng x ∧
    (mg x = 0 → mg h = 0) ∧ (mg x = 9218868437227405312 → mg h = 9218868437227405312) ∧ (mg x ≠ 0 → mg x ≠ 9218868437227405312 → mg h < mg x) := by
  have hx : mg x ≤ 9218868437227405312 := by simpa [isN] using hn
  show ∃ h, ((Ieee.double.read x).quotient 54 (Ieee.double.read 4611686018427387904)).map Ieee.double.write = some h ∧ _
  rw [read_two]
  rcases Nat.lt_or_eq_of_le hx with h1 | h1
  · by_cases h0 : mg x = 0
    · have e : Ieee.double.read x = .number (ng x) 0 (-1074) := by rw [read_eq, h0]; rfl
      rw [e]
      have hq : (Ieee.Datum.number (ng x) 0 (-1074)).quotient 54 (.number false 4503599627370496 (-51)) = some (.number (ng x) 0 (-1074 - (-51) - ((106 - Nat.log2 0 : Nat) : Int) - 1)) := by
        cases ng x <;> decide
      rw [hq]
      have hw : Ieee.double.write (.number (ng x) 0 (-1074 - (-51) - ((106 - Nat.log2 0 : Nat) : Int) - 1)) = Ieee.double.word (ng x) 0 := rfl
      have ho := word_ok (ng x) 0 (by decide)
      exact ⟨_, rfl, by rw [hw]; exact ho.1, by rw [hw]; exact ho.2.1, by rw [hw]; exact ho.2.2.2, fun _ => by rw [hw]; exact ho.2.2.1, fun h => by omega, fun h => absurd h0 h⟩
    · have : ∃ m i, Ieee.double.read x = .number (ng x) m i ∧ m ≠ 0 ∧ -1074 ≤ i ∧ ((4503599627370496 ≤ m ∧ m < 9007199254740992) ∨ (m < 4503599627370496 ∧ i = -1074)) ∧ mg x = (if 4503599627370496 ≤ m then (i + 1074).toNat * 4503599627370496 + m else m) := by
        rw [read_eq]
        by_cases h2 : mg x < 4503599627370496
        · rw [if_pos h2]
          exact ⟨_, _, rfl, h0, by omega, .inr ⟨h2, rfl⟩, by rw [if_neg (by omega)]⟩
        · rw [if_neg h2, if_pos h1]
          refine ⟨_, _, rfl, by omega, by omega, .inl ⟨by omega, by omega⟩, ?_⟩
          rw [if_pos (by omega)]
          have : (-1074 + ((mg x / 4503599627370496 - 1 : Nat) : Int) + 1074).toNat = mg x / 4503599627370496 - 1 := by omega
          rw [this]
          omega
      obtain ⟨m, i, e, hm0, hi, hmi, hg⟩ := this
      rw [e]
      obtain ⟨k, _, hq⟩ := quot_two (ng x) m i hm0 (by omega)
      rw [hq]
      obtain ⟨r, hw, hr⟩ := half_num (ng x) m k i hm0 hi hmi
      have ho := word_ok (ng x) (min r 9218868437227405312) (Nat.min_le_right _ _)
      refine ⟨_, rfl, by rw [hw]; exact ho.1, by rw [hw]; exact ho.2.1, by rw [hw]; exact ho.2.2.2, fun h => absurd h h0, fun h => by omega, fun _ _ => ?_⟩
      rw [hw, ho.2.2.1]
      have hrm : r < mg x := by
        rw [hg]
        rcases hr with ⟨hr, rfl⟩ | ⟨hi2, hm2, hr⟩
        · split
          · rw [show ((-1074 : Int) + 1074).toNat = 0 from rfl]; omega
          · exact hr
        · rw [if_pos hm2, hr]
          have : (i + 1074).toNat = (i - 1 + 1074).toNat + 1 := by omega
          rw [this, Nat.add_mul]
          omega
      omega
  · rw [read_inf x h1]
    have hq : (Ieee.Datum.infinity (ng x)).quotient 54 (.number false 4503599627370496 (-51)) = some (.infinity (ng x)) := by
      cases ng x <;> rfl
    rw [hq]
    have ho := word_ok (ng x) 9218868437227405312 (Nat.le_refl _)
    exact ⟨_, rfl, by rw [write_inf]; exact ho.1, by rw [write_inf]; exact ho.2.1, by rw [write_inf]; exact ho.2.2.2, fun h => by omega, fun _ => by rw [write_inf]; exact ho.2.2.1, fun _ h => absurd h1 h⟩
theorem half_nan (x : Nat) (hn : isN x = true) : floatBits .quo .f64 x 4611686018427387904 = none := by
  show ((Ieee.double.read x).quotient 54 (Ieee.double.read 4611686018427387904)).map Ieee.double.write = none
  rw [read_nan x hn]
  rfl
theorem run_half_nan (x : Nat) (hn : isN x = true) (w : World) : ∃ b, b < 18446744073709551616 ∧ isN b = true ∧ ∀ t, (binOp .quo t (.float .f64 x) (.float .f64 4611686018427387904)).run Tryd.prog w = .ok (.float .f64 b) w.drew := by
  have h : FloatKind.f64.format.div x 4611686018427387904 = none := half_nan x hn
  refine ⟨(Question.nanBits .f64 x 4611686018427387904).cut (w.tape w.drawn (Question.nanBits .f64 x 4611686018427387904)), ?_, ?_, fun t => ?_⟩
  · have h1 : (w.tape w.drawn (Question.nanBits .f64 x 4611686018427387904) / 2) % (2 ^ 52 - 1) < 2 ^ 52 - 1 := Nat.mod_lt _ (by decide)
    have h2 : w.tape w.drawn (Question.nanBits .f64 x 4611686018427387904) % 2 < 2 := Nat.mod_lt _ (by decide)
    show (w.tape w.drawn _ % 2) * 2 ^ 63 + 0x7ff0000000000000 + 1 + (w.tape w.drawn _ / 2) % (2 ^ 52 - 1) < _
    generalize w.tape w.drawn (Question.nanBits .f64 x 4611686018427387904) % 2 = u at *
    generalize (w.tape w.drawn (Question.nanBits .f64 x 4611686018427387904) / 2) % (2 ^ 52 - 1) = r at *
    omega
  · have h1 : (w.tape w.drawn (Question.nanBits .f64 x 4611686018427387904) / 2) % (2 ^ 52 - 1) < 2 ^ 52 - 1 := Nat.mod_lt _ (by decide)
    have h2 : w.tape w.drawn (Question.nanBits .f64 x 4611686018427387904) % 2 < 2 := Nat.mod_lt _ (by decide)
    show decide (_ < ((w.tape w.drawn _ % 2) * 2 ^ 63 + 0x7ff0000000000000 + 1 + (w.tape w.drawn _ / 2) % (2 ^ 52 - 1)) % 9223372036854775808) = true
    rw [decide_eq_true_iff]
    generalize w.tape w.drawn (Question.nanBits .f64 x 4611686018427387904) % 2 = u at *
    generalize (w.tape w.drawn (Question.nanBits .f64 x 4611686018427387904) / 2) % (2 ^ 52 - 1) = r at *
    omega
  · simp [binOp, Op.floatArith, h, Question.forced]
end Go.Proofs.YtpjbdejgamajlabDoor

/- The rounded quotient of two small whole numbers: it keeps their order. -/
namespace Go.Proofs.YtpjbdejgamajlabDoor
open Go.RowKit

/-- The rounded quotient of M by n, 52 places behind the point, where n <= M < 2n. -/
def rk (B M n : Nat) : Nat :=
  M * (2 * B) / n / 2 + ((M * (2 * B) / n % 2 == 1) && ((M * (2 * B) % n != 0) || (M * (2 * B) / n / 2 % 2 == 1))).toNat

theorem rk_near (B M n : Nat) (hn : 0 < n) : 2 * (rk B M n * n) ≤ 2 * (M * B) + n ∧ 2 * (M * B) ≤ 2 * (rk B M n * n) + n := by
  unfold rk
  have h0 : M * (2 * B) = 2 * (M * B) := Nat.mul_left_comm ..
  rw [h0]
  have h1 := Nat.div_add_mod (2 * (M * B)) n
  have h2 := Nat.mod_lt (2 * (M * B)) hn
  generalize 2 * (M * B) / n = f at *
  generalize 2 * (M * B) % n = r at *
  generalize M * B = mb at *
  have h3 : f = 2 * (f / 2) + f % 2 := by omega
  have h4 : f % 2 = 0 ∨ f % 2 = 1 := by omega
  generalize f / 2 = g at *
  have e1 : n * f = 2 * (g * n) + f % 2 * n := by
    calc n * f = n * (2 * g + f % 2) := by rw [← h3]
      _ = 2 * (g * n) + f % 2 * n := by rw [Nat.mul_add, Nat.mul_comm n (f % 2), Nat.mul_left_comm, Nat.mul_comm n g]
  rcases h4 with h | h
  · rw [h] at e1 ⊢
    simp only [show ((0 : Nat) == 1) = false from rfl, Bool.false_and, Bool.toNat_false, Nat.add_zero]
    generalize g * n = gn at *
    omega
  · rw [h] at e1 ⊢
    simp only [show ((1 : Nat) == 1) = true from rfl, Bool.true_and]
    cases hb : ((r != 0) || (g % 2 == 1))
    · simp only [Bool.toNat_false, Nat.add_zero]
      have : r = 0 := by
        have := (Bool.or_eq_false_iff.1 hb).1
        simpa using this
      generalize g * n = gn at *
      omega
    · simp only [Bool.toNat_true]
      rw [Nat.add_mul]
      generalize g * n = gn at *
      omega

theorem div_ratio {X n Y m : Nat} (hn : 0 < n) (hm : 0 < m) (h : X * m = Y * n) : X / n = Y / m ∧ (X % n = 0 ↔ Y % m = 0) := by
  have a1 : X / n = X * m / (n * m) := (Nat.mul_div_mul_right X n hm).symm
  have a2 : Y / m = Y * n / (m * n) := (Nat.mul_div_mul_right Y m hn).symm
  have b1 : X * m % (n * m) = X % n * m := Nat.mul_mod_mul_right ..
  have b2 : Y * n % (m * n) = Y % m * n := Nat.mul_mod_mul_right ..
  refine ⟨by rw [a1, a2, h, Nat.mul_comm n m], ?_⟩
  rw [h, Nat.mul_comm n m, b2] at b1
  constructor
  · intro e
    rw [e, Nat.zero_mul] at b1
    rcases Nat.mul_eq_zero.1 b1 with e | e
    · exact e
    · omega
  · intro e
    rw [e, Nat.zero_mul] at b1
    rcases Nat.mul_eq_zero.1 b1.symm with e | e
    · exact e
    · omega

theorem rk_ratio {B M n N m : Nat} (hn : 0 < n) (hm : 0 < m) (h : M * m = N * n) : rk B M n = rk B N m := by
  have e : M * (2 * B) * m = N * (2 * B) * n := by
    rw [Nat.mul_right_comm, h, Nat.mul_right_comm]
  obtain ⟨d, s⟩ := div_ratio hn hm e
  unfold rk
  rw [d]
  have : (M * (2 * B) % n != 0) = (N * (2 * B) % m != 0) := by
    cases h1 : (M * (2 * B) % n != 0) <;> cases h2 : (N * (2 * B) % m != 0) <;> simp_all
  rw [this]

/-- Two fractions M1/n1 * 2^G1 < M2/n2 * 2^G2 with small parts: the rounded ones too. -/
theorem rk_less {B M n N m G J : Nat} (hB : 34359738368 < B) (hn : 0 < n) (hm : 0 < m) (n1 : n < 131072) (m1 : m < 131072) (a1 : n ≤ M) (a2 : M < 2 * n) (b1 : m ≤ N) (b2 : N < 2 * m)
    (h : M * m * 2 ^ G < N * n * 2 ^ J) : G * B + rk B M n < J * B + rk B N m := by
  obtain ⟨p1, p2⟩ := rk_near B M n hn
  obtain ⟨q1, q2⟩ := rk_near B N m hm
  have hnm : 0 < n * m := Nat.mul_pos hn hm
  have k2 : rk B M n < 2 * B := by
    apply Decidable.byContradiction
    intro hh
    have e1 : 2 * B * n ≤ rk B M n * n := Nat.mul_le_mul_right n (by omega)
    have e2 : M * B ≤ (2 * n - 1) * B := Nat.mul_le_mul_right B (by omega)
    have e3 : (2 * n - 1) * B + B = 2 * B * n := by
      rw [← Nat.succ_mul, show (2 * n - 1).succ = 2 * n by omega, Nat.mul_right_comm]
    generalize 2 * B * n = x at *
    generalize rk B M n * n = y at *
    generalize M * B = z at *
    generalize (2 * n - 1) * B = u at *
    omega
  have k3 : B ≤ rk B N m := by
    apply Decidable.byContradiction
    intro hh
    have e1 : rk B N m * m ≤ (B - 1) * m := Nat.mul_le_mul_right m (by omega)
    have e2 : m * B ≤ N * B := Nat.mul_le_mul_right B b1
    have e3 : (B - 1) * m + m = m * B := by
      rw [← Nat.succ_mul, show (B - 1).succ = B by omega, Nat.mul_comm]
    generalize rk B N m * m = x at *
    generalize (B - 1) * m = y at *
    generalize N * B = z at *
    generalize m * B = u at *
    omega
  rcases Nat.lt_trichotomy G J with hg | hg | hg
  · have e1 : (G + 1) * B ≤ J * B := Nat.mul_le_mul_right B hg
    rw [Nat.add_mul] at e1
    generalize G * B = x at *
    generalize J * B = y at *
    omega
  · subst hg
    have h' : M * m < N * n := Nat.lt_of_mul_lt_mul_right h
    have : rk B M n < rk B N m := by
      apply Decidable.byContradiction
      intro hh
      have e1 : rk B N m * (n * m) ≤ rk B M n * (n * m) := Nat.mul_le_mul_right _ (by omega)
      have e2 := Nat.mul_le_mul_right m p1
      have e3 := Nat.mul_le_mul_right n q2
      have t1 : 2 * (rk B M n * n) * m = 2 * (rk B M n * (n * m)) := by simp [Nat.mul_assoc]
      have t2 : (2 * (M * B) + n) * m = 2 * (B * (M * m)) + n * m := by
        rw [Nat.add_mul, Nat.mul_assoc, Nat.mul_comm M B, Nat.mul_assoc]
      have t3 : 2 * (N * B) * n = 2 * (B * (N * n)) := by
        rw [Nat.mul_assoc, Nat.mul_comm N B, Nat.mul_assoc]
      have t4 : (2 * (rk B N m * m) + m) * n = 2 * (rk B N m * (n * m)) + n * m := by
        rw [Nat.add_mul, Nat.mul_comm m n, Nat.mul_assoc, Nat.mul_assoc, Nat.mul_comm m n]
      have t5 : B * (M * m) + B ≤ B * (N * n) := by
        have := Nat.mul_le_mul_left B (show M * m + 1 ≤ N * n from h')
        rwa [Nat.mul_add, Nat.mul_one] at this
      rw [t1, t2] at e2
      rw [t3, t4] at e3
      have : n * m ≤ 131072 * 131072 := Nat.mul_le_mul (by omega) (by omega)
      generalize rk B M n * (n * m) = x at *
      generalize rk B N m * (n * m) = y at *
      generalize B * (M * m) = u at *
      generalize B * (N * n) = v at *
      generalize n * m = z at *
      omega
    generalize G * B = x at *
    omega
  · exfalso
    obtain ⟨d, rfl⟩ := Nat.exists_eq_add_of_lt hg
    have c1 : N * n ≤ 2 * (n * m) := by
      rw [← Nat.mul_assoc, Nat.mul_right_comm]
      exact Nat.mul_le_mul_right n (by omega)
    have c2 : n * m ≤ M * m := Nat.mul_le_mul_right m a1
    have c3 : M * m * 2 ^ (J + d + 1) = 2 * (M * m * 2 ^ d) * 2 ^ J := by
      rw [Nat.pow_succ, Nat.pow_add]
      simp [Nat.mul_comm, Nat.mul_left_comm]
    rw [c3] at h
    have h' := Nat.lt_of_mul_lt_mul_right h
    have : M * m * 1 ≤ M * m * 2 ^ d := Nat.mul_le_mul_left _ (Nat.two_pow_pos d)
    omega

theorem rk_same {B M n N m G J : Nat} (hn : 0 < n) (hm : 0 < m) (a1 : n ≤ M) (a2 : M < 2 * n) (b1 : m ≤ N) (b2 : N < 2 * m)
    (h : M * m * 2 ^ G = N * n * 2 ^ J) : G * B + rk B M n = J * B + rk B N m := by
  have key : ∀ {M n N m G J : Nat}, 0 < n → 0 < m → n ≤ M → M < 2 * n → m ≤ N → N < 2 * m → M * m * 2 ^ G = N * n * 2 ^ J → ¬ J < G := by
    intro M n N m G J hn hm a1 a2 b1 b2 h hg
    obtain ⟨d, rfl⟩ := Nat.exists_eq_add_of_lt hg
    have c1 : N * n < 2 * (n * m) := by
      rw [← Nat.mul_assoc, Nat.mul_right_comm]
      exact Nat.mul_lt_mul_of_pos_right (by omega) hn
    have c2 : n * m ≤ M * m := Nat.mul_le_mul_right m a1
    have c3 : M * m * 2 ^ (J + d + 1) = 2 * (M * m * 2 ^ d) * 2 ^ J := by
      rw [Nat.pow_succ, Nat.pow_add]
      simp [Nat.mul_comm, Nat.mul_left_comm]
    rw [c3] at h
    have h' := Nat.eq_of_mul_eq_mul_right (Nat.two_pow_pos J) h
    have : M * m * 1 ≤ M * m * 2 ^ d := Nat.mul_le_mul_left _ (Nat.two_pow_pos d)
    omega
  have g1 := key hn hm a1 a2 b1 b2 h
  have g2 := key hm hn b1 b2 a1 a2 h.symm
  have : G = J := by omega
  subst this
  rw [rk_ratio hn hm (Nat.eq_of_mul_eq_mul_right (Nat.two_pow_pos G) h)]


theorem log2_le {a : Nat} (h0 : a ≠ 0) (h : a < 131072) : a.log2 ≤ 16 := Nat.le_of_lt_succ ((Nat.log2_lt h0).2 h)
theorem log2_bounds {a : Nat} (h0 : a ≠ 0) : 2 ^ a.log2 ≤ a ∧ a < 2 ^ (a.log2 + 1) := ⟨(Nat.le_log2 h0).1 (Nat.le_refl _), (Nat.log2_lt h0).1 (Nat.lt_succ_self _)⟩
/-- A small number, shifted to 17 digits. -/
def sh (a : Nat) : Nat := a * 2 ^ (16 - a.log2)
theorem sh_bounds {a : Nat} (h0 : a ≠ 0) (h : a < 131072) : 65536 ≤ sh a ∧ sh a < 131072 := by
  have hl := log2_le h0 h
  obtain ⟨h1, h2⟩ := log2_bounds h0
  unfold sh
  have e1 : 2 ^ a.log2 * 2 ^ (16 - a.log2) = 65536 := by rw [← Nat.pow_add, show a.log2 + (16 - a.log2) = 16 by omega]
  have e2 : 2 ^ (a.log2 + 1) * 2 ^ (16 - a.log2) = 131072 := by rw [← Nat.pow_add, show a.log2 + 1 + (16 - a.log2) = 17 by omega]
  have hp : 0 < 2 ^ (16 - a.log2) := Nat.two_pow_pos _
  have h3 := Nat.mul_le_mul_right (2 ^ (16 - a.log2)) h1
  have h4 := Nat.mul_lt_mul_of_pos_right h2 hp
  omega
/-- The same, shifted to 53 digits. -/
theorem sh_full {a : Nat} (h0 : a ≠ 0) (h : a < 131072) : a * 2 ^ (52 - a.log2) = sh a * 2 ^ 36 := by
  have hl := log2_le h0 h
  unfold sh
  rw [Nat.mul_assoc, ← Nat.pow_add, show 16 - a.log2 + 36 = 52 - a.log2 by omega]
theorem sh_log2 {a : Nat} (h0 : a ≠ 0) (h : a < 131072) : (sh a * 2 ^ 36).log2 = 52 := by
  have hb := sh_bounds h0 h
  have hne : sh a ≠ 0 := by omega
  rw [log2_mul _ _ hne]
  have : (sh a).log2 = 16 := by
    have h1 : 16 ≤ (sh a).log2 := (Nat.le_log2 hne).2 (by omega)
    have h2 : (sh a).log2 < 17 := (Nat.log2_lt hne).2 (by omega)
    omega
  omega
/-- The rung of a whole number. -/
def rungI (a : Nat) : Nat := (a.log2 + 1022) * 4503599627370496 + sh a * 2 ^ 36
theorem word_false (r : Nat) : Ieee.double.word false r = r := rfl
theorem near_eq (mag : Nat) (place : Int) (d : Nat) (L : Nat) (hm : mag ≠ 0) (hL : mag.log2 = L) (hd : (place + (L : Int) - 52) = place + d) (hp : -1074 ≤ place + d) :
    Ieee.double.nearest false mag place = min ((place + d + 1074).toNat * 4503599627370496 + Ieee.Toward.even.cut false mag d) 9218868437227405312 := by
  show (if mag = 0 then Ieee.double.word false 0 else Ieee.double.word false (min ((max (place + (mag.log2 : Int) - 52) (-1074) - (-1074)).toNat * 4503599627370496 + Ieee.Toward.even.cut false (mag <<< (place - max (place + (mag.log2 : Int) - 52) (-1074)).toNat) (max (place + (mag.log2 : Int) - 52) (-1074) - place).toNat) 9218868437227405312)) = _
  rw [if_neg hm, hL, hd, Int.max_eq_left hp]
  rw [show (place - (place + (d : Int))).toNat = 0 by omega, show (place + (d : Int) - place).toNat = d by omega, show place + (d : Int) - -1074 = place + d + 1074 by omega, Nat.shiftLeft_zero, word_false]
theorem fI_eq {a : Nat} (h0 : a ≠ 0) (h : a < 131072) : floatOfInt .f64 (a : Int) = rungI a := by
  have hl := log2_le h0 h
  have hb := sh_bounds h0 h
  show Ieee.double.nearest (decide ((a : Int) < 0)) (a : Int).natAbs 0 = _
  rw [decide_eq_false (by omega), Int.natAbs_natCast]
  show (if a = 0 then Ieee.double.word false 0 else Ieee.double.word false (min ((max (0 + (a.log2 : Int) - 52) (-1074) - (-1074)).toNat * 4503599627370496 + Ieee.Toward.even.cut false (a <<< (0 - max (0 + (a.log2 : Int) - 52) (-1074)).toNat) (max (0 + (a.log2 : Int) - 52) (-1074) - 0).toNat) 9218868437227405312)) = _
  rw [if_neg h0, Int.max_eq_left (by omega)]
  rw [show (0 - (0 + (a.log2 : Int) - 52)).toNat = 52 - a.log2 by omega, show (0 + (a.log2 : Int) - 52 - 0).toNat = 0 by omega, show (0 + (a.log2 : Int) - 52 - -1074).toNat = a.log2 + 1022 by omega, Nat.shiftLeft_eq, sh_full h0 h]
  have hc := cut_even false (sh a * 2 ^ 36) 0 (by omega)
  rw [Nat.pow_zero, Nat.mul_one] at hc
  rw [hc, word_false]
  unfold rungI
  generalize hX : (a.log2 + 1022) * 4503599627370496 + sh a * 2 ^ 36 = X
  exact Nat.min_eq_left (by omega)
theorem rungI_mg {a : Nat} (h0 : a ≠ 0) (h : a < 131072) : mg (rungI a) = rungI a ∧ ng (rungI a) = false := by
  have hl := log2_le h0 h
  have hb := sh_bounds h0 h
  have hr : rungI a < 9223372036854775808 := by unfold rungI; omega
  unfold mg ng
  refine ⟨Nat.mod_eq_of_lt hr, ?_⟩
  rw [Nat.div_eq_of_lt hr]; rfl
theorem read_fI {a : Nat} (h0 : a ≠ 0) (h : a < 131072) : Ieee.double.read (rungI a) = .number false (sh a * 2 ^ 36) ((a.log2 : Int) - 52) := by
  have hl := log2_le h0 h
  have hb := sh_bounds h0 h
  obtain ⟨hm, hn⟩ := rungI_mg h0 h
  rw [read_eq, hm, hn]
  have e1 : rungI a / 4503599627370496 = a.log2 + 1023 := by unfold rungI; omega
  have e2 : rungI a % 4503599627370496 = sh a * 2 ^ 36 - 4503599627370496 := by unfold rungI; omega
  rw [if_neg (by omega), if_pos (by unfold rungI; omega), e1, e2]
  rw [show 4503599627370496 + (sh a * 2 ^ 36 - 4503599627370496) = sh a * 2 ^ 36 by omega, show -1074 + ((a.log2 + 1023 - 1 : Nat) : Int) = (a.log2 : Int) - 52 by omega]
end Go.Proofs.YtpjbdejgamajlabDoor

/- The quotient of two small whole numbers as a float: it keeps their order. -/
namespace Go.Proofs.YtpjbdejgamajlabDoor
open Go.RowKit

theorem cut3 (q s f : Nat) (r0 : Bool) (hs : s ≤ 1) (hf : q / 2 = f) (h : r0 = true ↔ (q % 2 = 1 ∨ s = 1)) :
    (2 * q + s) / 8 + (decide (8 < 2 * ((2 * q + s) % 8)) || (8 == 2 * ((2 * q + s) % 8)) && ((2 * q + s) / 8 % 2 == 1)).toNat = f / 2 + ((f % 2 == 1) && (r0 || (f / 2 % 2 == 1))).toNat := by
  have e : (2 * q + s) / 8 = f / 2 := by omega
  rw [e]
  congr 2
  generalize (f / 2 % 2 == 1) = b
  have hq : q % 4 = 0 ∨ q % 4 = 1 ∨ q % 4 = 2 ∨ q % 4 = 3 := by omega
  have hs2 : s = 0 ∨ s = 1 := by omega
  rcases hs2 with rfl | rfl <;> rcases hq with hq | hq | hq | hq
  · rw [show (2 * q + 0) % 8 = 0 by omega, show f % 2 = 0 by omega]; cases b <;> cases r0 <;> rfl
  · rw [show (2 * q + 0) % 8 = 2 by omega, show f % 2 = 0 by omega]; cases b <;> cases r0 <;> rfl
  · have hr : r0 = false := by
      cases r0
      · rfl
      · have := h.1 rfl; omega
    rw [show (2 * q + 0) % 8 = 4 by omega, show f % 2 = 1 by omega, hr]; cases b <;> rfl
  · have hr : r0 = true := h.2 (by omega)
    rw [show (2 * q + 0) % 8 = 6 by omega, show f % 2 = 1 by omega, hr]; cases b <;> rfl
  · rw [show (2 * q + 1) % 8 = 1 by omega, show f % 2 = 0 by omega]; cases b <;> cases r0 <;> rfl
  · rw [show (2 * q + 1) % 8 = 3 by omega, show f % 2 = 0 by omega]; cases b <;> cases r0 <;> rfl
  · have hr : r0 = true := h.2 (by omega)
    rw [show (2 * q + 1) % 8 = 5 by omega, show f % 2 = 1 by omega, hr]; cases b <;> rfl
  · have hr : r0 = true := h.2 (by omega)
    rw [show (2 * q + 1) % 8 = 7 by omega, show f % 2 = 1 by omega, hr]; cases b <;> rfl
theorem cut2 (q s : Nat) (r0 : Bool) (hs : s ≤ 1) (h : r0 = true ↔ s = 1) :
    (2 * q + s) / 4 + (decide (4 < 2 * ((2 * q + s) % 4)) || (4 == 2 * ((2 * q + s) % 4)) && ((2 * q + s) / 4 % 2 == 1)).toNat = q / 2 + ((q % 2 == 1) && (r0 || (q / 2 % 2 == 1))).toNat := by
  have e : (2 * q + s) / 4 = q / 2 := by omega
  rw [e]
  congr 2
  generalize (q / 2 % 2 == 1) = b
  have hq : q % 2 = 0 ∨ q % 2 = 1 := by omega
  have hs2 : s = 0 ∨ s = 1 := by omega
  rcases hs2 with rfl | rfl <;> rcases hq with hq | hq
  · rw [show (2 * q + 0) % 4 = 0 by omega, hq]; cases b <;> cases r0 <;> rfl
  · have hr : r0 = false := by
      cases r0
      · rfl
      · have := h.1 rfl; omega
    rw [show (2 * q + 0) % 4 = 2 by omega, hq, hr]; cases b <;> rfl
  · rw [show (2 * q + 1) % 4 = 1 by omega, hq]; cases b <;> cases r0 <;> rfl
  · have hr : r0 = true := h.2 rfl
    rw [show (2 * q + 1) % 4 = 3 by omega, hq, hr]; cases b <;> rfl
theorem cut_form (mag d : Nat) (hd : d ≤ mag.log2 + 2) : Ieee.Toward.even.cut false mag d = mag / 2 ^ d + (decide (2 ^ d < 2 * (mag % 2 ^ d)) || (2 ^ d == 2 * (mag % 2 ^ d)) && (mag / 2 ^ d % 2 == 1)).toNat := by
  unfold Ieee.Toward.cut
  rw [Nat.min_eq_left hd, Nat.shiftLeft_eq, Nat.one_mul]
/-- Twice a number, divided: the quotient's half, and what is left over. -/
theorem twice_div (X n : Nat) (hn : 0 < n) : 2 * X / n / 2 = X / n ∧ (X % n ≠ 0 ↔ (2 * X / n % 2 = 1 ∨ 2 * X % n ≠ 0)) := by
  have e1 : 2 * X / n / 2 = X / n := by
    rw [Nat.div_div_eq_div_mul, Nat.mul_comm n 2, Nat.mul_div_mul_left _ _ (by decide)]
  refine ⟨e1, ?_⟩
  have h1 := Nat.div_add_mod X n
  have h2 := Nat.div_add_mod (2 * X) n
  have h3 := Nat.mod_lt X hn
  have h4 := Nat.mod_lt (2 * X) hn
  generalize X % n = r at *
  generalize 2 * X % n = r2 at *
  generalize X / n = f at *
  generalize 2 * X / n = q at *
  have hc : q = 2 * f ∨ q = 2 * f + 1 := by omega
  rcases hc with rfl | rfl
  · have : n * (2 * f) = 2 * (n * f) := Nat.mul_left_comm ..
    rw [this] at h2
    generalize n * f = z at *
    omega
  · have : n * (2 * f + 1) = 2 * (n * f) + n := by rw [Nat.mul_add, Nat.mul_left_comm, Nat.mul_one]
    rw [this] at h2
    generalize n * f = z at *
    omega
theorem rk_cut3 (B X n : Nat) (hn : 0 < n) (M : Nat) (hX : X = M * (2 * B)) :
    (2 * (2 * X / n) + (2 * X % n != 0).toNat) / 8 + (decide (8 < 2 * ((2 * (2 * X / n) + (2 * X % n != 0).toNat) % 8)) || (8 == 2 * ((2 * (2 * X / n) + (2 * X % n != 0).toNat) % 8)) && ((2 * (2 * X / n) + (2 * X % n != 0).toNat) / 8 % 2 == 1)).toNat = rk B M n := by
  obtain ⟨h1, h2⟩ := twice_div X n hn
  have h3 := cut3 (2 * X / n) (2 * X % n != 0).toNat (X / n) (X % n != 0) (by cases (2 * X % n != 0) <;> simp) h1 (by
    rw [bne_iff_ne, h2]
    cases h : (2 * X % n != 0)
    · have : 2 * X % n = 0 := by simpa using h
      simp [this]
    · have : 2 * X % n ≠ 0 := by simpa using h
      simp [this])
  rw [h3]
  unfold rk
  rw [← hX]
theorem rk_cut2 (B X n : Nat) (M : Nat) (hX : X = M * (2 * B)) :
    (2 * (X / n) + (X % n != 0).toNat) / 4 + (decide (4 < 2 * ((2 * (X / n) + (X % n != 0).toNat) % 4)) || (4 == 2 * ((2 * (X / n) + (X % n != 0).toNat) % 4)) && ((2 * (X / n) + (X % n != 0).toNat) / 4 % 2 == 1)).toNat = rk B M n := by
  have h3 := cut2 (X / n) (X % n != 0).toNat (X % n != 0) (by cases (X % n != 0) <;> simp) (by cases (X % n != 0) <;> simp)
  rw [h3]
  unfold rk
  rw [← hX]
theorem read_one : Ieee.double.read 4607182418800017408 = .number false 4503599627370496 (-52) := by decide
theorem mul_one {a : Nat} (h0 : a ≠ 0) (h : a < 131072) : floatBits .mul .f64 (rungI a) 4607182418800017408 = some (rungI a) := by
  have hl := log2_le h0 h
  have hb := sh_bounds h0 h
  have hg := sh_log2 h0 h
  show ((Ieee.double.read (rungI a)).product (Ieee.double.read 4607182418800017408)).map Ieee.double.write = _
  rw [read_fI h0 h, read_one]
  show some (Ieee.double.nearest false (sh a * 2 ^ 36 * 4503599627370496) ((a.log2 : Int) - 52 + -52)) = _
  have hne : sh a * 2 ^ 36 ≠ 0 := by omega
  have e52 : (4503599627370496 : Nat) = 2 ^ 52 := by decide
  have hlog : (sh a * 2 ^ 36 * 4503599627370496).log2 = 104 := by rw [e52, log2_mul _ _ hne, hg]
  rw [near_eq _ _ 52 104 (Nat.mul_ne_zero hne (by decide)) hlog (by omega) (by omega)]
  have hc : Ieee.Toward.even.cut false (sh a * 2 ^ 36 * 4503599627370496) 52 = sh a * 2 ^ 36 := by rw [e52]; exact cut_even false _ 52 hne
  rw [hc, show ((a.log2 : Int) - 52 + -52 + ((52 : Nat) : Int) + 1074).toNat = a.log2 + 1022 by omega]
  unfold rungI
  generalize hX : (a.log2 + 1022) * 4503599627370496 + sh a * 2 ^ 36 = X
  rw [Nat.min_eq_left (by omega)]
end Go.Proofs.YtpjbdejgamajlabDoor

/- The quotient of two small whole numbers as a float: its word. -/
namespace Go.Proofs.YtpjbdejgamajlabDoor
open Go.RowKit

theorem div_raw {a w : Nat} (a0 : a ≠ 0) (a1 : a < 131072) (w0 : w ≠ 0) (w1 : w < 131072) :
    floatBits .quo .f64 (rungI a) (rungI w) = some (Ieee.double.nearest false (2 * (sh a * 2 ^ 54 / sh w) + (sh a * 2 ^ 54 % sh w != 0).toNat) ((a.log2 : Int) - w.log2 - 55)) := by
  have hwb := sh_bounds w0 w1
  have ga := sh_log2 a0 a1
  have gw := sh_log2 w0 w1
  have hn : ¬ sh w * 2 ^ 36 = 0 := by omega
  have hp : 0 < 2 ^ 36 := by decide
  show ((Ieee.double.read (rungI a)).quotient 54 (Ieee.double.read (rungI w))).map Ieee.double.write = _
  rw [read_fI a0 a1, read_fI w0 w1]
  show (if sh w * 2 ^ 36 = 0 then (if sh a * 2 ^ 36 = 0 then none else some (Ieee.Datum.infinity (false ^^ false))) else some (Ieee.Datum.number (false ^^ false) (2 * (((sh a * 2 ^ 36) <<< (54 + (sh w * 2 ^ 36).log2 - (sh a * 2 ^ 36).log2)) / (sh w * 2 ^ 36)) + (((sh a * 2 ^ 36) <<< (54 + (sh w * 2 ^ 36).log2 - (sh a * 2 ^ 36).log2)) % (sh w * 2 ^ 36) != 0).toNat) ((a.log2 : Int) - 52 - ((w.log2 : Int) - 52) - ((54 + (sh w * 2 ^ 36).log2 - (sh a * 2 ^ 36).log2 : Nat) : Int) - 1))).map Ieee.double.write = _
  rw [if_neg hn, ga, gw, Nat.shiftLeft_eq, Nat.mul_right_comm, Nat.mul_div_mul_right _ _ hp, Nat.mul_mod_mul_right]
  have hb : (sh a * 2 ^ (54 + 52 - 52) % sh w * 2 ^ 36 != 0) = (sh a * 2 ^ 54 % sh w != 0) := by
    show (sh a * 2 ^ 54 % sh w * 2 ^ 36 != 0) = (sh a * 2 ^ 54 % sh w != 0)
    generalize sh a * 2 ^ 54 % sh w = r
    cases r with
    | zero => rfl
    | succ r =>
      have h1 : (r + 1 != 0) = true := by simp
      have h2 : ((r + 1) * 2 ^ 36 != 0) = true := by rw [bne_iff_ne]; exact Nat.mul_ne_zero (Nat.succ_ne_zero r) (by decide)
      rw [h1, h2]
  rw [hb, show (a.log2 : Int) - 52 - ((w.log2 : Int) - 52) - ((54 + 52 - 52 : Nat) : Int) - 1 = (a.log2 : Int) - w.log2 - 55 by omega]
  rfl
theorem log2_in {m k : Nat} (h1 : 2 ^ k ≤ m) (h2 : m < 2 ^ (k + 1)) : m.log2 = k := by
  have hp : 0 < 2 ^ k := Nat.two_pow_pos k
  have h0 : m ≠ 0 := by omega
  have e1 := (Nat.le_log2 h0).2 h1
  have e2 := (Nat.log2_lt h0).2 h2
  omega
theorem q_ge (Q : Nat) {a n : Nat} (hn : 0 < n) (h : n ≤ a) : Q ≤ a * Q / n :=
  (Nat.le_div_iff_mul_le hn).2 (by rw [Nat.mul_comm]; exact Nat.mul_le_mul_right Q h)
theorem q_lt (Q : Nat) {a n k : Nat} (hn : 0 < n) (hQ : 0 < Q) (h : a < k * n) : a * Q / n < k * Q :=
  (Nat.div_lt_iff_lt_mul hn).2 (by rw [Nat.mul_right_comm]; exact Nat.mul_lt_mul_of_pos_right h hQ)
theorem q_ge1 (Q : Nat) {a n : Nat} (hn : 0 < n) (h : n ≤ 2 * a) : Q ≤ a * (2 * Q) / n :=
  (Nat.le_div_iff_mul_le hn).2 (by rw [Nat.mul_comm, ← Nat.mul_assoc, Nat.mul_comm a 2]; exact Nat.mul_le_mul_right Q h)
theorem rk_top {B M n : Nat} (hn : 0 < n) (hM : M < 2 * n) : rk B M n ≤ 2 * B := by
  obtain ⟨h1, _⟩ := rk_near B M n hn
  apply Decidable.byContradiction
  intro hh
  have e1 := Nat.mul_le_mul_right n (show 2 * B + 1 ≤ rk B M n by omega)
  have e2 := Nat.mul_le_mul_right B (show M ≤ 2 * n by omega)
  have e3 : (2 * B + 1) * n = 2 * n * B + n := by rw [Nat.add_mul, Nat.one_mul, Nat.mul_right_comm]
  rw [e3] at e1
  generalize 2 * n * B = x at *
  generalize M * B = y at *
  generalize rk B M n * n = z at *
  omega
theorem near_key (mag d L R : Nat) (place : Int) (G : Nat) (h0 : mag ≠ 0) (hl : mag.log2 = L) (hL : L = 52 + d) (hp : place + d = (G : Int) - 92) (hG : G ≤ 60) (hR : R ≤ 9007199254740992) (hc : Ieee.Toward.even.cut false mag d = R) :
    Ieee.double.nearest false mag place = 982 * 4503599627370496 + (G * 4503599627370496 + R) := by
  rw [near_eq mag place d L h0 hl (by omega) (by omega), hc]
  rw [show (place + (d : Int) + 1074).toNat = 982 + G by omega]
  have hm : ∀ X : Nat, X ≤ 9218868437227405312 → min X 9218868437227405312 = X := fun X h => Nat.min_eq_left h
  rw [hm _ (by omega)]
  omega
theorem cut_8 (mag : Nat) (h : 3 ≤ mag.log2 + 2) : Ieee.Toward.even.cut false mag 3 = mag / 8 + (decide (8 < 2 * (mag % 8)) || (8 == 2 * (mag % 8)) && (mag / 8 % 2 == 1)).toNat := cut_form mag 3 h
theorem cut_4 (mag : Nat) (h : 2 ≤ mag.log2 + 2) : Ieee.Toward.even.cut false mag 2 = mag / 4 + (decide (4 < 2 * (mag % 4)) || (4 == 2 * (mag % 4)) && (mag / 4 % 2 == 1)).toNat := cut_form mag 2 h
theorem core_ge (q s R : Nat) (place : Int) (G : Nat) (hs : s ≤ 1) (q1 : 2 ^ 54 ≤ q) (q2 : q < 2 * 2 ^ 54) (hp : place + 3 = (G : Int) - 92) (hG : G ≤ 60) (ht : R ≤ 9007199254740992)
    (hk : (2 * q + s) / 8 + (decide (8 < 2 * ((2 * q + s) % 8)) || (8 == 2 * ((2 * q + s) % 8)) && ((2 * q + s) / 8 % 2 == 1)).toNat = R) :
    Ieee.double.nearest false (2 * q + s) place = 982 * 4503599627370496 + (G * 4503599627370496 + R) := by
  have hl : (2 * q + s).log2 = 55 := log2_in (by omega) (by omega)
  exact near_key (2 * q + s) 3 55 R place G (by omega) hl rfl hp hG ht ((cut_8 _ (by omega)).trans hk)
theorem core_lt (q s R : Nat) (place : Int) (G : Nat) (hs : s ≤ 1) (q1 : 2 ^ 53 ≤ q) (q2 : q < 1 * 2 ^ 54) (hp : place + 2 = (G : Int) - 92) (hG : G ≤ 60) (ht : R ≤ 9007199254740992)
    (hk : (2 * q + s) / 4 + (decide (4 < 2 * ((2 * q + s) % 4)) || (4 == 2 * ((2 * q + s) % 4)) && ((2 * q + s) / 4 % 2 == 1)).toNat = R) :
    Ieee.double.nearest false (2 * q + s) place = 982 * 4503599627370496 + (G * 4503599627370496 + R) := by
  have hl : (2 * q + s).log2 = 54 := log2_in (by omega) (by omega)
  exact near_key (2 * q + s) 2 54 R place G (by omega) hl rfl hp hG ht ((cut_4 _ (by omega)).trans hk)
theorem one_bit (b : Bool) : b.toNat ≤ 1 := by cases b <;> decide
theorem near_ge {sa sw : Nat} (hw1 : 65536 ≤ sw) (hc : sw ≤ sa) (h2 : sa < 2 * sw) (place : Int) (G : Nat) (hp : place + 3 = (G : Int) - 92) (hG : G ≤ 60) :
    Ieee.double.nearest false (2 * (sa * 2 ^ 54 / sw) + (sa * 2 ^ 54 % sw != 0).toNat) place = 982 * 4503599627370496 + (G * 4503599627370496 + rk 4503599627370496 sa sw) := by
  have hn : 0 < sw := by omega
  have hk := rk_cut3 4503599627370496 (sa * 9007199254740992) sw hn sa rfl
  have e54 : sa * 2 ^ 54 = 2 * (sa * 9007199254740992) := by omega
  rw [← e54] at hk
  exact core_ge _ _ _ place G (one_bit _) (q_ge (2 ^ 54) hn hc) (q_lt (2 ^ 54) hn (by decide) h2) hp hG (rk_top (B := 4503599627370496) hn h2) hk
theorem near_lt {sa sw : Nat} (hw1 : 65536 ≤ sw) (hc : sa < sw) (h2 : sw ≤ 2 * sa) (place : Int) (G : Nat) (hp : place + 2 = (G : Int) - 92) (hG : G ≤ 60) :
    Ieee.double.nearest false (2 * (sa * 2 ^ 54 / sw) + (sa * 2 ^ 54 % sw != 0).toNat) place = 982 * 4503599627370496 + (G * 4503599627370496 + rk 4503599627370496 (2 * sa) sw) := by
  have hn : 0 < sw := by omega
  have e53 : (2 : Nat) ^ 54 = 2 * 2 ^ 53 := by decide
  have q1 := q_ge1 (2 ^ 53) hn h2
  rw [← e53] at q1
  have h1 : sa < 1 * sw := by omega
  have hk := rk_cut2 4503599627370496 (sa * 2 ^ 54) sw (2 * sa) (by omega)
  exact core_lt _ _ _ place G (one_bit _) q1 (q_lt (2 ^ 54) hn (by decide) h1) hp hG (rk_top (B := 4503599627370496) (M := 2 * sa) hn (by omega)) hk
theorem sh_cross (a w x y G : Nat) (h : x + 40 = y + G) : a * (w * 2 ^ x) * 2 ^ 40 = w * (a * 2 ^ y) * 2 ^ G := by
  rw [← Nat.mul_assoc a, ← Nat.mul_assoc w, Nat.mul_comm w a, Nat.mul_assoc (a * w), Nat.mul_assoc (a * w), ← Nat.pow_add, ← Nat.pow_add, h]
/-- THE QUOTIENT's WORD: in the order of the fractions. -/
theorem div_key {a w : Nat} (a0 : a ≠ 0) (a1 : a < 131072) (w0 : w ≠ 0) (w1 : w < 131072) :
    ∃ M n G, 0 < n ∧ n < 131072 ∧ n ≤ M ∧ M < 2 * n ∧ G ≤ 60 ∧ a * n * 2 ^ 40 = w * M * 2 ^ G ∧
      floatBits .quo .f64 (rungI a) (rungI w) = some (982 * 4503599627370496 + (G * 4503599627370496 + rk 4503599627370496 M n)) := by
  have hla := log2_le a0 a1
  have hlw := log2_le w0 w1
  obtain ⟨ha1, ha2⟩ := sh_bounds a0 a1
  obtain ⟨hw1, hw2⟩ := sh_bounds w0 w1
  have hraw := div_raw a0 a1 w0 w1
  have hea : sh a = a * 2 ^ (16 - a.log2) := rfl
  have hew : sh w = w * 2 ^ (16 - w.log2) := rfl
  by_cases hc : sh w ≤ sh a
  · refine ⟨sh a, sh w, a.log2 + 40 - w.log2, by omega, by omega, hc, by omega, by omega, ?_, ?_⟩
    · rw [hea, hew]; exact sh_cross _ _ _ _ _ (by omega)
    · rw [hraw]; exact congrArg some (near_ge hw1 hc (by omega) _ _ (by omega) (by omega))
  · refine ⟨2 * sh a, sh w, a.log2 + 39 - w.log2, by omega, by omega, by omega, by omega, by omega, ?_, ?_⟩
    · have e1 : 2 * (a * 2 ^ (16 - a.log2)) = a * 2 ^ (17 - a.log2) := by
        rw [show 17 - a.log2 = (16 - a.log2) + 1 by omega, Nat.pow_succ, Nat.mul_left_comm, Nat.mul_comm 2]
      rw [hea, hew, e1]; exact sh_cross _ _ _ _ _ (by omega)
    · rw [hraw]; exact congrArg some (near_lt hw1 (by omega) (by omega) _ _ (by omega) (by omega))
/-- A float's place: a quotient's. -/
def qk (a w : Nat) : Nat := (floatBits .quo .f64 (rungI a) (rungI w)).getD 0
theorem getD_of {o : Option Nat} {x : Nat} (h : o = some x) : o = some (o.getD 0) ∧ o.getD 0 = x := by subst h; exact ⟨rfl, rfl⟩
theorem qk_bits {a w : Nat} (a0 : a ≠ 0) (a1 : a < 131072) (w0 : w ≠ 0) (w1 : w < 131072) : floatBits .quo .f64 (rungI a) (rungI w) = some (qk a w) := by
  obtain ⟨M, n, G, _, _, _, _, _, _, h⟩ := div_key a0 a1 w0 w1
  exact (getD_of h).1
theorem qk_val {a w : Nat} {x : Nat} (h : floatBits .quo .f64 (rungI a) (rungI w) = some x) : qk a w = x := (getD_of h).2
theorem qk_kf {a w : Nat} (a0 : a ≠ 0) (a1 : a < 131072) (w0 : w ≠ 0) (w1 : w < 131072) : kf (qk a w) = (qk a w : Int) ∧ isN (qk a w) = false ∧ qk a w < 9223372036854775808 ∧ qk a w ≠ 0 := by
  obtain ⟨M, n, G, hn, _, hM1, hM, hG, _, h⟩ := div_key a0 a1 w0 w1
  have hq := qk_val h
  have ht := rk_top (B := 4503599627370496) hn hM
  have hlt : qk a w < 9218868437227405312 := by omega
  have hmg : mg (qk a w) = qk a w := Nat.mod_eq_of_lt (by omega)
  have hng : ng (qk a w) = false := by unfold ng; rw [Nat.div_eq_of_lt (by omega)]; rfl
  have hisn : isN (qk a w) = false := by unfold isN; rw [hmg]; exact decide_eq_false (by omega)
  refine ⟨?_, hisn, by omega, by omega⟩
  unfold kf
  rw [hisn, hng, hmg]; rfl
theorem frac_pow {a1 w1 a2 w2 M1 n1 G1 M2 n2 G2 : Nat} (h1 : a1 * n1 * 2 ^ 40 = w1 * M1 * 2 ^ G1) (h2 : a2 * n2 * 2 ^ 40 = w2 * M2 * 2 ^ G2) :
    M1 * n2 * 2 ^ G1 * (w1 * w2) = a1 * w2 * (n1 * n2 * 2 ^ 40) ∧ M2 * n1 * 2 ^ G2 * (w1 * w2) = a2 * w1 * (n1 * n2 * 2 ^ 40) := by
  constructor
  · calc M1 * n2 * 2 ^ G1 * (w1 * w2) = (w1 * M1 * 2 ^ G1) * (n2 * w2) := by simp only [Nat.mul_comm, Nat.mul_left_comm, Nat.mul_assoc]
      _ = a1 * n1 * 2 ^ 40 * (n2 * w2) := by rw [h1]
      _ = a1 * w2 * (n1 * n2 * 2 ^ 40) := by simp only [Nat.mul_comm, Nat.mul_left_comm, Nat.mul_assoc]
  · calc M2 * n1 * 2 ^ G2 * (w1 * w2) = (w2 * M2 * 2 ^ G2) * (n1 * w1) := by simp only [Nat.mul_comm, Nat.mul_left_comm, Nat.mul_assoc]
      _ = a2 * n2 * 2 ^ 40 * (n1 * w1) := by rw [h2]
      _ = a2 * w1 * (n1 * n2 * 2 ^ 40) := by simp only [Nat.mul_comm, Nat.mul_left_comm, Nat.mul_assoc]
theorem qk_lt {a w b v : Nat} (a0 : a ≠ 0) (a1 : a < 131072) (w0 : w ≠ 0) (w1 : w < 131072) (b0 : b ≠ 0) (b1 : b < 131072) (v0 : v ≠ 0) (v1 : v < 131072) (h : a * v < b * w) : qk a w < qk b v := by
  obtain ⟨M, n, G, hn, hn2, hM1, hM2, _, he, hq⟩ := div_key a0 a1 w0 w1
  obtain ⟨N, m, J, hm, hm2, hN1, hN2, _, hf, hr⟩ := div_key b0 b1 v0 v1
  obtain ⟨e1, e2⟩ := frac_pow he hf
  have hpos : 0 < n * m * 2 ^ 40 := Nat.mul_pos (Nat.mul_pos hn hm) (by decide)
  have hlt : M * m * 2 ^ G < N * n * 2 ^ J := by
    have := Nat.mul_lt_mul_of_pos_right h hpos
    rw [← e1, ← e2] at this
    exact Nat.lt_of_mul_lt_mul_right this
  have := rk_less (B := 4503599627370496) (by decide) hn hm hn2 hm2 hM1 hM2 hN1 hN2 hlt
  have q1 := qk_val hq
  have q2 := qk_val hr
  omega
theorem qk_eq {a w b v : Nat} (a0 : a ≠ 0) (a1 : a < 131072) (w0 : w ≠ 0) (w1 : w < 131072) (b0 : b ≠ 0) (b1 : b < 131072) (v0 : v ≠ 0) (v1 : v < 131072) (h : a * v = b * w) : qk a w = qk b v := by
  obtain ⟨M, n, G, hn, hn2, hM1, hM2, _, he, hq⟩ := div_key a0 a1 w0 w1
  obtain ⟨N, m, J, hm, hm2, hN1, hN2, _, hf, hr⟩ := div_key b0 b1 v0 v1
  obtain ⟨e1, e2⟩ := frac_pow he hf
  have hpos : 0 < w * v := Nat.mul_pos (by omega) (by omega)
  have heq : M * m * 2 ^ G = N * n * 2 ^ J := by
    have : M * m * 2 ^ G * (w * v) = N * n * 2 ^ J * (w * v) := by rw [e1, e2, h]
    exact Nat.eq_of_mul_eq_mul_right hpos this
  have := rk_same (B := 4503599627370496) hn hm hM1 hM2 hN1 hN2 heq
  have q1 := qk_val hq
  have q2 := qk_val hr
  omega
end Go.Proofs.YtpjbdejgamajlabDoor

/- score.Load of small numbers. -/
namespace Go.Proofs.YtpjbdejgamajlabDoor
open Go.RowKit

theorem maxI (x y m : Int) (h : m = max x y) (ts : Array TypeId) (t : TypeId) (w : World) : (Builtin.max_ ts t #[.int .i64 x, .int .i64 y]).run Tryd.prog w = .ok (.int .i64 m) w := by
  have : m = if y > x then y else x := by subst h; split <;> omega
  simp [Builtin.max_, Builtin.max2, this]
theorem minI (x y m : Int) (h : m = min x y) (ts : Array TypeId) (t : TypeId) (w : World) : (Builtin.min_ ts t #[.int .i64 x, .int .i64 y]).run Tryd.prog w = .ok (.int .i64 m) w := by
  have : m = if y < x then y else x := by subst h; split <;> omega
  simp [Builtin.min_, Builtin.min2, this]
theorem div_some (p d : Nat) (hp : isN p = false) (hd : mg d < 9218868437227405312) (h0 : mg d ≠ 0) :
    ∃ q, floatBits .quo .f64 p d = some q ∧ q < 18446744073709551616 ∧ isN q = false := by
  obtain ⟨n, j, e2, hn⟩ := read_fin d hd
  have hn0 : ¬ n = 0 := fun h => h0 (hn h)
  show ∃ q, ((Ieee.double.read p).quotient 54 (Ieee.double.read d)).map Ieee.double.write = some q ∧ _
  rw [e2]
  rcases read_non p hp with ⟨m, i, e1⟩ | e1
  · rw [e1]
    have : (Ieee.Datum.number (ng p) m i).quotient 54 (.number (ng d) n j) = if n = 0 then (if m = 0 then none else some (.infinity (ng p ^^ ng d))) else some (.number (ng p ^^ ng d) (2 * ((m <<< (54 + n.log2 - m.log2)) / n) + ((m <<< (54 + n.log2 - m.log2)) % n != 0).toNat) (i - j - ((54 + n.log2 - m.log2 : Nat) : Int) - 1)) := rfl
    rw [this, if_neg hn0]
    exact ⟨_, rfl, write_ok _ rfl⟩
  · rw [e1]
    exact ⟨_, rfl, write_ok _ rfl⟩
theorem rungI_fin {a : Nat} (h0 : a ≠ 0) (h : a < 131072) : mg (rungI a) < 9218868437227405312 ∧ mg (rungI a) ≠ 0 ∧ isN (rungI a) = false := by
  have hl := log2_le h0 h
  have hb := sh_bounds h0 h
  have hm := (rungI_mg h0 h).1
  have h1 : rungI a < 9218868437227405312 := by unfold rungI; omega
  have h2 : rungI a ≠ 0 := by unfold rungI; omega
  refine ⟨by omega, by omega, ?_⟩
  unfold isN
  exact decide_eq_false (by omega)
/-- The tape's NaN. -/
theorem nan_ok (x y : Nat) (w : World) : ∃ b, b = (Question.nanBits .f64 x y).cut (w.tape w.drawn (Question.nanBits .f64 x y)) ∧ b < 18446744073709551616 ∧ isN b = true := by
  refine ⟨_, rfl, ?_, ?_⟩
  · have h1 : (w.tape w.drawn (Question.nanBits .f64 x y) / 2) % (2 ^ 52 - 1) < 2 ^ 52 - 1 := Nat.mod_lt _ (by decide)
    have h2 : w.tape w.drawn (Question.nanBits .f64 x y) % 2 < 2 := Nat.mod_lt _ (by decide)
    show (w.tape w.drawn _ % 2) * 2 ^ 63 + 0x7ff0000000000000 + 1 + (w.tape w.drawn _ / 2) % (2 ^ 52 - 1) < _
    generalize w.tape w.drawn (Question.nanBits .f64 x y) % 2 = u at *
    generalize (w.tape w.drawn (Question.nanBits .f64 x y) / 2) % (2 ^ 52 - 1) = r at *
    omega
  · have h1 : (w.tape w.drawn (Question.nanBits .f64 x y) / 2) % (2 ^ 52 - 1) < 2 ^ 52 - 1 := Nat.mod_lt _ (by decide)
    have h2 : w.tape w.drawn (Question.nanBits .f64 x y) % 2 < 2 := Nat.mod_lt _ (by decide)
    show decide (_ < ((w.tape w.drawn _ % 2) * 2 ^ 63 + 0x7ff0000000000000 + 1 + (w.tape w.drawn _ / 2) % (2 ^ 52 - 1)) % 9223372036854775808) = true
    rw [decide_eq_true_iff]
    generalize w.tape w.drawn (Question.nanBits .f64 x y) % 2 = u at *
    generalize (w.tape w.drawn (Question.nanBits .f64 x y) / 2) % (2 ^ 52 - 1) = r at *
    omega
theorem run_mul_nan (x y : Nat) (hn : isN y = true) (w : World) : ∃ b, b < 18446744073709551616 ∧ isN b = true ∧ ∀ t, (binOp .mul t (.float .f64 x) (.float .f64 y)).run Tryd.prog w = .ok (.float .f64 b) w.drew := by
  have h : FloatKind.f64.format.mul x y = none := by
    show ((Ieee.double.read x).product (Ieee.double.read y)).map Ieee.double.write = none
    rw [read_nan y hn]
    cases Ieee.double.read x <;> rfl
  obtain ⟨b, hb, h1, h2⟩ := nan_ok x y w
  refine ⟨b, h1, h2, fun t => ?_⟩
  rw [hb]
  simp [binOp, Op.floatArith, h, Question.forced]
theorem run_quo_nan (x y : Nat) (hn : isN x = true) (w : World) : ∃ b, b < 18446744073709551616 ∧ isN b = true ∧ ∀ t, (binOp .quo t (.float .f64 x) (.float .f64 y)).run Tryd.prog w = .ok (.float .f64 b) w.drew := by
  have h : FloatKind.f64.format.div x y = none := by
    show ((Ieee.double.read x).quotient 54 (Ieee.double.read y)).map Ieee.double.write = none
    rw [read_nan x hn]
    cases Ieee.double.read y <;> rfl
  obtain ⟨b, hb, h1, h2⟩ := nan_ok x y w
  refine ⟨b, h1, h2, fun t => ?_⟩
  rw [hb]
  simp [binOp, Op.floatArith, h, Question.forced]
/-- The load of a number of requests, by a number of the time: whatever the time is. -/
theorem load42_num (b v : Nat) (hb : b < 131071) (h0 : v ≠ 0) (hv : v < 131072) (t t' p q : Nat) (z : Bool) (hz : decide (kf t < 0) = z) (ht : t' = if z then 0 else t) (hp : floatBits .mul .f64 (rungI (b + 1)) t' = some p) (hq : floatBits .quo .f64 p (rungI v) = some q) (w : World) :
    Calls Tryd.prog 22 #[.int .i64 (b : Int), .int .i64 (v : Int), .float .f64 t] w fun e w' => e = .returned (.float .f64 (plainF q)) ∧ w' = w := by
  have c1 := before5 t 0
  rw [kf_zero, hz] at c1
  have c2 := plain3 q
  have m1 := maxI b 0 b (by omega)
  have m2 := minI b 1099511627776 b (by omega)
  have f1 : floatOfInt .f64 ((b : Int) + 1) = rungI (b + 1) := by rw [← fI_eq (by omega) (by omega)]; rfl
  have f2 : floatOfInt .f64 (v : Int) = rungI v := fI_eq h0 hv
  have r1 := fun w t => run_float_arith (P := Tryd.prog) w .mul t .f64 (rungI (b + 1)) t' p hp
  have r2 := fun w t => run_float_arith (P := Tryd.prog) w .quo t .f64 p (rungI v) q hq
  have hv1 : ¬ (v : Int) < 1 := by omega
  have hbi : (b : Int) < 131071 := by omega
  clear hp hq hz
  generalize rungI (b + 1) = A at *
  generalize rungI v = V at *
  cases z <;> simp only [if_true, if_false, Bool.false_eq_true] at ht <;> subst ht <;> (
  go_enter Tryd.func22, Tryd.ntmps22
  go_wp2_with (first
    | (go_at_call 47; with_reducible refine (c1 _).mono ?_; rintro e w' ⟨rfl, rfl⟩)
    | (go_at_call 42; with_reducible refine (c2 _).mono ?_; rintro e w' ⟨rfl, rfl⟩))
  go_ret
  exact ⟨rfl, rfl⟩)
theorem load42_nan (b v : Nat) (hb : b < 131071) (h0 : v ≠ 0) (hv : v < 131072) (t : Nat) (hn : isN t = true) (w : World) :
    Calls Tryd.prog 22 #[.int .i64 (b : Int), .int .i64 (v : Int), .float .f64 t] w fun e w' => ∃ y, e = .returned (.float .f64 y) ∧ kf y = 9223372036854775807 ∧ w' = w.drewN 2 := by
  obtain ⟨p, _, hpn, r1⟩ := run_mul_nan (rungI (b + 1)) t hn w
  obtain ⟨q, _, hqn, r2⟩ := run_quo_nan p (rungI v) hpn w.drew
  have c1 := before5 t 0
  rw [kf_zero, kf_nan hn, decide_eq_false (by decide)] at c1
  have c2 := plain3 q
  have m1 := maxI b 0 b (by omega)
  have m2 := minI b 1099511627776 b (by omega)
  have f1 : floatOfInt .f64 ((b : Int) + 1) = rungI (b + 1) := by rw [← fI_eq (by omega) (by omega)]; rfl
  have f2 : floatOfInt .f64 (v : Int) = rungI v := fI_eq h0 hv
  have hv1 : ¬ (v : Int) < 1 := by omega
  have hbi : (b : Int) < 131071 := by omega
  have hk : kf (plainF q) = 9223372036854775807 := by rw [plainF_kf, kf_nan hqn]
  clear hn hpn hqn
  generalize rungI (b + 1) = A at *
  generalize rungI v = V at *
  generalize plainF q = y at *
  go_enter Tryd.func22, Tryd.ntmps22
  go_wp2_with (first
    | (go_at_call 47; with_reducible refine (c1 _).mono ?_; rintro e w' ⟨rfl, rfl⟩)
    | (go_at_call 42; with_reducible refine (c2 _).mono ?_; rintro e w' ⟨rfl, rfl⟩))
  go_ret
  exact ⟨y, rfl, hk, rfl⟩
theorem load42 (b v : Nat) (hb : b < 131071) (h0 : v ≠ 0) (hv : v < 131072) (t : Nat) :
    ∃ k, ∀ w, Calls Tryd.prog 22 #[.int .i64 (b : Int), .int .i64 (v : Int), .float .f64 t] w fun e w' => ∃ y n, e = .returned (.float .f64 y) ∧ kf y = k ∧ w' = w.drewN n := by
  cases hn : isN t
  · obtain ⟨a1, a2, a3⟩ := rungI_fin (a := b + 1) (by omega) (by omega)
    obtain ⟨d1, d2, d3⟩ := rungI_fin h0 hv
    obtain ⟨z, hz⟩ : ∃ z, decide (kf t < 0) = z := ⟨_, rfl⟩
    have ht : isN (if z then 0 else t) = false := by cases z <;> simp [hn, isN_zero]
    obtain ⟨p, hp, _, hpn⟩ := mul_some (rungI (b + 1)) (if z then 0 else t) a1 a2 ht
    obtain ⟨q, hq, _, hqn⟩ := div_some p (rungI v) hpn d1 d2
    refine ⟨kf q, fun w => (load42_num b v hb h0 hv t _ p q z hz rfl hp hq w).mono ?_⟩
    rintro e w' ⟨rfl, rfl⟩
    exact ⟨_, 0, rfl, plainF_kf q, rfl⟩
  · refine ⟨9223372036854775807, fun w => (load42_nan b v hb h0 hv t hn w).mono ?_⟩
    rintro e w' ⟨y, rfl, hk, rfl⟩
    exact ⟨y, 2, rfl, hk, rfl⟩
theorem load42_one (b v : Nat) (hb : b < 131071) (h0 : v ≠ 0) (hv : v < 131072) (w : World) :
    Calls Tryd.prog 22 #[.int .i64 (b : Int), .int .i64 (v : Int), .float .f64 4607182418800017408] w fun e w' => ∃ y n, e = .returned (.float .f64 y) ∧ kf y = (qk (b + 1) v : Int) ∧ w' = w.drewN n := by
  have hz : decide (kf 4607182418800017408 < 0) = false := by decide
  refine (load42_num b v hb h0 hv 4607182418800017408 4607182418800017408 (rungI (b + 1)) (qk (b + 1) v) false hz rfl (mul_one (by omega) (by omega)) (qk_bits (by omega) (by omega) h0 hv) w).mono ?_
  rintro e w' ⟨rfl, rfl⟩
  exact ⟨_, 0, rfl, by rw [plainF_kf]; exact (qk_kf (by omega) (by omega) h0 hv).1, rfl⟩
end Go.Proofs.YtpjbdejgamajlabDoor

/- Candidates; choice.loads, choice.Least. -/
namespace Go.Proofs.YtpjbdejgamajlabDoor
open Go.RowKit

/-- A candidate. -/
structure Cand where
  nm : ByteArray
  w : Int
  b : Int
  t : Nat
/-- Its weight and the number of its requests are small. -/
def Small (c : Cand) : Prop := 1 ≤ c.w ∧ c.w < 131072 ∧ 0 ≤ c.b ∧ c.b < 131071
def candV (c : Cand) : Value := .agg #[.string c.nm, .int .i64 c.w, .int .i64 c.b, .float .f64 c.t]
def cellsC (cs : List Cand) : List Value := cs.flatMap fun c => [.string c.nm, .int .i64 c.w, .int .i64 c.b, .float .f64 c.t]
theorem cellsC_append (a b : List Cand) : cellsC (a ++ b) = cellsC a ++ cellsC b := by simp [cellsC]
theorem cellsC_length (a : List Cand) : (cellsC a).length = a.length * 4 := by
  induction a with
  | nil => rfl
  | cons e a ih => simp [cellsC] at ih ⊢; omega
theorem cellsC_at : ∀ (cs : List Cand) (j : Nat) (c : Cand), cs[j]? = some c → (cellsC cs)[j * 4]? = some (.string c.nm) ∧ (cellsC cs)[j * 4 + 1]? = some (.int .i64 c.w) ∧ (cellsC cs)[j * 4 + 2]? = some (.int .i64 c.b) ∧ (cellsC cs)[j * 4 + 3]? = some (.float .f64 c.t)
  | [], j, e, h => by cases j <;> cases h
  | x :: es, 0, e, h => by
    simp at h; subst h
    exact ⟨rfl, rfl, rfl, rfl⟩
  | x :: es, j + 1, e, h => by
    have := cellsC_at es j e (by simpa using h)
    rw [show (j + 1) * 4 = j * 4 + 1 + 1 + 1 + 1 by omega]
    exact ⟨this.1, this.2.1, this.2.2.1, this.2.2.2⟩
/-- A slice that reads as these candidates. -/
def IsCands (w : World) (a : Option Addr) (c : Nat) (cs : List Cand) : Prop :=
  cs = [] ∨ ∃ bk o, a = some ⟨bk, o, none⟩ ∧ bk < w.heap.size ∧ cs.length ≤ c ∧ ∀ (j : Nat) e, cs[j]? = some e → w.cell? ⟨bk, o + j * 4, none⟩ = some (.string e.nm) ∧ w.cell? ⟨bk, o + j * 4 + 1, none⟩ = some (.int .i64 e.w) ∧ w.cell? ⟨bk, o + j * 4 + 2, none⟩ = some (.int .i64 e.b) ∧ w.cell? ⟨bk, o + j * 4 + 3, none⟩ = some (.float .f64 e.t)
theorem IsCands.below {w w' : World} {a : Option Addr} {c : Nat} {cs : List Cand} (h : IsCands w a c cs) (hb : Below w.heap.size w w') : IsCands w' a c cs := by
  obtain h | ⟨bk, o, ha, hlt, hc, hcell⟩ := h
  · exact .inl h
  · obtain ⟨hc', _⟩ := bcell hb
    exact .inr ⟨bk, o, ha, Nat.lt_of_lt_of_le hlt hb.size, hc, fun j f hf => by rw [hc' _ _ hlt, hc' _ _ hlt, hc' _ _ hlt, hc' _ _ hlt]; exact hcell j f hf⟩
theorem isCands_own {w : World} {base : Nat} {e : TypeId} {a : Option Addr} {m c : Nat} {cs : List Cand} (h : w.ownsRow base e 4 (.slice a m c) cs.length (cellsC cs)) : m = cs.length ∧ IsCands w a c cs := by
  obtain ⟨_, ⟨hv, h0⟩ | ⟨g, cap, cur, hv, hb, hg, hcap, _, hcs, htk⟩⟩ := h
  · injection hv with h1 h2 h3
    exact ⟨by omega, .inl (List.eq_nil_of_length_eq_zero h0)⟩
  · injection hv with h1 h2 h3
    have hlt : g < w.heap.size := (Array.getElem?_eq_some_iff.1 hg).1
    subst h1 h2 h3
    refine ⟨rfl, .inr ⟨g, 0, rfl, hlt, hcap, fun j e' he => ?_⟩⟩
    have hj : j < cs.length := by
      rcases Nat.lt_or_ge j cs.length with h | h
      · exact h
      · rw [List.getElem?_eq_none h] at he; cases he
    obtain ⟨q1, q2, q3, q4⟩ := cellsC_at cs j e' he
    rw [← htk, List.getElem?_take, if_pos (by omega)] at q1 q2 q3 q4
    rw [Nat.zero_add]
    refine ⟨?_, ?_, ?_, ?_⟩
    · simpa [World.cell?, hg] using q1
    · simpa [World.cell?, hg] using q2
    · simpa [World.cell?, hg] using q3
    · simpa [World.cell?, hg] using q4
theorem below_drewN {w w' : World} {B : Nat} (h : Below B w w') (n : Nat) : Below B w (w'.drewN n) := h.trans ⟨rfl, rfl, rfl, Nat.le_refl _, fun _ _ => rfl⟩
/-- A function gives each of these candidates a number of this place. -/
def LoadsC (F : FuncId) (K : Cand → Int) (ok : Cand → Prop) : Prop :=
  ∀ c, ok c → ∀ W, Calls Tryd.prog F #[candV c] W fun e w' => ∃ y, e = .returned (.float .f64 y) ∧ kf y = K c ∧ Below W.heap.size W w'
/-- The place of a candidate's load by its number of requests. -/
def ck (c : Cand) : Int := (qk (c.b + 1).toNat c.w.toNat : Int)
theorem count31 : LoadsC 38 ck Small := by
  rintro ⟨N, v, b, t⟩ ⟨h1, h2, h3, h4⟩ W
  simp only at h1 h2 h3 h4
  obtain ⟨v, rfl⟩ := Int.eq_ofNat_of_zero_le (show 0 ≤ v by omega)
  obtain ⟨b, rfl⟩ := Int.eq_ofNat_of_zero_le h3
  have hl := Lib.hid (load42_one b v (by omega) (by omega) (by omega))
  have hb := Lib.hid (below_alloc W (.cells #[.string N, .int .i64 (v : Int), .int .i64 (b : Int), .float .f64 t] 54))
  unfold candV
  go_enter Tryd.func38, Tryd.ntmps38
  go_wp2_with (go_at_call 22; refine (hl.out _).mono ?_; rintro e w' ⟨y, n, rfl, hk, rfl⟩)
  go_ret
  exact ⟨y, rfl, hk, below_drewN hb.out n⟩
/-- The load by the time has this place. -/
def LoadIs (c : Cand) (k : Int) : Prop := ∀ w, Calls Tryd.prog 22 #[.int .i64 c.b, .int .i64 c.w, .float .f64 c.t] w fun e w' => ∃ y n, e = .returned (.float .f64 y) ∧ kf y = k ∧ w' = w.drewN n
theorem load_is (c : Cand) (hc : Small c) : ∃ k, LoadIs c k := by
  obtain ⟨N, v, b, t⟩ := c
  obtain ⟨h1, h2, h3, h4⟩ := hc
  simp only at h1 h2 h3 h4
  obtain ⟨v, rfl⟩ := Int.eq_ofNat_of_zero_le (show 0 ≤ v by omega)
  obtain ⟨b, rfl⟩ := Int.eq_ofNat_of_zero_le h3
  exact load42 b v (by omega) (by omega) (by omega) t
open Classical in
/-- The place of a candidate's load by its time. -/
noncomputable def tk (c : Cand) : Int := if h : ∃ k, LoadIs c k then Classical.choose h else 0
theorem tk_load (c : Cand) (hc : Small c) : LoadIs c (tk c) := by
  unfold tk
  rw [dif_pos (load_is c hc)]
  exact Classical.choose_spec (load_is c hc)
theorem time37 : LoadsC 44 tk Small := by
  intro c hc W
  have hl := Lib.hid (tk_load c hc)
  have hb := Lib.hid (below_alloc W (.cells #[.string c.nm, .int .i64 c.w, .int .i64 c.b, .float .f64 c.t] 54))
  generalize tk c = k at *
  obtain ⟨N, v, b, t⟩ := c
  simp only at hl hb
  unfold candV
  go_enter Tryd.func44, Tryd.ntmps44
  go_wp2_with (go_at_call 22; refine (hl.out _).mono ?_; rintro e w' ⟨y, n, rfl, hk, rfl⟩)
  go_ret
  exact ⟨y, rfl, hk, below_drewN hb.out n⟩

theorem infoF64 : (Tryd.prog.info? 48).map (fun i => (i.zero, i.size, i.bytes)) = some (some (.float .f64 0), 1, 8) := by kernel_rfl
/-- The cells of floats. -/
def cellsF64 (ys : List Nat) : List Value := ys.map (Value.float .f64)
theorem own_below {w w' : World} {b e n m : Nat} {v : Value} {xs : List Value} (h : w.ownsRow b e n v m xs) (hb : Below w.heap.size w w') : w'.ownsRow b e n v m xs := by
  obtain ⟨hl, h0 | ⟨g, cap, cur, rfl, hbb, hc, r⟩⟩ := h
  · exact ⟨hl, .inl h0⟩
  · exact ⟨hl, .inr ⟨g, cap, cur, rfl, hbb, (hb.block g (Array.getElem?_eq_some_iff.1 hc).1).trans hc, r⟩⟩
theorem store_flt (P : Program) (w : World) (a : Addr) (k : FloatKind) (b : Nat) (m : Mode) : (store a (.float k b) m).run P w = stored P w a (.float k b) m := run_store P w a _ m rfl
end Go.Proofs.YtpjbdejgamajlabDoor

/- choice.loads by the count. -/
namespace Go.Proofs.YtpjbdejgamajlabDoor
open Go.RowKit

set_option maxHeartbeats 4000000 in
set_option maxRecDepth 100000 in
theorem loads_count (a : Option Addr) (c : Nat) (cs : List Cand) (hl : cs.length ≤ 100000) (hok : ∀ x ∈ cs, Small x) (w : World) (hf : IsCands w a c cs) :
    Calls Tryd.prog 37 #[.func (.func 38) #[] #[], .slice a cs.length c] w fun e w' => ∃ (a' : Option Addr) (ys : List Nat), e = .returned (.slice a' cs.length cs.length) ∧ ys.length = cs.length ∧ (∀ i, i < cs.length → kf (ys[i]?.getD 0) = (cs[i]?.map (ck)).getD 0) ∧ w'.ownsRow w.heap.size 48 1 (.slice a' cs.length cs.length) cs.length (cellsF64 ys) ∧ Below w.heap.size w w' := by
  obtain ⟨i0, hi, hz0, hz1, hz2⟩ := info_parts infoF64
  have HFF := Lib.hid hf
  have HOK := Lib.hid hok
  have HF := Lib.hid count31
  have HK : Hid (∀ c, ck c = ck c) := fun _ => rfl
  clear hf hok HK
  have hsf := store_flt Tryd.prog
  go_enter Tryd.func37, Tryd.ntmps37
  go_wp2_with (at_make; refine wpList_make_full _ rfl _ _ 47 rfl w.heap.size 48 i0 (.float .f64 0) 1 Tryd.underlying47 hi hz0 hz1 _ _ _ _ cs.length rfl rfl rfl rfl (by rw [hz2]; omega) (by unfold maxLen; omega) (Nat.le_refl _) ?_)
  intro w1 hown1 hg1
  have hB1 : Below w.heap.size w w1 := (Below.refl _ _).grown hg1 (Nat.le_refl _) (fun k hk => by cases hk)
  rw [toList_madeCells_one] at hown1
  have hml : List.replicate cs.length (Value.float .f64 0) = cellsF64 (List.replicate cs.length 0) := by unfold cellsF64; rw [List.map_replicate]
  rw [hml] at hown1
  obtain ⟨rb, hrb⟩ : ∃ rb, rb = w.heap.size := ⟨_, rfl⟩
  have HRB : Hid (rb = w.heap.size) := hrb
  have HO1 := Lib.hid hown1
  have HB1 := Lib.hid hB1
  clear hown1 hg1 hB1 hml
  rw [← hrb] at HO1 ⊢
  clear hrb
  go_wp2_with fail
  go_loopw [13] (fun i wr => ∃ (j : Nat) (ys : List Nat), j ≤ cs.length ∧ i = .int .i64 (j : Int) ∧ ys.length = cs.length ∧ (∀ i, i < j → kf (ys[i]?.getD 0) = (cs[i]?.map (ck)).getD 0) ∧ wr.ownsRow rb 48 1 (.slice (some ⟨rb, 0, none⟩) cs.length cs.length) cs.length (cellsF64 ys) ∧ Below w.heap.size w wr) (fun i _ => cs.length - (intOf i).toNat)
  case atStart => exact ⟨0, _, Nat.zero_le _, rfl, List.length_replicate, fun i h => by omega, HO1.out, HB1.out⟩
  case round =>
    obtain ⟨j, ys, hj, rfl, hyl, hys, ho, hb⟩ := hrel
    by_cases hlt : j < cs.length
    · obtain h0 | ⟨bk, o, rfl, hbk, hc, hcell⟩ := HFF.out.below hb
      · subst h0; simp at hlt
      obtain ⟨c1, c2, c3, c4⟩ := hcell j cs[j] (by simp [hlt])
      have hm := HF.out cs[j] (HOK.out _ (List.getElem_mem hlt))
      have hk1 : (cs[j]?.map (ck)).getD 0 = (ck) cs[j] := by simp [hlt]
      obtain ⟨f, hfe⟩ : ∃ f, f = cs[j] := ⟨_, rfl⟩
      rw [← hfe] at c1 c2 c3 c4 hm hk1
      clear hcell hfe
      obtain ⟨N, v, b, t⟩ := f
      simp only at c1 c2 c3 c4
      unfold candV at hm
      simp only at hm
      have HM := Lib.hid hm
      have HK1 := Lib.hid hk1
      have HYS := Lib.hid hys
      have HO := Lib.hid ho
      have HB := Lib.hid hb
      have j1 : (j : Int) < cs.length := by omega
      clear hm hk1 hys ho hb
      go_wp2_with fail
      obtain ⟨u, hcell64⟩ : ∃ u, (cellsF64 ys)[j]? = some (.float .f64 u) := ⟨ys[j], by simp [cellsF64, hyl, hlt]⟩
      have hsz : (wr.alloc (.cells #[.string N, .int .i64 v, .int .i64 b, .float .f64 t] 54)).heap.size = wr.heap.size + 1 := World.size_alloc _ _
      have HBA := Lib.hid (HB.out.alloc HB.out.size (.cells #[.string N, .int .i64 v, .int .i64 b, .float .f64 t] 54))
      have HOA := Lib.hid (HO.out.alloc (.cells #[.string N, .int .i64 v, .int .i64 b, .float .f64 t] 54))
      go_wp2_with (go_at_call 38; refine (HM.out _).mono ?_; rintro e w3 ⟨y, rfl, hky, hb3⟩; have hO3 := own_below HOA.out hb3; have hcl3 := hO3.cellAt j (by omega); rw [hcell64] at hcl3; have hfr3 := hO3.frozenAt j; have HS3 := Lib.hid (hO3.stored j (.float .f64 y)); have HB3 := Lib.hid (HBA.out.trans (hb3.mono HBA.out.size)); have HKY := Lib.hid hky; clear hO3 hb3 hky)
      have hset : (cellsF64 ys).set j (.float .f64 y) = cellsF64 (ys.set j y) := by unfold cellsF64; rw [List.map_set]
      have hO4 := HS3.out.1
      rw [hset] at hO4
      have HO4 := Lib.hid hO4
      have HB4 := Lib.hid (HB3.out.setCell (p := ⟨rb, j, none⟩) (Nat.le_of_eq HRB.out.symm) (.float .f64 y))
      have HY : Hid (∀ i, i < j + 1 → kf ((ys.set j y)[i]?.getD 0) = (cs[i]?.map ck).getD 0) := by
        intro i hi
        by_cases hij : i = j
        · subst hij
          rw [HK1.out, ← HKY.out, List.getElem?_set_self (by omega)]; rfl
        · rw [List.getElem?_set_ne (fun h => hij h.symm)]
          exact HYS.out i (by omega)
      clear hO4 hset HS3 HB3
      go_roundw
      case rel => exact ⟨j + 1, ys.set j y, hlt, by go_num, by rw [List.length_set]; exact hyl, HY.out, HO4.out, HB4.out⟩
      case measure => simp [intOf]; omega
    · obtain rfl : cs.length = j := by omega
      have hne : ¬ ((cs.length : Int) < cs.length) := by omega
      have HO := Lib.hid ho
      have HB := Lib.hid hb
      have HYS := Lib.hid hys
      clear ho hb hys
      go_wp2_with fail
      go_ret
      have hO := HO.out
      rw [HRB.out] at hO
      refine ⟨some ⟨w.heap.size, 0, none⟩, ?_, ys, hyl, HYS.out, hO, HB.out⟩
      rw [← HRB.out]; rfl
end Go.Proofs.YtpjbdejgamajlabDoor

