/- The reference's Number; the walk of the statement OctetNumbers. -/
import Derived.Test.YtchpgdoidpllgaaDoorLawOct
namespace Go.Proofs.YtchpgdoidpllgaaDoor
open Go.RowKit

theorem hex_cases (c : UInt8) (q : Bool) (hq : isHex c = q) : (isDec c = true ∧ q = true ∧ (c.toNat : Int) - 48 = dgt c ∧ 48 ≤ c.toNat ∧ c.toNat ≤ 57)
    ∨ (isDec c = false ∧ q = true ∧ (c.toNat : Int) - 87 = dgt c ∧ 97 ≤ c.toNat ∧ c.toNat ≤ 102) ∨ (isDec c = false ∧ q = true ∧ (c.toNat : Int) - 55 = dgt c ∧ 65 ≤ c.toNat ∧ c.toNat ≤ 70)
    ∨ (isDec c = false ∧ q = false ∧ (c.toNat < 97 ∨ 102 < c.toNat) ∧ (c.toNat < 65 ∨ 70 < c.toNat)) := by
  subst hq; revert c; apply all256; decide +kernel
theorem dec_cases (c : UInt8) (q : Bool) (hq : isDec c = q) : (q = true ∧ (c.toNat : Int) - 48 = dgt c ∧ 48 ≤ c.toNat ∧ c.toNat ≤ 57) ∨ q = false := by
  subst hq; revert c; apply all256; decide +kernel

set_option maxRecDepth 100000 in
set_option maxHeartbeats 2000000 in
theorem num27_10 (s : ByteArray) (hs : s.size ≤ 1000000) (most : Int) (r1 r2 : Int) (hr : numR 10 10 isDec s.data.toList most = (r1, r2)) (w : World) :
    Calls Tryd.prog 17 #[.string s, .int .i64 10, .int .i64 most] w fun e w' => e = .returned (.tuple #[.int .i64 r1, .int .i64 r2]) ∧ w = w' := by
  have hz := Lib.size_eq s
  unfold numR at hr
  by_cases h1 : s.size < 1
  · rw [if_pos (.inl (by omega))] at hr
    injection hr with e1 e2
    subst e1
    subst e2
    have : (s.size : Int) < 1 := by omega
    clear hz
    go_enter Tryd.func17, Tryd.ntmps17
    go_wp2_with fail
    go_ret2
    exact ⟨rfl, rfl⟩
  by_cases h2 : 10 < s.size
  · rw [if_pos (.inr (.inl (by omega)))] at hr
    injection hr with e1 e2
    subst e1
    subst e2
    have : ¬ (s.size : Int) < 1 := by omega
    have : (s.size : Int) > 10 := by omega
    clear hz
    go_enter Tryd.func17, Tryd.ntmps17
    go_wp2_with fail
    go_ret2
    exact ⟨rfl, rfl⟩
  have HR := Lib.hid hr
  have HZ := Lib.hid hz
  have g1 : ¬ (s.size : Int) < 1 := by omega
  have g2 : ¬ (s.size : Int) > 10 := by omega
  clear hr hz
  go_enter Tryd.func17, Tryd.ntmps17
  go_wp2_with fail
  go_loop [9, 10] (fun n i => ∃ j : Nat, j ≤ s.size ∧ i = .int .i64 (j : Int) ∧ n = .int .i64 (numD 10 (s.data.toList.take j)) ∧ Hid ((s.data.toList.take j).all isDec = true)) (fun _ i => s.size - (intOf i).toNat)
  case atStart => exact ⟨0, Nat.zero_le _, rfl, rfl, by simp [Hid]⟩
  case round =>
    obtain ⟨j, hj, rfl, rfl, hal⟩ := hrel
    have hnl := numD_lt 10 isDec (fun c h => dec_dgt c h) (s.data.toList.take j) hal.out
    have hn0 : 0 ≤ numD 10 (s.data.toList.take j) := hnl.1
    have hpw : 10 ^ (s.data.toList.take j).length ≤ 10 ^ 10 := Nat.pow_le_pow_right (by decide) (by rw [List.length_take]; omega)
    have hn1 : numD 10 (s.data.toList.take j) < 10000000000 := by
      have := hnl.2
      have h2 : ((10 ^ (s.data.toList.take j).length : Nat) : Int) ≤ ((10 ^ 10 : Nat) : Int) := by exact_mod_cast hpw
      have h3 : ((10 ^ 10 : Nat) : Int) = 10000000000 := by decide
      have h4 : (((10 : Nat) : Int)) = 10 := rfl
      rw [h4] at this
      omega
    by_cases hlt : j < s.size
    · have hst : numD 10 (s.data.toList.take (j + 1)) = 10 * numD 10 (s.data.toList.take j) + dgt s[j] := by rw [take_snoc s j hlt, numD_snoc]
      obtain ⟨n, hn⟩ : ∃ n, n = numD 10 (s.data.toList.take j) := ⟨_, rfl⟩
      rw [← hn] at hst hn0 hn1 ⊢
      have HS := Lib.hid hst
      have hc8 := byte_lt s[j]
      obtain ⟨q, hq⟩ : ∃ q, isDec s[j] = q := ⟨_, rfl⟩
      have HN : Hid (q = false → r1 = 0 ∧ r2 = 2) := fun e => by
        have h := HR.out
        rw [if_pos (.inr (.inr (all_no s isDec j hlt (hq.trans e))))] at h
        injection h with e1 e2
        exact ⟨e1.symm, e2.symm⟩
      have HY : Hid (q = true → (s.data.toList.take (j + 1)).all isDec = true) := fun e => all_step s isDec j hlt hal.out (hq.trans e)
      clear hst hnl hpw hn hal
      have hcs := dec_cases s[j] q hq
      have HD := Lib.hid (digit59 s[j] q hq)
      clear hq
      rcases hcs with ⟨rfl, hd, h1, h2⟩ | rfl
      · have hdv := Lib.hid hd
        have k1 : (48 : Int) ≤ s[j].toNat := by omega
        have k2 : (s[j].toNat : Int) ≤ 57 := by omega
        clear hd
        go_wp2_with (go_at_call 24; refine (HD.out _).mono ?_; rintro e w' ⟨rfl, rfl⟩)
        go_round
        case rel => exact ⟨j + 1, by omega, by go_num, by rw [HS.out, ← hdv.out], HY.out trivial⟩
        case measure => simp [intOf]; omega
      · skip
        go_wp2_with (go_at_call 24; refine (HD.out _).mono ?_; rintro e w' ⟨rfl, rfl⟩)
        go_ret2
        obtain ⟨e1, e2⟩ := HN.out trivial
        exact ⟨by rw [e1, e2]; rfl, rfl⟩
    · have hf := all_full s isDec j hlt hal.out
      have hfull : s.data.toList.take j = s.data.toList := List.take_of_length_le (by have := HZ.out; omega)
      rw [hfull] at hn0 hn1 ⊢
      have hv := HR.out
      rw [if_neg (by have := HZ.out; rintro (h | h | h); (· omega); (· omega); (· rw [hf] at h; cases h))] at hv
      clear hal hf hfull hnl hpw
      generalize numD 10 s.data.toList = n at *
      by_cases hm : most < n
      · rw [if_pos hm] at hv
        injection hv with e1 e2
        subst e1
        subst e2
        have : n > most := hm
        go_wp2_with fail
        go_ret2
        exact ⟨rfl, rfl⟩
      · rw [if_neg hm] at hv
        injection hv with e1 e2
        subst e1
        subst e2
        have : ¬ n > most := hm
        go_wp2_with fail
        go_ret2
        exact ⟨rfl, rfl⟩

set_option maxRecDepth 100000 in
set_option maxHeartbeats 2000000 in
theorem num27_16 (s : ByteArray) (hs : s.size ≤ 1000000) (most : Int) (r1 r2 : Int) (hr : numR 16 8 isHex s.data.toList most = (r1, r2)) (w : World) :
    Calls Tryd.prog 17 #[.string s, .int .i64 16, .int .i64 most] w fun e w' => e = .returned (.tuple #[.int .i64 r1, .int .i64 r2]) ∧ w = w' := by
  have hz := Lib.size_eq s
  unfold numR at hr
  by_cases h1 : s.size < 1
  · rw [if_pos (.inl (by omega))] at hr
    injection hr with e1 e2
    subst e1
    subst e2
    have : (s.size : Int) < 1 := by omega
    clear hz
    go_enter Tryd.func17, Tryd.ntmps17
    go_wp2_with fail
    go_ret2
    exact ⟨rfl, rfl⟩
  by_cases h2 : 8 < s.size
  · rw [if_pos (.inr (.inl (by omega)))] at hr
    injection hr with e1 e2
    subst e1
    subst e2
    have : ¬ (s.size : Int) < 1 := by omega
    have : (s.size : Int) > 8 := by omega
    clear hz
    go_enter Tryd.func17, Tryd.ntmps17
    go_wp2_with fail
    go_ret2
    exact ⟨rfl, rfl⟩
  have HR := Lib.hid hr
  have HZ := Lib.hid hz
  have g1 : ¬ (s.size : Int) < 1 := by omega
  have g2 : ¬ (s.size : Int) > 8 := by omega
  clear hr hz
  go_enter Tryd.func17, Tryd.ntmps17
  go_wp2_with fail
  go_loop [9, 10] (fun n i => ∃ j : Nat, j ≤ s.size ∧ i = .int .i64 (j : Int) ∧ n = .int .i64 (numD 16 (s.data.toList.take j)) ∧ Hid ((s.data.toList.take j).all isHex = true)) (fun _ i => s.size - (intOf i).toNat)
  case atStart => exact ⟨0, Nat.zero_le _, rfl, rfl, by simp [Hid]⟩
  case round =>
    obtain ⟨j, hj, rfl, rfl, hal⟩ := hrel
    have hnl := numD_lt 16 isHex (fun c h => hex_dgt c h) (s.data.toList.take j) hal.out
    have hn0 : 0 ≤ numD 16 (s.data.toList.take j) := hnl.1
    have hpw : 16 ^ (s.data.toList.take j).length ≤ 16 ^ 8 := Nat.pow_le_pow_right (by decide) (by rw [List.length_take]; omega)
    have hn1 : numD 16 (s.data.toList.take j) < 4294967296 := by
      have := hnl.2
      have h2 : ((16 ^ (s.data.toList.take j).length : Nat) : Int) ≤ ((16 ^ 8 : Nat) : Int) := by exact_mod_cast hpw
      have h3 : ((16 ^ 8 : Nat) : Int) = 4294967296 := by decide
      have h4 : (((16 : Nat) : Int)) = 16 := rfl
      rw [h4] at this
      omega
    by_cases hlt : j < s.size
    · have hst : numD 16 (s.data.toList.take (j + 1)) = 16 * numD 16 (s.data.toList.take j) + dgt s[j] := by rw [take_snoc s j hlt, numD_snoc]
      obtain ⟨n, hn⟩ : ∃ n, n = numD 16 (s.data.toList.take j) := ⟨_, rfl⟩
      rw [← hn] at hst hn0 hn1 ⊢
      have HS := Lib.hid hst
      have hc8 := byte_lt s[j]
      obtain ⟨q, hq⟩ : ∃ q, isHex s[j] = q := ⟨_, rfl⟩
      have HN : Hid (q = false → r1 = 0 ∧ r2 = 2) := fun e => by
        have h := HR.out
        rw [if_pos (.inr (.inr (all_no s isHex j hlt (hq.trans e))))] at h
        injection h with e1 e2
        exact ⟨e1.symm, e2.symm⟩
      have HY : Hid (q = true → (s.data.toList.take (j + 1)).all isHex = true) := fun e => all_step s isHex j hlt hal.out (hq.trans e)
      clear hst hnl hpw hn hal
      have hcs := hex_cases s[j] q hq
      clear hq
      rcases hcs with ⟨hdc, rfl, hd, h1, h2⟩ | ⟨hdc, rfl, hd, h1, h2⟩ | ⟨hdc, rfl, hd, h1, h2⟩ | ⟨hdc, rfl, h1, h2⟩
      · have HD := Lib.hid (digit59 s[j] _ hdc)
        have : (48 : Int) ≤ s[j].toNat := by omega
        have : (s[j].toNat : Int) ≤ 57 := by omega
        have : ¬ (s[j].toNat : Int) ≥ 97 := by omega
        have : ¬ (s[j].toNat : Int) ≥ 65 := by omega
        have hdv := Lib.hid hd
        clear hd hdc
        go_wp2_with (go_at_call 24; refine (HD.out _).mono ?_; rintro e w' ⟨rfl, rfl⟩)
        go_round
        case rel => exact ⟨j + 1, by omega, by go_num, by rw [HS.out, ← hdv.out], HY.out trivial⟩
        case measure => simp [intOf]; omega
      · have HD := Lib.hid (digit59 s[j] _ hdc)
        have : (s[j].toNat : Int) ≥ 97 := by omega
        have : (s[j].toNat : Int) ≤ 102 := by omega
        have : (s[j].toNat : Int) ≥ 65 := by omega
        have : ¬ (s[j].toNat : Int) ≤ 70 := by omega
        have hdv := Lib.hid hd
        clear hd hdc
        go_wp2_with (go_at_call 24; refine (HD.out _).mono ?_; rintro e w' ⟨rfl, rfl⟩)
        go_round
        case rel => exact ⟨j + 1, by omega, by go_num, by rw [HS.out, ← hdv.out], HY.out trivial⟩
        case measure => simp [intOf]; omega
      · have HD := Lib.hid (digit59 s[j] _ hdc)
        have : ¬ (s[j].toNat : Int) ≥ 97 := by omega
        have : (s[j].toNat : Int) ≥ 65 := by omega
        have : (s[j].toNat : Int) ≤ 70 := by omega
        have hdv := Lib.hid hd
        clear hd hdc
        go_wp2_with (go_at_call 24; refine (HD.out _).mono ?_; rintro e w' ⟨rfl, rfl⟩)
        go_round
        case rel => exact ⟨j + 1, by omega, by go_num, by rw [HS.out, ← hdv.out], HY.out trivial⟩
        case measure => simp [intOf]; omega
      · have HD := Lib.hid (digit59 s[j] _ hdc)
        clear hdc
        have hA : ¬ (s[j].toNat : Int) ≥ 97 ∨ ((s[j].toNat : Int) ≥ 97 ∧ ¬ (s[j].toNat : Int) ≤ 102) := by omega
        have hB : ¬ (s[j].toNat : Int) ≥ 65 ∨ ((s[j].toNat : Int) ≥ 65 ∧ ¬ (s[j].toNat : Int) ≤ 70) := by omega
        clear h1 h2
        rcases hA with hA | ⟨hA, hA2⟩ <;> rcases hB with hB | ⟨hB, hB2⟩
        all_goals
          first
          | (exfalso; omega)
          | (go_wp2_with (go_at_call 24; refine (HD.out _).mono ?_; rintro e w' ⟨rfl, rfl⟩)
             go_ret2
             obtain ⟨e1, e2⟩ := HN.out trivial
             exact ⟨by rw [e1, e2]; rfl, rfl⟩)
    · have hf := all_full s isHex j hlt hal.out
      have hfull : s.data.toList.take j = s.data.toList := List.take_of_length_le (by have := HZ.out; omega)
      rw [hfull] at hn0 hn1 ⊢
      have hv := HR.out
      rw [if_neg (by have := HZ.out; rintro (h | h | h); (· omega); (· omega); (· rw [hf] at h; cases h))] at hv
      clear hal hf hfull hnl hpw
      generalize numD 16 s.data.toList = n at *
      by_cases hm : most < n
      · rw [if_pos hm] at hv
        injection hv with e1 e2
        subst e1
        subst e2
        have : n > most := hm
        go_wp2_with fail
        go_ret2
        exact ⟨rfl, rfl⟩
      · rw [if_neg hm] at hv
        injection hv with e1 e2
        subst e1
        subst e2
        have : ¬ n > most := hm
        go_wp2_with fail
        go_ret2
        exact ⟨rfl, rfl⟩

end Go.Proofs.YtchpgdoidpllgaaDoor
