/- Reading digits with strconv: ParseUint, ParseInt at the bases 10 and 16. -/
import Derived.Test.YtchpgdoidpllgaaDoorOctD
import Derived.IntWalk
namespace Go.Proofs.YtchpgdoidpllgaaDoor
open Go.RowKit

/-- A digit's number; -1: it is none. -/
def dgt (c : UInt8) : Int := if 48 ≤ c.toNat ∧ c.toNat ≤ 57 then (c.toNat : Int) - 48 else if 97 ≤ c.toNat ∧ c.toNat ≤ 102 then (c.toNat : Int) - 87 else if 65 ≤ c.toNat ∧ c.toNat ≤ 70 then (c.toNat : Int) - 55 else -1
theorem dgt_dec (c : UInt8) (h : isDec c = true) : 0 ≤ dgt c ∧ dgt c < 10 ∧ (c.toNat : Int) = dgt c + 48 := by
  have : ∀ c : UInt8, isDec c = true → 0 ≤ dgt c ∧ dgt c < 10 ∧ (c.toNat : Int) = dgt c + 48 := by apply all256; decide +kernel
  exact this c h
theorem dgt_af (c : UInt8) (h : isAF c = true) : 10 ≤ dgt c ∧ dgt c < 16 ∧ bits .or .u8 (c.toNat : Int) 32 = dgt c + 87 ∧ ¬ (48 ≤ c.toNat ∧ c.toNat ≤ 57) ∧ c.toNat ≠ 95 := by
  have : ∀ c : UInt8, isAF c = true → 10 ≤ dgt c ∧ dgt c < 16 ∧ bits .or .u8 (c.toNat : Int) 32 = dgt c + 87 ∧ ¬ (48 ≤ c.toNat ∧ c.toNat ≤ 57) ∧ c.toNat ≠ 95 := by apply all256; decide +kernel
  exact this c h
/-- The digits' number to a base. -/
def numD (b : Int) (l : List UInt8) : Int := l.foldl (fun n c => b * n + dgt c) 0
theorem numD_snoc (b : Int) (l : List UInt8) (c : UInt8) : numD b (l ++ [c]) = b * numD b l + dgt c := by simp [numD]
theorem snoc_ind {P : List UInt8 → Prop} (h0 : P []) (h1 : ∀ l c, P l → P (l ++ [c])) (l : List UInt8) : P l := by
  rw [← List.reverse_reverse l]
  induction l.reverse with
  | nil => exact h0
  | cons a r ih => rw [List.reverse_cons]; exact h1 _ _ ih
theorem numD_lt (b : Nat) (p : UInt8 → Bool) (hp : ∀ c, p c = true → 0 ≤ dgt c ∧ dgt c < b) : ∀ l : List UInt8, l.all p = true → 0 ≤ numD b l ∧ numD b l < ((b ^ l.length : Nat) : Int) := by
  intro l
  refine snoc_ind (P := fun l => l.all p = true → 0 ≤ numD b l ∧ numD b l < ((b ^ l.length : Nat) : Int)) ?_ ?_ l
  · intro _; simp [numD]
  · intro l c ih h
    rw [List.all_append] at h
    simp only [List.all_cons, List.all_nil, Bool.and_true, Bool.and_eq_true] at h
    obtain ⟨h1, h2⟩ := ih h.1
    obtain ⟨h3, h4⟩ := hp c h.2
    rw [numD_snoc, List.length_append, List.length_singleton, Nat.pow_succ]
    have h5 : 0 ≤ (b : Int) * numD b l := Int.mul_nonneg (by omega) h1
    have h6 : (b : Int) * numD b l ≤ (b : Int) * (((b ^ l.length : Nat) : Int) - 1) := Int.mul_le_mul_of_nonneg_left (by omega) (by omega)
    rw [Int.mul_sub, Int.mul_one] at h6
    have h7 : ((b ^ l.length * b : Nat) : Int) = (b : Int) * ((b ^ l.length : Nat) : Int) := by rw [Int.natCast_mul, Int.mul_comm]
    rw [h7]
    omega
theorem pow10_le (n : Nat) (h : n ≤ 10) : 10 ^ n ≤ 10000000000 := Nat.pow_le_pow_right (by decide) h
theorem pow16_le (n : Nat) (h : n ≤ 8) : 16 ^ n ≤ 4294967296 := Nat.pow_le_pow_right (by decide) h
theorem hex_dgt (c : UInt8) (h : isHex c = true) : 0 ≤ dgt c ∧ dgt c < 16 := by
  unfold isHex at h
  rw [Bool.or_eq_true] at h
  rcases h with h | h
  · have := dgt_dec c h; omega
  · have := dgt_af c h; omega
theorem dec_dgt (c : UInt8) (h : isDec c = true) : 0 ≤ dgt c ∧ dgt c < 10 := by have := dgt_dec c h; omega
theorem lower130 (c : UInt8) (h : isAF c = true) (w : World) : Calls Tryd.prog 60 #[.int .u8 (c.toNat : Int)] w fun e w' => e = .returned (.int .u8 (dgt c + 87)) ∧ w = w' := by
  refine (Tryd.internal_strconv_lower (c.toNat : Int) w).mono fun e w' ⟨he, hw⟩ => ⟨?_, hw.symm⟩
  rw [he, (dgt_af c h).2.2.1]
theorem all_take (s : ByteArray) (p : UInt8 → Bool) (h : s.data.toList.all p = true) (j : Nat) : (s.data.toList.take j).all p = true := by
  rw [List.all_eq_true] at h ⊢
  exact fun x hx => h x (List.mem_of_mem_take hx)
theorem all_at (s : ByteArray) (p : UInt8 → Bool) (h : s.data.toList.all p = true) (j : Nat) (hj : j < s.size) : p s[j] = true := by
  rw [List.all_eq_true] at h
  exact h _ (List.mem_of_getElem? (toList_get s j hj))

theorem emp_false' (t : ByteArray) (h : 0 < t.size) : t.toList.isEmpty = false := by
  rw [ByteArray.toList_eq]
  cases hl : t.data.toList with
  | nil => have := Lib.size_eq t; rw [hl, List.length_nil] at this; omega
  | cons a r => rfl

set_option maxRecDepth 1000000 in
set_option maxHeartbeats 2000000 in
theorem puint10 (s : ByteArray) (h0 : 0 < s.size) (hs : s.size ≤ 10) (hd : s.data.toList.all isDec = true) (w : World) :
    Calls Tryd.prog 54 #[.string s, .int .i64 10, .int .i64 64] w fun e w' => e = .returned (.tuple #[.int .u64 (numD 10 s.data.toList), .nilIface]) ∧ Below w.heap.size w w' := by
  have hcv := Lib.run_convert_string_bytes (P := Tryd.prog) w 9 43 5 s Tryd.underlying9 Tryd.underlying43 Tryd.underlying5
  have B0 := bytesAre_bytesWorld w 5 s
  have L0 := below_bytesWorld w 5 s
  generalize Lib.bytesWorld w 5 s = w0 at *
  generalize grownCap w s.size 0 5 = cap at *
  obtain ⟨R, hR⟩ : ∃ R, R = numD 10 s.data.toList := ⟨_, rfl⟩
  rw [← hR]
  have HR := Lib.hid hR
  have HB := Lib.hid B0
  have he := emp_false' s h0
  obtain ⟨M, hM⟩ : ∃ M, IntKind.u64.wrap (IntKind.u64.wrap 18446744073709551616 - 1) = M := ⟨_, rfl⟩
  have hM1 : 1000000000000 ≤ M := by rw [← hM]; decide
  have HD := Lib.hid hd
  clear hR B0 hd
  go_enter Tryd.func54, Tryd.ntmps54
  go_wp2_with fail
  clear hcv he
  try simp only [hM]
  clear hM
  go_loop [12, 13, 101] (fun u n i => ∃ j : Nat, j ≤ s.size ∧ u = .bool false ∧ i = .int .i64 (j : Int) ∧ n = .int .u64 (numD 10 (s.data.toList.take j))) (fun _ _ i => s.size - (intOf i).toNat)
  case atStart => exact ⟨0, Nat.zero_le _, rfl, rfl, rfl⟩
  case round =>
    obtain ⟨j, hj, rfl, rfl, rfl⟩ := hrel
    by_cases hlt : j < s.size
    · have hst : numD 10 (s.data.toList.take (j + 1)) = 10 * numD 10 (s.data.toList.take j) + dgt s[j] := by rw [take_snoc s j hlt, numD_snoc]
      have hnl := numD_lt 10 isDec (fun c h => dec_dgt c h) (s.data.toList.take j) (all_take s _ HD.out j)
      have hpw : 10 ^ (s.data.toList.take j).length ≤ 10 ^ 9 := Nat.pow_le_pow_right (by decide) (by rw [List.length_take]; omega)
      have hn0 : 0 ≤ numD 10 (s.data.toList.take j) := hnl.1
      have hn1 : numD 10 (s.data.toList.take j) < 1000000000 := by
        have := hnl.2
        have h2 : ((10 ^ (s.data.toList.take j).length : Nat) : Int) ≤ ((10 ^ 9 : Nat) : Int) := by exact_mod_cast hpw
        have h3 : ((10 ^ 9 : Nat) : Int) = 1000000000 := by decide
        have h4 : (((10 : Nat) : Int)) = 10 := rfl
        rw [h4] at this
        omega
      obtain ⟨oj, zj⟩ := HB.out j s[j] (toList_get s j hlt)
      have hok := all_at s _ HD.out j hlt
      obtain ⟨n, hn⟩ : ∃ n, n = numD 10 (s.data.toList.take j) := ⟨_, rfl⟩
      rw [← hn] at hst hn0 hn1 ⊢
      have HS := Lib.hid hst
      clear hst hnl hpw hn
      have hdc : isDec s[j] = true := hok
      have hdd := dgt_dec s[j] hdc
      obtain ⟨d, hdq⟩ : ∃ d, d = dgt s[j] := ⟨_, rfl⟩
      rw [← hdq] at hdd HS
      obtain ⟨g1, g2, g3⟩ := hdd
      have HDD := Lib.hid hdq
      have ov : w0.cell? ⟨w.heap.size, j, none⟩ = some (.int .u8 (d + 48)) := by rw [oj, g3]
      have m1 : ((d + 48) == 95) = false := beq_eq_false_iff_ne.2 (by omega)
      have m2 : (48 : Int) ≤ d + 48 := by omega
      have m3 : d + 48 ≤ 57 := by omega
      clear oj g3 hok hdc hdq
      go_wp2_with fail
      go_round
      case rel => exact ⟨j + 1, by omega, rfl, by go_num, by rw [HS.out]; go_num⟩
      case measure => simp [intOf]; omega
    · obtain rfl : j = s.size := by omega
      have hz := Lib.size_eq s
      rw [List.take_of_length_le (by omega), ← HR.out]
      clear hz
      go_wp2_with fail
      go_ret2
      exact ⟨rfl, L0⟩

set_option maxRecDepth 1000000 in
set_option maxHeartbeats 2000000 in
theorem puint16 (s : ByteArray) (h0 : 0 < s.size) (hs : s.size ≤ 8) (hd : s.data.toList.all isHex = true) (w : World) :
    Calls Tryd.prog 54 #[.string s, .int .i64 16, .int .i64 64] w fun e w' => e = .returned (.tuple #[.int .u64 (numD 16 s.data.toList), .nilIface]) ∧ Below w.heap.size w w' := by
  have hcv := Lib.run_convert_string_bytes (P := Tryd.prog) w 9 43 5 s Tryd.underlying9 Tryd.underlying43 Tryd.underlying5
  have B0 := bytesAre_bytesWorld w 5 s
  have L0 := below_bytesWorld w 5 s
  generalize Lib.bytesWorld w 5 s = w0 at *
  generalize grownCap w s.size 0 5 = cap at *
  obtain ⟨R, hR⟩ : ∃ R, R = numD 16 s.data.toList := ⟨_, rfl⟩
  rw [← hR]
  have HR := Lib.hid hR
  have HB := Lib.hid B0
  have he := emp_false' s h0
  obtain ⟨M, hM⟩ : ∃ M, IntKind.u64.wrap (IntKind.u64.wrap 18446744073709551616 - 1) = M := ⟨_, rfl⟩
  have hM1 : 1000000000000 ≤ M := by rw [← hM]; decide
  have HD := Lib.hid hd
  clear hR B0 hd
  go_enter Tryd.func54, Tryd.ntmps54
  go_wp2_with fail
  clear hcv he
  try simp only [hM]
  clear hM
  go_loop [12, 13, 101] (fun u n i => ∃ j : Nat, j ≤ s.size ∧ u = .bool false ∧ i = .int .i64 (j : Int) ∧ n = .int .u64 (numD 16 (s.data.toList.take j))) (fun _ _ i => s.size - (intOf i).toNat)
  case atStart => exact ⟨0, Nat.zero_le _, rfl, rfl, rfl⟩
  case round =>
    obtain ⟨j, hj, rfl, rfl, rfl⟩ := hrel
    by_cases hlt : j < s.size
    · have hst : numD 16 (s.data.toList.take (j + 1)) = 16 * numD 16 (s.data.toList.take j) + dgt s[j] := by rw [take_snoc s j hlt, numD_snoc]
      have hnl := numD_lt 16 isHex (fun c h => hex_dgt c h) (s.data.toList.take j) (all_take s _ HD.out j)
      have hpw : 16 ^ (s.data.toList.take j).length ≤ 16 ^ 7 := Nat.pow_le_pow_right (by decide) (by rw [List.length_take]; omega)
      have hn0 : 0 ≤ numD 16 (s.data.toList.take j) := hnl.1
      have hn1 : numD 16 (s.data.toList.take j) < 268435456 := by
        have := hnl.2
        have h2 : ((16 ^ (s.data.toList.take j).length : Nat) : Int) ≤ ((16 ^ 7 : Nat) : Int) := by exact_mod_cast hpw
        have h3 : ((16 ^ 7 : Nat) : Int) = 268435456 := by decide
        have h4 : (((16 : Nat) : Int)) = 16 := rfl
        rw [h4] at this
        omega
      obtain ⟨oj, zj⟩ := HB.out j s[j] (toList_get s j hlt)
      have hok := all_at s _ HD.out j hlt
      obtain ⟨n, hn⟩ : ∃ n, n = numD 16 (s.data.toList.take j) := ⟨_, rfl⟩
      rw [← hn] at hst hn0 hn1 ⊢
      have HS := Lib.hid hst
      clear hst hnl hpw hn
      by_cases hdc : isDec s[j] = true
      · have hdd := dgt_dec s[j] hdc
        obtain ⟨d, hdq⟩ : ∃ d, d = dgt s[j] := ⟨_, rfl⟩
        rw [← hdq] at hdd HS
        obtain ⟨g1, g2, g3⟩ := hdd
        have HDD := Lib.hid hdq
        have ov : w0.cell? ⟨w.heap.size, j, none⟩ = some (.int .u8 (d + 48)) := by rw [oj, g3]
        have m1 : ((d + 48) == 95) = false := beq_eq_false_iff_ne.2 (by omega)
        have m2 : (48 : Int) ≤ d + 48 := by omega
        have m3 : d + 48 ≤ 57 := by omega
        clear oj g3 hok hdc hdq
        go_wp2_with fail
        go_round
        case rel => exact ⟨j + 1, by omega, rfl, by go_num, by rw [HS.out]; go_num⟩
        case measure => simp [intOf]; omega
      · have hac : isAF s[j] = true := by
          unfold isHex at hok
          rw [Bool.or_eq_true] at hok
          exact hok.resolve_left hdc
        have hdd := dgt_af s[j] hac
        have HL := Lib.hid (lower130 s[j] hac)
        have hc8 := byte_lt s[j]
        obtain ⟨c, hc⟩ : ∃ c, c = s[j] := ⟨_, rfl⟩
        rw [← hc] at oj hdd HL HS hc8
        obtain ⟨d, hdq⟩ : ∃ d, d = dgt c := ⟨_, rfl⟩
        rw [← hdq] at hdd HL HS
        obtain ⟨g1, g2, g3, g4, g5⟩ := hdd
        have m1 : ((c.toNat : Int) == 95) = false := beq_eq_false_iff_ne.2 (by omega)
        have m2 : (97 : Int) ≤ d + 87 := by omega
        have m3 : d + 87 ≤ 122 := by omega
        have hq : ¬ (48 : Int) ≤ c.toNat ∨ ((48 : Int) ≤ c.toNat ∧ ¬ (c.toNat : Int) ≤ 57) := by omega
        clear g3 g4 g5 hok hdc hac hc hdq
        rcases hq with hq | ⟨hq, hq2⟩
        all_goals
          go_wp2_with (go_at_call 60; refine (HL.out _).mono ?_; rintro e w' ⟨rfl, rfl⟩)
          go_round
          case rel => exact ⟨j + 1, by omega, rfl, by go_num, by rw [HS.out]; go_num⟩
          case measure => simp [intOf]; omega
    · obtain rfl : j = s.size := by omega
      have hz := Lib.size_eq s
      rw [List.take_of_length_le (by omega), ← HR.out]
      clear hz
      go_wp2_with fail
      go_ret2
      exact ⟨rfl, L0⟩
end Go.Proofs.YtchpgdoidpllgaaDoor
