/- octet's Digits, the reference's Print, the walk of the statement OctetDigits. -/
import Derived.Test.YtkajfocjpaemgaaDoorLawOct
import Derived.Test.YtkajfocjpaemgaaDoorNumB
import Derived.Test.YtkajfocjpaemgaaDoorShelfC
import Derived.Lib.AppendIntMem
import Derived.IntWalk
namespace Go.Proofs.YtkajfocjpaemgaaDoor
open Go.RowKit

theorem prtF_dec : ∀ (k n : Nat), n < 10 ^ (k + 1) → Lib.decDigits n = prtF 10 k n
  | 0, n, h => by rw [Lib.decDigits_one (by omega)]; simp [prtF, dch, show n < 10 by omega]
  | k + 1, n, h => by
    by_cases h10 : n < 10
    · rw [Lib.decDigits_one h10, prtF_small 10 _ n h10]; simp [dch, h10]
    · rw [Lib.decDigits, dif_neg h10, prtF_step 10 k n (by omega), prtF_dec k (n / 10) (by rw [Nat.div_lt_iff_lt_mul (by decide)]; rw [Nat.pow_succ] at h; exact h)]
      simp [dch, Nat.mod_lt n (show 0 < 10 by decide)]
theorem prt_dec (n : Nat) (h : n < 9223372036854775808) : Lib.decDigits n = prt 10 n := prtF_dec 64 n (Nat.lt_of_lt_of_le h (by decide))
/-- The table of the powers of ten. -/
def Pow (w : World) : Prop := Lib.TabIs Tryd.prog w "internal/strconv.uint64pow10" .u64 Lib.pow10Tab
theorem gPow : Tryd.prog.globalNamed "internal/strconv.uint64pow10" = some 2 := by kernel_rfl
theorem Pow.below {w w' : World} (h : Pow w) (hb : Below w.heap.size w w') : Pow w' := by
  unfold Pow Lib.TabIs World.var? at h ⊢
  rw [gPow] at h ⊢
  simp only [Option.bind_some] at h ⊢
  cases ho : w.heap[2]? with
  | none => rw [ho] at h; cases h
  | some o =>
    have hlt := (Array.getElem?_eq_some_iff.1 ho).1
    rw [hb.block _ hlt]
    exact h
theorem itoa66 (n : Nat) (hn : n < 9223372036854775808) (w : World) (hw : Pow w) :
    Calls Tryd.prog 39 #[.int .i64 (n : Int)] w fun e w' => e = .returned (.string ⟨(prt 10 n).toArray⟩) ∧ Below w.heap.size w w' := by
  refine (Tryd.strconv_Itoa (n : Int) (by omega) (by omega) w hw).mono ?_
  rintro e w' ⟨rfl, k, os, rfl⟩
  refine ⟨?_, Lib.below_grow _ w (Nat.le_refl _) k os⟩
  rw [Lib.itoa_nonneg, prt_dec n hn]
set_option maxHeartbeats 1000000 in
theorem digits28 (n : Int) (hn : n < 9223372036854775808) (w : World) (hw : Pow w) :
    Calls Tryd.prog 38 #[.int .i64 n] w fun e w' => e = .returned (.string ⟨(prtI 10 n).toArray⟩) ∧ Below w.heap.size w w' := by
  unfold prtI
  by_cases h : 0 ≤ n
  · obtain ⟨U, rfl⟩ := Int.eq_ofNat_of_zero_le h
    have HF := Lib.hid (itoa66 U (by omega) w hw)
    rw [Int.toNat_natCast]
    have hm : max (U : Int) 0 = (U : Int) := by omega
    clear h
    go_enter Tryd.func38, Tryd.ntmps38
    go_wp2_with fail
    refine HF.out.mono ?_
    rintro e w1 ⟨rfl, hb⟩
    go_wp2_with fail
    go_ret
    exact ⟨rfl, hb⟩
  · have HF : Hid (Calls Tryd.prog 39 #[.int .i64 0] w fun e w' => e = .returned (.string ⟨(prt 10 0).toArray⟩) ∧ Below w.heap.size w w') := itoa66 0 (by omega) w hw
    have hm : max n 0 = 0 := by omega
    rw [show n.toNat = 0 by omega]
    generalize prt 10 0 = R at *
    clear h
    go_enter Tryd.func38, Tryd.ntmps38
    go_wp2_with fail
    refine HF.out.mono ?_
    rintro e w1 ⟨rfl, hb⟩
    go_wp2_with fail
    go_ret
    exact ⟨rfl, hb⟩

theorem few_any (b u U t : Nat) (hb : 2 ≤ b) (h1 : 1 ≤ u) (h : u * b ^ t ≤ U) (hU : U < 9223372036854775808) : t ≤ 62 := by
  rcases Nat.lt_or_ge t 63 with h2 | h2
  · omega
  · have h3 : 2 ^ 63 ≤ b ^ t := Nat.le_trans (Nat.pow_le_pow_left hb 63) (Nat.pow_le_pow_right (by omega) h2)
    have h4 : b ^ t ≤ u * b ^ t := Nat.le_mul_of_pos_left _ h1
    have h5 : (2 : Nat) ^ 63 = 9223372036854775808 := by decide
    omega
theorem dch_piece (k : Nat) (h : k < 16) : ((⟨#[48, 49, 50, 51, 52, 53, 54, 55, 56, 57, 97, 98, 99, 100, 101, 102]⟩ : ByteArray).extract k (k + 1)) = ⟨#[dch k]⟩ := by
  have : ∀ k : Fin 16, ((⟨#[48, 49, 50, 51, 52, 53, 54, 55, 56, 57, 97, 98, 99, 100, 101, 102]⟩ : ByteArray).extract k.val (k.val + 1)).data.toList = [dch k.val] := by
    intro k
    rw [extractL]
    revert k
    decide +kernel
  exact str_eq _ _ (this ⟨k, h⟩)
theorem cons_str (c : UInt8) (T : List UInt8) : (⟨#[c]⟩ : ByteArray) ++ (⟨T.toArray⟩ : ByteArray) = ⟨(c :: T).toArray⟩ := by
  apply ByteArray.ext
  simp
/-- How far the reference's loop is. -/
def PrtTo (b U u : Nat) (T : List UInt8) : Prop := (u = 0 ∧ prt b U = T) ∨ (0 < u ∧ ∃ k, k + T.length = 64 ∧ u * b ^ T.length ≤ U ∧ prt b U = prtF b k u ++ T)
theorem prtTo_step {b U u : Nat} {T : List UInt8} (hb : 2 ≤ b) (hU : U < 9223372036854775808) (hu : 0 < u) (h : PrtTo b U u T) : PrtTo b U (u / b) (dch (u % b) :: T) := by
  rcases h with ⟨h1, _⟩ | ⟨_, k, hk, hpw, hp⟩
  · omega
  · by_cases hub : u < b
    · left
      refine ⟨Nat.div_eq_of_lt hub, ?_⟩
      rw [hp, prtF_small b k u hub, Nat.mod_eq_of_lt hub]; rfl
    · have h1 : 1 ≤ u / b := (Nat.one_le_div_iff (by omega)).2 (by omega)
      have hpw2 : u / b * b ^ (T.length + 1) ≤ U := by
        have h2 : u / b * b ≤ u := Nat.div_mul_le_self u b
        have h3 := Nat.mul_le_mul_right (b ^ T.length) h2
        rw [Nat.pow_succ, Nat.mul_comm (b ^ T.length) b, ← Nat.mul_assoc]
        omega
      have ht := few_any b (u / b) U (T.length + 1) hb h1 hpw2 hU
      obtain ⟨k', rfl⟩ : ∃ k', k = k' + 1 := ⟨k - 1, by omega⟩
      right
      refine ⟨by omega, k', by simp; omega, by simpa using hpw2, ?_⟩
      rw [hp, prtF_step b k' u (by omega), List.append_assoc]; rfl

theorem dgt_dch (r : Nat) (h : r < 16) : dgt (dch r) = (r : Int) := by
  have : ∀ r : Fin 16, dgt (dch r.val) = (r.val : Int) := by decide +kernel
  exact this ⟨r, h⟩
theorem dch_dec (r : Nat) (h : r < 10) : isDec (dch r) = true := by
  have : ∀ r : Fin 10, isDec (dch r.val) = true := by decide +kernel
  exact this ⟨r, h⟩
theorem dch_hex (r : Nat) (h : r < 16) : isHex (dch r) = true := by
  have : ∀ r : Fin 16, isHex (dch r.val) = true := by decide +kernel
  exact this ⟨r, h⟩
theorem numD_prtF (b : Nat) (hb : 2 ≤ b) (hb2 : b ≤ 16) : ∀ (k n : Nat), n < b ^ (k + 1) → numD b (prtF b k n) = (n : Int)
  | 0, n, h => by
    have : n < b := by simpa using h
    simp [prtF, numD, dgt_dch n (by omega)]
  | k + 1, n, h => by
    by_cases hn : n < b
    · rw [prtF_small b _ n hn]; simp [numD, dgt_dch n (by omega)]
    · rw [prtF_step b k n (by omega), numD_snoc, numD_prtF b hb hb2 k (n / b) (by rw [Nat.div_lt_iff_lt_mul (by omega)]; rw [Nat.pow_succ] at h; exact h), dgt_dch _ (Nat.lt_of_lt_of_le (Nat.mod_lt n (by omega)) hb2)]
      have := Nat.div_add_mod n b
      have h2 : ((b * (n / b) + n % b : Nat) : Int) = (n : Int) := by rw [this]
      rw [← h2, Int.natCast_add, Int.natCast_mul]
theorem all_prtF (b : Nat) (p : UInt8 → Bool) (hb : 2 ≤ b) (hp : ∀ r, r < b → p (dch r) = true) : ∀ (k n : Nat), n < b ^ (k + 1) → (prtF b k n).all p = true
  | 0, n, h => by
    have : n < b := by simpa using h
    simp [prtF, hp n this]
  | k + 1, n, h => by
    by_cases hn : n < b
    · rw [prtF_small b _ n hn]; simp [hp n hn]
    · rw [prtF_step b k n (by omega), List.all_append, all_prtF b p hb hp k (n / b) (by rw [Nat.div_lt_iff_lt_mul (by omega)]; rw [Nat.pow_succ] at h; exact h)]
      simp [hp _ (Nat.mod_lt n (by omega))]
theorem prtF_pos (b : Nat) : ∀ (k n : Nat), 1 ≤ (prtF b k n).length
  | 0, n => by simp [prtF]
  | k + 1, n => by
    unfold prtF
    split
    · simp
    · simp
theorem numR_prt10 (m : Nat) (hm : m < 9223372036854775808) (h : (prt 10 m).length ≤ 10) : numR 10 10 isDec (prt 10 m) 4611686018427387904 = ((m : Int), 0) := by
  have hd := all_prtF 10 isDec (by decide) (fun r h => dch_dec r h) 64 m (Nat.lt_of_lt_of_le hm (by decide))
  have hv : numD ((10 : Nat) : Int) (prtF 10 64 m) = (m : Int) := numD_prtF 10 (by decide) (by decide) 64 m (Nat.lt_of_lt_of_le hm (by decide))
  have h1 := prtF_pos 10 64 m
  have hb := bound10 ⟨(prt 10 m).toArray⟩ (by rw [Lib.size_eq]; exact h) hd
  have hv2 : numD 10 (prt 10 m) = (m : Int) := hv
  have hb2 : numD 10 (prt 10 m) < 10000000000 := hb.2
  unfold numR
  rw [if_neg (by rintro (g | g | g); (· unfold prt at g; omega); (· omega); (· unfold prt at g; rw [hd] at g; cases g)), if_neg (by omega), hv2]
theorem numR_prt16 (m : Nat) (hm : m < 9223372036854775808) (h : (prt 16 m).length ≤ 8) : numR 16 8 isHex (prt 16 m) 4611686018427387904 = ((m : Int), 0) := by
  have hd := all_prtF 16 isHex (by decide) (fun r h => dch_hex r h) 64 m (Nat.lt_of_lt_of_le hm (by decide))
  have hv : numD ((16 : Nat) : Int) (prtF 16 64 m) = (m : Int) := numD_prtF 16 (by decide) (by decide) 64 m (Nat.lt_of_lt_of_le hm (by decide))
  have h1 := prtF_pos 16 64 m
  have hb := bound16 ⟨(prt 16 m).toArray⟩ (by rw [Lib.size_eq]; exact h) hd
  have hv2 : numD 16 (prt 16 m) = (m : Int) := hv
  have hb2 : numD 16 (prt 16 m) < 4294967296 := hb.2
  unfold numR
  rw [if_neg (by rintro (g | g | g); (· unfold prt at g; omega); (· omega); (· unfold prt at g; rw [hd] at g; cases g)), if_neg (by omega), hv2]
theorem prtF_len (b : Nat) : ∀ (k n : Nat), (prtF b k n).length ≤ k + 1
  | 0, n => by simp [prtF]
  | k + 1, n => by
    unfold prtF
    split
    · simp
    · have := prtF_len b k (n / b)
      simp; omega
end Go.Proofs.YtkajfocjpaemgaaDoor
