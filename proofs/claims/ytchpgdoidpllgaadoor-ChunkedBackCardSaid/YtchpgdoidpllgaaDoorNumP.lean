/- octet's Digits, the reference's Print, the walk of the statement OctetDigits. -/
import Derived.Test.YtchpgdoidpllgaaDoorLawOct
import Derived.Test.YtchpgdoidpllgaaDoorNumB
import Derived.Test.YtchpgdoidpllgaaDoorShelfC
import Derived.Lib.AppendIntMem
import Derived.IntWalk
namespace Go.Proofs.YtchpgdoidpllgaaDoor
open Go.RowKit

theorem prtF_dec : ∀ (k n : Nat), n < 10 ^ (k + 1) → Lib.decDigits n = prtF 10 k n
  | 0, n, h => by rw [Lib.decDigits_one (by omega)]; simp [prtF, dch, show n < 10 by omega]
  | k + 1, n, h => by
    by_cases h10 : n < 10
    · rw [Lib.decDigits_one h10, prtF_small 10 _ n h10]; simp [dch, h10]
    · rw [Lib.decDigits, dif_neg h10, prtF_step 10 k n (by omega), prtF_dec k (n / 10) (by rw [Nat.div_lt_iff_lt_mul (by decide)]; rw [Nat.pow_succ] at h; exact h)]
      simp [dch, Nat.mod_lt n (show 0 < 10 by decide)]
theorem prt_dec (n : Nat) (h : n < 9223372036854775808) : Lib.decDigits n = prt 10 n := prtF_dec 64 n (Nat.lt_of_lt_of_le h (by decide))
/-- The table of the powers of ten. -/
def Pow (w : World) : Prop := Lib.TabIs Tryd.prog w "internal/strconv.uint64pow10" .u64 Lib.pow10Tab
theorem gPow : Tryd.prog.globalNamed "internal/strconv.uint64pow10" = some 0 := by kernel_rfl
theorem Pow.below {w w' : World} (h : Pow w) (hb : Below w.heap.size w w') : Pow w' := by
  unfold Pow Lib.TabIs World.var? at h ⊢
  rw [gPow] at h ⊢
  simp only [Option.bind_some] at h ⊢
  cases ho : w.heap[0]? with
  | none => rw [ho] at h; cases h
  | some o =>
    have hlt := (Array.getElem?_eq_some_iff.1 ho).1
    rw [hb.block _ hlt]
    exact h
theorem itoa66 (n : Nat) (hn : n < 9223372036854775808) (w : World) (hw : Pow w) :
    Calls Tryd.prog 64 #[.int .i64 (n : Int)] w fun e w' => e = .returned (.string ⟨(prt 10 n).toArray⟩) ∧ Below w.heap.size w w' := by
  refine (Tryd.strconv_Itoa (n : Int) (by omega) (by omega) w hw).mono ?_
  rintro e w' ⟨rfl, k, os, rfl⟩
  refine ⟨?_, Lib.below_grow _ w (Nat.le_refl _) k os⟩
  rw [Lib.itoa_nonneg, prt_dec n hn]
theorem few_any (b u U t : Nat) (hb : 2 ≤ b) (h1 : 1 ≤ u) (h : u * b ^ t ≤ U) (hU : U < 9223372036854775808) : t ≤ 62 := by
  rcases Nat.lt_or_ge t 63 with h2 | h2
  · omega
  · have h3 : 2 ^ 63 ≤ b ^ t := Nat.le_trans (Nat.pow_le_pow_left hb 63) (Nat.pow_le_pow_right (by omega) h2)
    have h4 : b ^ t ≤ u * b ^ t := Nat.le_mul_of_pos_left _ h1
    have h5 : (2 : Nat) ^ 63 = 9223372036854775808 := by decide
    omega
theorem dch_piece (k : Nat) (h : k < 16) : ((⟨#[48, 49, 50, 51, 52, 53, 54, 55, 56, 57, 97, 98, 99, 100, 101, 102]⟩ : ByteArray).extract k (k + 1)) = ⟨#[dch k]⟩ := by
  have : ∀ k : Fin 16, ((⟨#[48, 49, 50, 51, 52, 53, 54, 55, 56, 57, 97, 98, 99, 100, 101, 102]⟩ : ByteArray).extract k.val (k.val + 1)).data.toList = [dch k.val] := by
    intro k
    rw [extractL]
    revert k
    decide +kernel
  exact str_eq _ _ (this ⟨k, h⟩)
theorem cons_str (c : UInt8) (T : List UInt8) : (⟨#[c]⟩ : ByteArray) ++ (⟨T.toArray⟩ : ByteArray) = ⟨(c :: T).toArray⟩ := by
  apply ByteArray.ext
  simp
/-- How far the reference's loop is. -/
def PrtTo (b U u : Nat) (T : List UInt8) : Prop := (u = 0 ∧ prt b U = T) ∨ (0 < u ∧ ∃ k, k + T.length = 64 ∧ u * b ^ T.length ≤ U ∧ prt b U = prtF b k u ++ T)
theorem prtTo_step {b U u : Nat} {T : List UInt8} (hb : 2 ≤ b) (hU : U < 9223372036854775808) (hu : 0 < u) (h : PrtTo b U u T) : PrtTo b U (u / b) (dch (u % b) :: T) := by
  rcases h with ⟨h1, _⟩ | ⟨_, k, hk, hpw, hp⟩
  · omega
  · by_cases hub : u < b
    · left
      refine ⟨Nat.div_eq_of_lt hub, ?_⟩
      rw [hp, prtF_small b k u hub, Nat.mod_eq_of_lt hub]; rfl
    · have h1 : 1 ≤ u / b := (Nat.one_le_div_iff (by omega)).2 (by omega)
      have hpw2 : u / b * b ^ (T.length + 1) ≤ U := by
        have h2 : u / b * b ≤ u := Nat.div_mul_le_self u b
        have h3 := Nat.mul_le_mul_right (b ^ T.length) h2
        rw [Nat.pow_succ, Nat.mul_comm (b ^ T.length) b, ← Nat.mul_assoc]
        omega
      have ht := few_any b (u / b) U (T.length + 1) hb h1 hpw2 hU
      obtain ⟨k', rfl⟩ : ∃ k', k = k' + 1 := ⟨k - 1, by omega⟩
      right
      refine ⟨by omega, k', by simp; omega, by simpa using hpw2, ?_⟩
      rw [hp, prtF_step b k' u (by omega), List.append_assoc]; rfl

set_option maxRecDepth 100000 in
set_option maxHeartbeats 2000000 in
theorem print10 (n : Int) (hn : n < 9223372036854775808) (w : World) :
    Calls Tryd.prog 23 #[.int .i64 n, .int .i64 10] w fun e w' => e = .returned (.string ⟨(prtI 10 n).toArray⟩) ∧ Below w.heap.size w w' := by
  unfold prtI
  by_cases h : n ≤ 0
  · rw [show n.toNat = 0 by omega, show (prt 10 0).toArray = #[48] by decide +kernel]
    go_enter Tryd.func23, Tryd.ntmps23
    go_wp2_with fail
    go_ret
    exact ⟨rfl, Below.refl _ _⟩
  · obtain ⟨U, rfl⟩ := Int.eq_ofNat_of_zero_le (show 0 ≤ n by omega)
    rw [Int.toNat_natCast]
    have hU : U < 9223372036854775808 := by omega
    have hU0 : 0 < U := by omega
    obtain ⟨R, hR⟩ : ∃ R : ByteArray, R = ⟨(prt 10 U).toArray⟩ := ⟨_, rfl⟩
    rw [← hR]
    have HR := Lib.hid hR
    clear hR hn
    go_enter Tryd.func23, Tryd.ntmps23
    go_wp2_with fail
    go_loopw [0, 5] (fun x s wr => ∃ (u : Nat) (T : List UInt8), x = .int .i64 (u : Int) ∧ s = .string ⟨T.toArray⟩ ∧ u < 9223372036854775808 ∧ Hid (PrtTo 10 U u T) ∧ Below w.heap.size w wr) (fun x _ _ => (intOf x).toNat)
    case atStart => exact ⟨U, [], rfl, rfl, hU, .inr ⟨hU0, 64, rfl, by simp, by simp [prt]⟩, Below.refl _ _⟩
    case round =>
      obtain ⟨u, T, rfl, rfl, hu, hp, hb⟩ := hrel
      by_cases h0 : 0 < u
      · have HP := Lib.hid (prtTo_step (by decide) hU h0 hp.out)
        have g0 : (u : Int) > 0 := by omega
        obtain ⟨r, hr⟩ : ∃ r, r = u % 10 := ⟨_, rfl⟩
        obtain ⟨v, hv⟩ : ∃ v, v = u / 10 := ⟨_, rfl⟩
        have hlt2 : v < u := by rw [hv]; exact Nat.div_lt_self h0 (by decide)
        have hr16 : r < 10 := by omega
        have e1 : (u : Int).tmod 10 = (r : Int) := by rw [Int.tmod_eq_emod_of_nonneg (by omega)]; omega
        have e2 : (u : Int).tdiv 10 = (v : Int) := by rw [Int.tdiv_eq_ediv_of_nonneg (by omega)]; omega
        have e3 : (u : Int) % 10 = (r : Int) := by omega
        have e4 : (u : Int) / 10 = (v : Int) := by omega
        rw [← hr, ← hv] at HP
        have m0 : (0 : Int) ≤ (r : Int) := by omega
        have m2 : (r : Int) ≤ (r : Int) + 1 := by omega
        have m3 : (r : Int) + 1 ≤ 16 := by omega
        have m4 : ((r : Int) + 1).toNat = r + 1 := by omega
        have m5 : IntKind.i64.wrap ((r : Int) + 1) = (r : Int) + 1 := IntWalk.i64_in _ (by omega)
        have hd := dch_piece r (by omega)
        have htl : T.length ≤ 64 := by
          rcases hp.out with ⟨h1, _⟩ | ⟨_, k, hk, _⟩
          · omega
          · omega
        have hadd : ∀ W : World, (Op.stringOp .add ⟨#[dch r]⟩ ⟨T.toArray⟩).run Tryd.prog W = .ok (.string ⟨(dch r :: T).toArray⟩) W := fun W => by
          rw [run_string_add_sum W _ _ (by rw [Lib.size_eq, Lib.size_eq]; simp; omega), cons_str]
        have HL := Lib.hid hlt2
        clear hr hv hlt2
        have hbn : ∀ n, Below w.heap.size w (wr.drewN n) := fun n => hb.trans ⟨rfl, rfl, rfl, Nat.le_refl _, fun _ _ => rfl⟩
        go_wp2_with fail
        go_quiet (fail)
        go_wp2_with fail
        go_roundw
        case rel => exact ⟨v, dch r :: T, rfl, rfl, by have := HL.out; omega, HP, hbn _⟩
        case measure => have := HL.out; simp [intOf]; omega
      · have hst : Hid (R = ⟨T.toArray⟩) := by
          rcases hp.out with ⟨_, h2⟩ | ⟨h1, _⟩
          · have h3 := HR.out
            rw [h2] at h3
            exact h3
          · omega
        have g0 : ¬ (u : Int) > 0 := by omega
        go_wp2_with fail
        go_ret
        exact ⟨by rw [hst.out]; rfl, hb⟩

set_option maxRecDepth 100000 in
set_option maxHeartbeats 2000000 in
theorem print16 (n : Int) (hn : n < 9223372036854775808) (w : World) :
    Calls Tryd.prog 23 #[.int .i64 n, .int .i64 16] w fun e w' => e = .returned (.string ⟨(prtI 16 n).toArray⟩) ∧ Below w.heap.size w w' := by
  unfold prtI
  by_cases h : n ≤ 0
  · rw [show n.toNat = 0 by omega, show (prt 16 0).toArray = #[48] by decide +kernel]
    go_enter Tryd.func23, Tryd.ntmps23
    go_wp2_with fail
    go_ret
    exact ⟨rfl, Below.refl _ _⟩
  · obtain ⟨U, rfl⟩ := Int.eq_ofNat_of_zero_le (show 0 ≤ n by omega)
    rw [Int.toNat_natCast]
    have hU : U < 9223372036854775808 := by omega
    have hU0 : 0 < U := by omega
    obtain ⟨R, hR⟩ : ∃ R : ByteArray, R = ⟨(prt 16 U).toArray⟩ := ⟨_, rfl⟩
    rw [← hR]
    have HR := Lib.hid hR
    clear hR hn
    go_enter Tryd.func23, Tryd.ntmps23
    go_wp2_with fail
    go_loopw [0, 5] (fun x s wr => ∃ (u : Nat) (T : List UInt8), x = .int .i64 (u : Int) ∧ s = .string ⟨T.toArray⟩ ∧ u < 9223372036854775808 ∧ Hid (PrtTo 16 U u T) ∧ Below w.heap.size w wr) (fun x _ _ => (intOf x).toNat)
    case atStart => exact ⟨U, [], rfl, rfl, hU, .inr ⟨hU0, 64, rfl, by simp, by simp [prt]⟩, Below.refl _ _⟩
    case round =>
      obtain ⟨u, T, rfl, rfl, hu, hp, hb⟩ := hrel
      by_cases h0 : 0 < u
      · have HP := Lib.hid (prtTo_step (by decide) hU h0 hp.out)
        have g0 : (u : Int) > 0 := by omega
        obtain ⟨r, hr⟩ : ∃ r, r = u % 16 := ⟨_, rfl⟩
        obtain ⟨v, hv⟩ : ∃ v, v = u / 16 := ⟨_, rfl⟩
        have hlt2 : v < u := by rw [hv]; exact Nat.div_lt_self h0 (by decide)
        have hr16 : r < 16 := by omega
        have e1 : (u : Int).tmod 16 = (r : Int) := by rw [Int.tmod_eq_emod_of_nonneg (by omega)]; omega
        have e2 : (u : Int).tdiv 16 = (v : Int) := by rw [Int.tdiv_eq_ediv_of_nonneg (by omega)]; omega
        have e3 : (u : Int) % 16 = (r : Int) := by omega
        have e4 : (u : Int) / 16 = (v : Int) := by omega
        rw [← hr, ← hv] at HP
        have m0 : (0 : Int) ≤ (r : Int) := by omega
        have m2 : (r : Int) ≤ (r : Int) + 1 := by omega
        have m3 : (r : Int) + 1 ≤ 16 := by omega
        have m4 : ((r : Int) + 1).toNat = r + 1 := by omega
        have m5 : IntKind.i64.wrap ((r : Int) + 1) = (r : Int) + 1 := IntWalk.i64_in _ (by omega)
        have hd := dch_piece r (by omega)
        have htl : T.length ≤ 64 := by
          rcases hp.out with ⟨h1, _⟩ | ⟨_, k, hk, _⟩
          · omega
          · omega
        have hadd : ∀ W : World, (Op.stringOp .add ⟨#[dch r]⟩ ⟨T.toArray⟩).run Tryd.prog W = .ok (.string ⟨(dch r :: T).toArray⟩) W := fun W => by
          rw [run_string_add_sum W _ _ (by rw [Lib.size_eq, Lib.size_eq]; simp; omega), cons_str]
        have HL := Lib.hid hlt2
        clear hr hv hlt2
        have hbn : ∀ n, Below w.heap.size w (wr.drewN n) := fun n => hb.trans ⟨rfl, rfl, rfl, Nat.le_refl _, fun _ _ => rfl⟩
        go_wp2_with fail
        go_quiet (fail)
        go_wp2_with fail
        go_roundw
        case rel => exact ⟨v, dch r :: T, rfl, rfl, by have := HL.out; omega, HP, hbn _⟩
        case measure => have := HL.out; simp [intOf]; omega
      · have hst : Hid (R = ⟨T.toArray⟩) := by
          rcases hp.out with ⟨_, h2⟩ | ⟨h1, _⟩
          · have h3 := HR.out
            rw [h2] at h3
            exact h3
          · omega
        have g0 : ¬ (u : Int) > 0 := by omega
        go_wp2_with fail
        go_ret
        exact ⟨by rw [hst.out]; rfl, hb⟩

theorem dgt_dch (r : Nat) (h : r < 16) : dgt (dch r) = (r : Int) := by
  have : ∀ r : Fin 16, dgt (dch r.val) = (r.val : Int) := by decide +kernel
  exact this ⟨r, h⟩
theorem dch_dec (r : Nat) (h : r < 10) : isDec (dch r) = true := by
  have : ∀ r : Fin 10, isDec (dch r.val) = true := by decide +kernel
  exact this ⟨r, h⟩
theorem dch_hex (r : Nat) (h : r < 16) : isHex (dch r) = true := by
  have : ∀ r : Fin 16, isHex (dch r.val) = true := by decide +kernel
  exact this ⟨r, h⟩
theorem numD_prtF (b : Nat) (hb : 2 ≤ b) (hb2 : b ≤ 16) : ∀ (k n : Nat), n < b ^ (k + 1) → numD b (prtF b k n) = (n : Int)
  | 0, n, h => by
    have : n < b := by simpa using h
    simp [prtF, numD, dgt_dch n (by omega)]
  | k + 1, n, h => by
    by_cases hn : n < b
    · rw [prtF_small b _ n hn]; simp [numD, dgt_dch n (by omega)]
    · rw [prtF_step b k n (by omega), numD_snoc, numD_prtF b hb hb2 k (n / b) (by rw [Nat.div_lt_iff_lt_mul (by omega)]; rw [Nat.pow_succ] at h; exact h), dgt_dch _ (Nat.lt_of_lt_of_le (Nat.mod_lt n (by omega)) hb2)]
      have := Nat.div_add_mod n b
      have h2 : ((b * (n / b) + n % b : Nat) : Int) = (n : Int) := by rw [this]
      rw [← h2, Int.natCast_add, Int.natCast_mul]
theorem all_prtF (b : Nat) (p : UInt8 → Bool) (hb : 2 ≤ b) (hp : ∀ r, r < b → p (dch r) = true) : ∀ (k n : Nat), n < b ^ (k + 1) → (prtF b k n).all p = true
  | 0, n, h => by
    have : n < b := by simpa using h
    simp [prtF, hp n this]
  | k + 1, n, h => by
    by_cases hn : n < b
    · rw [prtF_small b _ n hn]; simp [hp n hn]
    · rw [prtF_step b k n (by omega), List.all_append, all_prtF b p hb hp k (n / b) (by rw [Nat.div_lt_iff_lt_mul (by omega)]; rw [Nat.pow_succ] at h; exact h)]
      simp [hp _ (Nat.mod_lt n (by omega))]
theorem prtF_pos (b : Nat) : ∀ (k n : Nat), 1 ≤ (prtF b k n).length
  | 0, n => by simp [prtF]
  | k + 1, n => by
    unfold prtF
    split
    · simp
    · simp
theorem numR_prt10 (m : Nat) (hm : m < 9223372036854775808) (h : (prt 10 m).length ≤ 10) : numR 10 10 isDec (prt 10 m) 4611686018427387904 = ((m : Int), 0) := by
  have hd := all_prtF 10 isDec (by decide) (fun r h => dch_dec r h) 64 m (Nat.lt_of_lt_of_le hm (by decide))
  have hv : numD ((10 : Nat) : Int) (prtF 10 64 m) = (m : Int) := numD_prtF 10 (by decide) (by decide) 64 m (Nat.lt_of_lt_of_le hm (by decide))
  have h1 := prtF_pos 10 64 m
  have hb := bound10 ⟨(prt 10 m).toArray⟩ (by rw [Lib.size_eq]; exact h) hd
  have hv2 : numD 10 (prt 10 m) = (m : Int) := hv
  have hb2 : numD 10 (prt 10 m) < 10000000000 := hb.2
  unfold numR
  rw [if_neg (by rintro (g | g | g); (· unfold prt at g; omega); (· omega); (· unfold prt at g; rw [hd] at g; cases g)), if_neg (by omega), hv2]
theorem numR_prt16 (m : Nat) (hm : m < 9223372036854775808) (h : (prt 16 m).length ≤ 8) : numR 16 8 isHex (prt 16 m) 4611686018427387904 = ((m : Int), 0) := by
  have hd := all_prtF 16 isHex (by decide) (fun r h => dch_hex r h) 64 m (Nat.lt_of_lt_of_le hm (by decide))
  have hv : numD ((16 : Nat) : Int) (prtF 16 64 m) = (m : Int) := numD_prtF 16 (by decide) (by decide) 64 m (Nat.lt_of_lt_of_le hm (by decide))
  have h1 := prtF_pos 16 64 m
  have hb := bound16 ⟨(prt 16 m).toArray⟩ (by rw [Lib.size_eq]; exact h) hd
  have hv2 : numD 16 (prt 16 m) = (m : Int) := hv
  have hb2 : numD 16 (prt 16 m) < 4294967296 := hb.2
  unfold numR
  rw [if_neg (by rintro (g | g | g); (· unfold prt at g; omega); (· omega); (· unfold prt at g; rw [hd] at g; cases g)), if_neg (by omega), hv2]
theorem prtF_len (b : Nat) : ∀ (k n : Nat), (prtF b k n).length ≤ k + 1
  | 0, n => by simp [prtF]
  | k + 1, n => by
    unfold prtF
    split
    · simp
    · have := prtF_len b k (n / b)
      simp; omega
end Go.Proofs.YtchpgdoidpllgaaDoor
