/- octet's Digits, the reference's Print, the walk of the statement OctetDigits. -/
import Derived.Test.YtneagccakoakpaaDoorLawOct
import Derived.Test.YtneagccakoakpaaDoorNumB
import Derived.Test.YtneagccakoakpaaDoorShelfC
import Derived.Lib.AppendIntMem
import Derived.IntWalk
namespace Go.Proofs.YtneagccakoakpaaDoor
open Go.RowKit

theorem prtF_dec : ∀ (k n : Nat), n < 10 ^ (k + 1) → Lib.decDigits n = prtF 10 k n
  | 0, n, h => by rw [Lib.decDigits_one (by omega)]; simp [prtF, dch, show n < 10 by omega]
  | k + 1, n, h => by
    by_cases h10 : n < 10
    · rw [Lib.decDigits_one h10, prtF_small 10 _ n h10]; simp [dch, h10]
    · rw [Lib.decDigits, dif_neg h10, prtF_step 10 k n (by omega), prtF_dec k (n / 10) (by rw [Nat.div_lt_iff_lt_mul (by decide)]; rw [Nat.pow_succ] at h; exact h)]
      simp [dch, Nat.mod_lt n (show 0 < 10 by decide)]
theorem prt_dec (n : Nat) (h : n < 9223372036854775808) : Lib.decDigits n = prt 10 n := prtF_dec 64 n (Nat.lt_of_lt_of_le h (by decide))
/-- The table of the powers of ten. -/
def Pow (w : World) : Prop := Lib.TabIs Tryd.prog w "internal/strconv.uint64pow10" .u64 Lib.pow10Tab
theorem gPow : Tryd.prog.globalNamed "internal/strconv.uint64pow10" = some 0 := by kernel_rfl
theorem Pow.below {w w' : World} (h : Pow w) (hb : Below w.heap.size w w') : Pow w' := by
  unfold Pow Lib.TabIs World.var? at h ⊢
  rw [gPow] at h ⊢
  simp only [Option.bind_some] at h ⊢
  cases ho : w.heap[0]? with
  | none => rw [ho] at h; cases h
  | some o =>
    have hlt := (Array.getElem?_eq_some_iff.1 ho).1
    rw [hb.block _ hlt]
    exact h
theorem itoa66 (n : Nat) (hn : n < 9223372036854775808) (w : World) (hw : Pow w) :
    Calls Tryd.prog 66 #[.int .i64 (n : Int)] w fun e w' => e = .returned (.string ⟨(prt 10 n).toArray⟩) ∧ Below w.heap.size w w' := by
  refine (Tryd.strconv_Itoa (n : Int) (by omega) (by omega) w hw).mono ?_
  rintro e w' ⟨rfl, k, os, rfl⟩
  refine ⟨?_, Lib.below_grow _ w (Nat.le_refl _) k os⟩
  rw [Lib.itoa_nonneg, prt_dec n hn]
set_option maxHeartbeats 1000000 in
theorem digits28 (n : Int) (hn : n < 9223372036854775808) (w : World) (hw : Pow w) :
    Calls Tryd.prog 28 #[.int .i64 n] w fun e w' => e = .returned (.string ⟨(prtI 10 n).toArray⟩) ∧ Below w.heap.size w w' := by
  unfold prtI
  by_cases h : 0 ≤ n
  · obtain ⟨U, rfl⟩ := Int.eq_ofNat_of_zero_le h
    have HF := Lib.hid (itoa66 U (by omega) w hw)
    rw [Int.toNat_natCast]
    have hm : max (U : Int) 0 = (U : Int) := by omega
    clear h
    go_enter Tryd.func28, Tryd.ntmps28
    go_wp2_with fail
    refine HF.out.mono ?_
    rintro e w1 ⟨rfl, hb⟩
    go_wp2_with fail
    go_ret
    exact ⟨rfl, hb⟩
  · have HF : Hid (Calls Tryd.prog 66 #[.int .i64 0] w fun e w' => e = .returned (.string ⟨(prt 10 0).toArray⟩) ∧ Below w.heap.size w w') := itoa66 0 (by omega) w hw
    have hm : max n 0 = 0 := by omega
    rw [show n.toNat = 0 by omega]
    generalize prt 10 0 = R at *
    clear h
    go_enter Tryd.func28, Tryd.ntmps28
    go_wp2_with fail
    refine HF.out.mono ?_
    rintro e w1 ⟨rfl, hb⟩
    go_wp2_with fail
    go_ret
    exact ⟨rfl, hb⟩

theorem few_any (b u U t : Nat) (hb : 2 ≤ b) (h1 : 1 ≤ u) (h : u * b ^ t ≤ U) (hU : U < 9223372036854775808) : t ≤ 62 := by
  rcases Nat.lt_or_ge t 63 with h2 | h2
  · omega
  · have h3 : 2 ^ 63 ≤ b ^ t := Nat.le_trans (Nat.pow_le_pow_left hb 63) (Nat.pow_le_pow_right (by omega) h2)
    have h4 : b ^ t ≤ u * b ^ t := Nat.le_mul_of_pos_left _ h1
    have h5 : (2 : Nat) ^ 63 = 9223372036854775808 := by decide
    omega
theorem dch_piece (k : Nat) (h : k < 16) : ((⟨#[48, 49, 50, 51, 52, 53, 54, 55, 56, 57, 97, 98, 99, 100, 101, 102]⟩ : ByteArray).extract k (k + 1)) = ⟨#[dch k]⟩ := by
  have : ∀ k : Fin 16, ((⟨#[48, 49, 50, 51, 52, 53, 54, 55, 56, 57, 97, 98, 99, 100, 101, 102]⟩ : ByteArray).extract k.val (k.val + 1)).data.toList = [dch k.val] := by
    intro k
    rw [extractL]
    revert k
    decide +kernel
  exact str_eq _ _ (this ⟨k, h⟩)
theorem cons_str (c : UInt8) (T : List UInt8) : (⟨#[c]⟩ : ByteArray) ++ (⟨T.toArray⟩ : ByteArray) = ⟨(c :: T).toArray⟩ := by
  apply ByteArray.ext
  simp
/-- How far the reference's loop is. -/
def PrtTo (b U u : Nat) (T : List UInt8) : Prop := (u = 0 ∧ prt b U = T) ∨ (0 < u ∧ ∃ k, k + T.length = 64 ∧ u * b ^ T.length ≤ U ∧ prt b U = prtF b k u ++ T)
theorem prtTo_step {b U u : Nat} {T : List UInt8} (hb : 2 ≤ b) (hU : U < 9223372036854775808) (hu : 0 < u) (h : PrtTo b U u T) : PrtTo b U (u / b) (dch (u % b) :: T) := by
  rcases h with ⟨h1, _⟩ | ⟨_, k, hk, hpw, hp⟩
  · omega
  · by_cases hub : u < b
    · left
      refine ⟨Nat.div_eq_of_lt hub, ?_⟩
      rw [hp, prtF_small b k u hub, Nat.mod_eq_of_lt hub]; rfl
    · have h1 : 1 ≤ u / b := (Nat.one_le_div_iff (by omega)).2 (by omega)
      have hpw2 : u / b * b ^ (T.length + 1) ≤ U := by
        have h2 : u / b * b ≤ u := Nat.div_mul_le_self u b
        have h3 := Nat.mul_le_mul_right (b ^ T.length) h2
        rw [Nat.pow_succ, Nat.mul_comm (b ^ T.length) b, ← Nat.mul_assoc]
        omega
      have ht := few_any b (u / b) U (T.length + 1) hb h1 hpw2 hU
      obtain ⟨k', rfl⟩ : ∃ k', k = k' + 1 := ⟨k - 1, by omega⟩
      right
      refine ⟨by omega, k', by simp; omega, by simpa using hpw2, ?_⟩
      rw [hp, prtF_step b k' u (by omega), List.append_assoc]; rfl

set_option maxRecDepth 100000 in
set_option maxHeartbeats 2000000 in
theorem print10 (n : Int) (hn : n < 9223372036854775808) (w : World) :
    Calls Tryd.prog 30 #[.int .i64 n, .int .i64 10] w fun e w' => e = .returned (.string ⟨(prtI 10 n).toArray⟩) ∧ Below w.heap.size w w' := by
  unfold prtI
  by_cases h : n ≤ 0
  · rw [show n.toNat = 0 by omega, show (prt 10 0).toArray = #[48] by decide +kernel]
    go_enter Tryd.func30, Tryd.ntmps30
    go_wp2_with fail
    go_ret
    exact ⟨rfl, Below.refl _ _⟩
  · obtain ⟨U, rfl⟩ := Int.eq_ofNat_of_zero_le (show 0 ≤ n by omega)
    rw [Int.toNat_natCast]
    have hU : U < 9223372036854775808 := by omega
    have hU0 : 0 < U := by omega
    obtain ⟨R, hR⟩ : ∃ R : ByteArray, R = ⟨(prt 10 U).toArray⟩ := ⟨_, rfl⟩
    rw [← hR]
    have HR := Lib.hid hR
    clear hR hn
    go_enter Tryd.func30, Tryd.ntmps30
    go_wp2_with fail
    go_loopw [0, 5] (fun x s wr => ∃ (u : Nat) (T : List UInt8), x = .int .i64 (u : Int) ∧ s = .string ⟨T.toArray⟩ ∧ u < 9223372036854775808 ∧ Hid (PrtTo 10 U u T) ∧ Below w.heap.size w wr) (fun x _ _ => (intOf x).toNat)
    case atStart => exact ⟨U, [], rfl, rfl, hU, .inr ⟨hU0, 64, rfl, by simp, by simp [prt]⟩, Below.refl _ _⟩
    case round =>
      obtain ⟨u, T, rfl, rfl, hu, hp, hb⟩ := hrel
      by_cases h0 : 0 < u
      · have HP := Lib.hid (prtTo_step (by decide) hU h0 hp.out)
        have g0 : (u : Int) > 0 := by omega
        obtain ⟨r, hr⟩ : ∃ r, r = u % 10 := ⟨_, rfl⟩
        obtain ⟨v, hv⟩ : ∃ v, v = u / 10 := ⟨_, rfl⟩
        have hlt2 : v < u := by rw [hv]; exact Nat.div_lt_self h0 (by decide)
        have hr16 : r < 10 := by omega
        have e1 : (u : Int).tmod 10 = (r : Int) := by rw [Int.tmod_eq_emod_of_nonneg (by omega)]; omega
        have e2 : (u : Int).tdiv 10 = (v : Int) := by rw [Int.tdiv_eq_ediv_of_nonneg (by omega)]; omega
        have e3 : (u : Int) % 10 = (r : Int) := by omega
        have e4 : (u : Int) / 10 = (v : Int) := by omega
        rw [← hr, ← hv] at HP
        have m0 : (0 : Int) ≤ (r : Int) := by omega
        have m2 : (r : Int) ≤ (r : Int) + 1 := by omega
        have m3 : (r : Int) + 1 ≤ 16 := by omega
        have m4 : ((r : Int) + 1).toNat = r + 1 := by omega
        have m5 : IntKind.i64.wrap ((r : Int) + 1) = (r : Int) + 1 := IntWalk.i64_in _ (by omega)
        have hd := dch_piece r (by omega)
        have htl : T.length ≤ 64 := by
          rcases hp.out with ⟨h1, _⟩ | ⟨_, k, hk, _⟩
          · omega
          · omega
        have hadd : ∀ W : World, (Op.stringOp .add ⟨#[dch r]⟩ ⟨T.toArray⟩).run Tryd.prog W = .ok (.string ⟨(dch r :: T).toArray⟩) W := fun W => by
          rw [run_string_add_sum W _ _ (by rw [Lib.size_eq, Lib.size_eq]; simp; omega), cons_str]
        have HL := Lib.hid hlt2
        clear hr hv hlt2
        have hbn : ∀ n, Below w.heap.size w (wr.drewN n) := fun n => hb.trans ⟨rfl, rfl, rfl, Nat.le_refl _, fun _ _ => rfl⟩
        go_wp2_with fail
        go_quiet (fail)
        go_wp2_with fail
        go_roundw
        case rel => exact ⟨v, dch r :: T, rfl, rfl, by have := HL.out; omega, HP, hbn _⟩
        case measure => have := HL.out; simp [intOf]; omega
      · have hst : Hid (R = ⟨T.toArray⟩) := by
          rcases hp.out with ⟨_, h2⟩ | ⟨h1, _⟩
          · have h3 := HR.out
            rw [h2] at h3
            exact h3
          · omega
        have g0 : ¬ (u : Int) > 0 := by omega
        go_wp2_with fail
        go_ret
        exact ⟨by rw [hst.out]; rfl, hb⟩

set_option maxRecDepth 100000 in
set_option maxHeartbeats 2000000 in
theorem print16 (n : Int) (hn : n < 9223372036854775808) (w : World) :
    Calls Tryd.prog 30 #[.int .i64 n, .int .i64 16] w fun e w' => e = .returned (.string ⟨(prtI 16 n).toArray⟩) ∧ Below w.heap.size w w' := by
  unfold prtI
  by_cases h : n ≤ 0
  · rw [show n.toNat = 0 by omega, show (prt 16 0).toArray = #[48] by decide +kernel]
    go_enter Tryd.func30, Tryd.ntmps30
    go_wp2_with fail
    go_ret
    exact ⟨rfl, Below.refl _ _⟩
  · obtain ⟨U, rfl⟩ := Int.eq_ofNat_of_zero_le (show 0 ≤ n by omega)
    rw [Int.toNat_natCast]
    have hU : U < 9223372036854775808 := by omega
    have hU0 : 0 < U := by omega
    obtain ⟨R, hR⟩ : ∃ R : ByteArray, R = ⟨(prt 16 U).toArray⟩ := ⟨_, rfl⟩
    rw [← hR]
    have HR := Lib.hid hR
    clear hR hn
    go_enter Tryd.func30, Tryd.ntmps30
    go_wp2_with fail
    go_loopw [0, 5] (fun x s wr => ∃ (u : Nat) (T : List UInt8), x = .int .i64 (u : Int) ∧ s = .string ⟨T.toArray⟩ ∧ u < 9223372036854775808 ∧ Hid (PrtTo 16 U u T) ∧ Below w.heap.size w wr) (fun x _ _ => (intOf x).toNat)
    case atStart => exact ⟨U, [], rfl, rfl, hU, .inr ⟨hU0, 64, rfl, by simp, by simp [prt]⟩, Below.refl _ _⟩
    case round =>
      obtain ⟨u, T, rfl, rfl, hu, hp, hb⟩ := hrel
      by_cases h0 : 0 < u
      · have HP := Lib.hid (prtTo_step (by decide) hU h0 hp.out)
        have g0 : (u : Int) > 0 := by omega
        obtain ⟨r, hr⟩ : ∃ r, r = u % 16 := ⟨_, rfl⟩
        obtain ⟨v, hv⟩ : ∃ v, v = u / 16 := ⟨_, rfl⟩
        have hlt2 : v < u := by rw [hv]; exact Nat.div_lt_self h0 (by decide)
        have hr16 : r < 16 := by omega
        have e1 : (u : Int).tmod 16 = (r : Int) := by rw [Int.tmod_eq_emod_of_nonneg (by omega)]; omega
        have e2 : (u : Int).tdiv 16 = (v : Int) := by rw [Int.tdiv_eq_ediv_of_nonneg (by omega)]; omega
        have e3 : (u : Int) % 16 = (r : Int) := by omega
        have e4 : (u : Int) / 16 = (v : Int) := by omega
        rw [← hr, ← hv] at HP
        have m0 : (0 : Int) ≤ (r : Int) := by omega
        have m2 : (r : Int) ≤ (r : Int) + 1 := by omega
        have m3 : (r : Int) + 1 ≤ 16 := by omega
        have m4 : ((r : Int) + 1).toNat = r + 1 := by omega
        have m5 : IntKind.i64.wrap ((r : Int) + 1) = (r : Int) + 1 := IntWalk.i64_in _ (by omega)
        have hd := dch_piece r (by omega)
        have htl : T.length ≤ 64 := by
          rcases hp.out with ⟨h1, _⟩ | ⟨_, k, hk, _⟩
          · omega
          · omega
        have hadd : ∀ W : World, (Op.stringOp .add ⟨#[dch r]⟩ ⟨T.toArray⟩).run Tryd.prog W = .ok (.string ⟨(dch r :: T).toArray⟩) W := fun W => by
          rw [run_string_add_sum W _ _ (by rw [Lib.size_eq, Lib.size_eq]; simp; omega), cons_str]
        have HL := Lib.hid hlt2
        clear hr hv hlt2
        have hbn : ∀ n, Below w.heap.size w (wr.drewN n) := fun n => hb.trans ⟨rfl, rfl, rfl, Nat.le_refl _, fun _ _ => rfl⟩
        go_wp2_with fail
        go_quiet (fail)
        go_wp2_with fail
        go_roundw
        case rel => exact ⟨v, dch r :: T, rfl, rfl, by have := HL.out; omega, HP, hbn _⟩
        case measure => have := HL.out; simp [intOf]; omega
      · have hst : Hid (R = ⟨T.toArray⟩) := by
          rcases hp.out with ⟨_, h2⟩ | ⟨h1, _⟩
          · have h3 := HR.out
            rw [h2] at h3
            exact h3
          · omega
        have g0 : ¬ (u : Int) > 0 := by omega
        go_wp2_with fail
        go_ret
        exact ⟨by rw [hst.out]; rfl, hb⟩

theorem dgt_dch (r : Nat) (h : r < 16) : dgt (dch r) = (r : Int) := by
  have : ∀ r : Fin 16, dgt (dch r.val) = (r.val : Int) := by decide +kernel
  exact this ⟨r, h⟩
theorem dch_dec (r : Nat) (h : r < 10) : isDec (dch r) = true := by
  have : ∀ r : Fin 10, isDec (dch r.val) = true := by decide +kernel
  exact this ⟨r, h⟩
theorem dch_hex (r : Nat) (h : r < 16) : isHex (dch r) = true := by
  have : ∀ r : Fin 16, isHex (dch r.val) = true := by decide +kernel
  exact this ⟨r, h⟩
theorem numD_prtF (b : Nat) (hb : 2 ≤ b) (hb2 : b ≤ 16) : ∀ (k n : Nat), n < b ^ (k + 1) → numD b (prtF b k n) = (n : Int)
  | 0, n, h => by
    have : n < b := by simpa using h
    simp [prtF, numD, dgt_dch n (by omega)]
  | k + 1, n, h => by
    by_cases hn : n < b
    · rw [prtF_small b _ n hn]; simp [numD, dgt_dch n (by omega)]
    · rw [prtF_step b k n (by omega), numD_snoc, numD_prtF b hb hb2 k (n / b) (by rw [Nat.div_lt_iff_lt_mul (by omega)]; rw [Nat.pow_succ] at h; exact h), dgt_dch _ (Nat.lt_of_lt_of_le (Nat.mod_lt n (by omega)) hb2)]
      have := Nat.div_add_mod n b
      have h2 : ((b * (n / b) + n % b : Nat) : Int) = (n : Int) := by rw [this]
      rw [← h2, Int.natCast_add, Int.natCast_mul]
theorem all_prtF (b : Nat) (p : UInt8 → Bool) (hb : 2 ≤ b) (hp : ∀ r, r < b → p (dch r) = true) : ∀ (k n : Nat), n < b ^ (k + 1) → (prtF b k n).all p = true
  | 0, n, h => by
    have : n < b := by simpa using h
    simp [prtF, hp n this]
  | k + 1, n, h => by
    by_cases hn : n < b
    · rw [prtF_small b _ n hn]; simp [hp n hn]
    · rw [prtF_step b k n (by omega), List.all_append, all_prtF b p hb hp k (n / b) (by rw [Nat.div_lt_iff_lt_mul (by omega)]; rw [Nat.pow_succ] at h; exact h)]
      simp [hp _ (Nat.mod_lt n (by omega))]
theorem prtF_pos (b : Nat) : ∀ (k n : Nat), 1 ≤ (prtF b k n).length
  | 0, n => by simp [prtF]
  | k + 1, n => by
    unfold prtF
    split
    · simp
    · simp
theorem numR_prt10 (m : Nat) (hm : m < 9223372036854775808) (h : (prt 10 m).length ≤ 10) : numR 10 10 isDec (prt 10 m) 4611686018427387904 = ((m : Int), 0) := by
  have hd := all_prtF 10 isDec (by decide) (fun r h => dch_dec r h) 64 m (Nat.lt_of_lt_of_le hm (by decide))
  have hv : numD ((10 : Nat) : Int) (prtF 10 64 m) = (m : Int) := numD_prtF 10 (by decide) (by decide) 64 m (Nat.lt_of_lt_of_le hm (by decide))
  have h1 := prtF_pos 10 64 m
  have hb := bound10 ⟨(prt 10 m).toArray⟩ (by rw [Lib.size_eq]; exact h) hd
  have hv2 : numD 10 (prt 10 m) = (m : Int) := hv
  have hb2 : numD 10 (prt 10 m) < 10000000000 := hb.2
  unfold numR
  rw [if_neg (by rintro (g | g | g); (· unfold prt at g; omega); (· omega); (· unfold prt at g; rw [hd] at g; cases g)), if_neg (by omega), hv2]
theorem numR_prt16 (m : Nat) (hm : m < 9223372036854775808) (h : (prt 16 m).length ≤ 8) : numR 16 8 isHex (prt 16 m) 4611686018427387904 = ((m : Int), 0) := by
  have hd := all_prtF 16 isHex (by decide) (fun r h => dch_hex r h) 64 m (Nat.lt_of_lt_of_le hm (by decide))
  have hv : numD ((16 : Nat) : Int) (prtF 16 64 m) = (m : Int) := numD_prtF 16 (by decide) (by decide) 64 m (Nat.lt_of_lt_of_le hm (by decide))
  have h1 := prtF_pos 16 64 m
  have hb := bound16 ⟨(prt 16 m).toArray⟩ (by rw [Lib.size_eq]; exact h) hd
  have hv2 : numD 16 (prt 16 m) = (m : Int) := hv
  have hb2 : numD 16 (prt 16 m) < 4294967296 := hb.2
  unfold numR
  rw [if_neg (by rintro (g | g | g); (· unfold prt at g; omega); (· omega); (· unfold prt at g; rw [hd] at g; cases g)), if_neg (by omega), hv2]
theorem prtF_len (b : Nat) : ∀ (k n : Nat), (prtF b k n).length ≤ k + 1
  | 0, n => by simp [prtF]
  | k + 1, n => by
    unfold prtF
    split
    · simp
    · have := prtF_len b k (n / b)
      simp; omega
set_option maxRecDepth 100000 in
set_option maxHeartbeats 4000000 in
theorem lawOctetDigits (n : Int) (hn : n < 9223372036854775808) (w : World) (hw : Laid5 w) (hp : Pow w) :
    Calls Tryd.prog 6 #[.int .i64 n] w fun e w' => e = .returned (.bool true) ∧ Below w.heap.size w w' := by
  obtain ⟨m, hm⟩ : ∃ m, m = n.toNat := ⟨_, rfl⟩
  have hm63 : m < 9223372036854775808 := by omega
  have hmax : max 0 n = (m : Int) := by omega
  obtain ⟨S, hS⟩ : ∃ S : ByteArray, S = ⟨(prtI 10 n).toArray⟩ := ⟨_, rfl⟩
  obtain ⟨T, hT⟩ : ∃ T : ByteArray, T = ⟨(prtI 16 n).toArray⟩ := ⟨_, rfl⟩
  have F1 := Lib.hid (fun W hW => digits28 n hn W hW)
  have F2 := Lib.hid (fun W hW => hexdigits29 n hn W hW)
  have F3 := Lib.hid (fun W => print10 n hn W)
  have F4 := Lib.hid (fun W => print16 n hn W)
  rw [← hS] at F1 F3
  rw [← hT] at F2 F4
  have lS : S.size = (prt 10 m).length := by rw [hS, Lib.size_eq, hm]; rfl
  have lT : T.size = (prt 16 m).length := by rw [hT, Lib.size_eq, hm]; rfl
  have zS : S.size ≤ 65 := by rw [lS]; exact prtF_len 10 64 m
  have zT : T.size ≤ 65 := by rw [lT]; exact prtF_len 16 64 m
  obtain ⟨⟨x, e⟩, hx⟩ : ∃ r : Int × Int, numR 10 10 isDec S.data.toList 4611686018427387904 = r := ⟨_, rfl⟩
  obtain ⟨⟨y, f⟩, hy⟩ : ∃ r : Int × Int, numR 16 8 isHex T.data.toList 4611686018427387904 = r := ⟨_, rfl⟩
  have D1 : Hid (∀ W, Syn W → Calls Tryd.prog 25 #[.string S, .int .i64 4611686018427387904] W fun z w' => z = .returned (.tuple #[.int .i64 x, .int .i64 e]) ∧ Below W.heap.size W w') := fun W hW => by
    have := dec_any S (by omega) 4611686018427387904 W hW
    rw [hx] at this
    exact this
  have D2 : Hid (∀ W, Syn W → Calls Tryd.prog 26 #[.string T, .int .i64 4611686018427387904] W fun z w' => z = .returned (.tuple #[.int .i64 y, .int .i64 f]) ∧ Below W.heap.size W w') := fun W hW => by
    have := hex_any T (by omega) 4611686018427387904 W hW
    rw [hy] at this
    exact this
  have C1 : (S.size : Int) > 10 ∨ (¬ (S.size : Int) > 10 ∧ x = (m : Int) ∧ e = 0) := by
    by_cases h : S.size ≤ 10
    · right
      have h2 : S.data.toList = prt 10 m := by rw [hS, hm]; rfl
      rw [h2, numR_prt10 m hm63 (by omega)] at hx
      injection hx with e1 e2
      exact ⟨by omega, e1.symm, e2.symm⟩
    · left; omega
  have C2 : (T.size : Int) > 8 ∨ (¬ (T.size : Int) > 8 ∧ y = (m : Int) ∧ f = 0) := by
    by_cases h : T.size ≤ 8
    · right
      have h2 : T.data.toList = prt 16 m := by rw [hT, hm]; rfl
      rw [h2, numR_prt16 m hm63 (by omega)] at hy
      injection hy with e1 e2
      exact ⟨by omega, e1.symm, e2.symm⟩
    · left; omega
  have eS := self_eq S
  have eT := self_eq T
  have eS2 : (S.toList != S.toList) = false := by rw [bne, eS]; rfl
  have eT2 : (T.toList != T.toList) = false := by rw [bne, eT]; rfl
  have em : ((m : Int) == (m : Int)) = true := by simp
  have HW := Lib.hid hw
  have HP := Lib.hid hp
  clear hS hT hx hy lS lT hw hp hm
  go_enter Tryd.func6, Tryd.ntmps6
  go_wp2_with fail
  refine (awake12 w HW.out).mono ?_
  rintro z w1 ⟨rfl, hb1⟩
  have W1 : Hid (Laid5 w1) := HW.out.below hb1
  have P1 : Hid (Pow w1) := HP.out.below hb1
  clear HW HP
  go_wp2_with fail
  refine (F1.out w1 P1.out).mono ?_
  rintro z w2 ⟨rfl, hb2⟩
  have W2 : Hid (Laid5 w2) := W1.out.below hb2
  have b2 := hb1.trans (hb2.mono hb1.size)
  clear F1 W1 P1 hb1 hb2
  go_wp2_with fail
  refine (F2.out w2 W2.out.2.1).mono ?_
  rintro z w3 ⟨rfl, hb3⟩
  have W3 : Hid (Laid5 w3) := W2.out.below hb3
  have b3 := b2.trans (hb3.mono b2.size)
  clear F2 W2 b2 hb3
  go_wp2_with fail
  refine (F3.out w3).mono ?_
  rintro z w4 ⟨rfl, hb4⟩
  have W4 : Hid (Laid5 w4) := W3.out.below hb4
  have b4 := b3.trans (hb4.mono b3.size)
  clear F3 W3 b3 hb4
  go_wp2_with fail
  refine (F4.out w4).mono ?_
  rintro z w5 ⟨rfl, hb5⟩
  have W5 : Hid (Laid5 w5) := W4.out.below hb5
  have b5 := b4.trans (hb5.mono b4.size)
  clear F4 W4 b4 hb5
  go_wp2_with fail
  refine (D1.out w5 W5.out.1).mono ?_
  rintro z w6 ⟨rfl, hb6⟩
  have W6 : Hid (Laid5 w6) := W5.out.below hb6
  have b6 := b5.trans (hb6.mono b5.size)
  clear D1 W5 b5 hb6
  go_wp2_with fail
  refine (D2.out w6 W6.out.1).mono ?_
  rintro z w7 ⟨rfl, hb7⟩
  have b7 := b6.trans (hb7.mono b6.size)
  clear D2 W6 b6 hb7
  rcases C1 with c1 | ⟨c1, rfl, rfl⟩ <;> rcases C2 with c2 | ⟨c2, rfl, rfl⟩
  all_goals
    go_wp2_with fail
    go_ret
    exact ⟨rfl, b7⟩
end Go.Proofs.YtneagccakoakpaaDoor
