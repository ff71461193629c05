/- Packed: NumP, TabsP, FldA, FldB, StM, StA, StB, NumR. -/
import Derived.Lib.AppendIntMem
import Derived.IntWalk
import Derived.Test.YtbbphklhnngjmaaGreatDoorS02
import Derived.Test.YtbbphklhnngjmaaGreatDoorS05
import Derived.Test.YtbbphklhnngjmaaGreatDoorShelfC
/- octet's Digits, the reference's Print, the walk of the statement OctetDigits. -/
namespace Go.Proofs.YtbbphklhnngjmaaGreatDoor
open Go.RowKit

theorem prtF_dec : ∀ (k n : Nat), n < 10 ^ (k + 1) → Lib.decDigits n = prtF 10 k n
  | 0, n, h => by rw [Lib.decDigits_one (by omega)]; simp [prtF, dch, show n < 10 by omega]
  | k + 1, n, h => by
    by_cases h10 : n < 10
    · rw [Lib.decDigits_one h10, prtF_small 10 _ n h10]; simp [dch, h10]
    · rw [Lib.decDigits, dif_neg h10, prtF_step 10 k n (by omega), prtF_dec k (n / 10) (by rw [Nat.div_lt_iff_lt_mul (by decide)]; rw [Nat.pow_succ] at h; exact h)]
      simp [dch, Nat.mod_lt n (show 0 < 10 by decide)]
theorem prt_dec (n : Nat) (h : n < 9223372036854775808) : Lib.decDigits n = prt 10 n := prtF_dec 64 n (Nat.lt_of_lt_of_le h (by decide))
/-- The table of the powers of ten. -/
def Pow (w : World) : Prop := Lib.TabIs Tryz.prog w "internal/strconv.uint64pow10" .u64 Lib.pow10Tab
theorem gPow : Tryz.prog.globalNamed "internal/strconv.uint64pow10" = some 2 := by kernel_rfl
theorem Pow.below {w w' : World} (h : Pow w) (hb : Below w.heap.size w w') : Pow w' := by
  unfold Pow Lib.TabIs World.var? at h ⊢
  rw [gPow] at h ⊢
  simp only [Option.bind_some] at h ⊢
  cases ho : w.heap[2]? with
  | none => rw [ho] at h; cases h
  | some o =>
    have hlt := (Array.getElem?_eq_some_iff.1 ho).1
    rw [hb.block _ hlt]
    exact h
theorem itoa66 (n : Nat) (hn : n < 9223372036854775808) (w : World) (hw : Pow w) :
    Calls Tryz.prog 77 #[.int .i64 (n : Int)] w fun e w' => e = .returned (.string ⟨(prt 10 n).toArray⟩) ∧ Below w.heap.size w w' := by
  refine (Tryz.strconv_Itoa (n : Int) (by omega) (by omega) w hw).mono ?_
  rintro e w' ⟨rfl, k, os, rfl⟩
  refine ⟨?_, Lib.below_grow _ w (Nat.le_refl _) k os⟩
  rw [Lib.itoa_nonneg, prt_dec n hn]
set_option maxHeartbeats 1000000 in
theorem digits28 (n : Int) (hn : n < 9223372036854775808) (w : World) (hw : Pow w) :
    Calls Tryz.prog 73 #[.int .i64 n] w fun e w' => e = .returned (.string ⟨(prtI 10 n).toArray⟩) ∧ Below w.heap.size w w' := by
  unfold prtI
  by_cases h : 0 ≤ n
  · obtain ⟨U, rfl⟩ := Int.eq_ofNat_of_zero_le h
    have HF := Lib.hid (itoa66 U (by omega) w hw)
    rw [Int.toNat_natCast]
    have hm : max (U : Int) 0 = (U : Int) := by omega
    clear h
    go_enter Tryz.func73, Tryz.ntmps73
    go_wp2_with fail
    refine HF.out.mono ?_
    rintro e w1 ⟨rfl, hb⟩
    go_wp2_with fail
    go_ret
    exact ⟨rfl, hb⟩
  · have HF : Hid (Calls Tryz.prog 77 #[.int .i64 0] w fun e w' => e = .returned (.string ⟨(prt 10 0).toArray⟩) ∧ Below w.heap.size w w') := itoa66 0 (by omega) w hw
    have hm : max n 0 = 0 := by omega
    rw [show n.toNat = 0 by omega]
    generalize prt 10 0 = R at *
    clear h
    go_enter Tryz.func73, Tryz.ntmps73
    go_wp2_with fail
    refine HF.out.mono ?_
    rintro e w1 ⟨rfl, hb⟩
    go_wp2_with fail
    go_ret
    exact ⟨rfl, hb⟩

theorem few_any (b u U t : Nat) (hb : 2 ≤ b) (h1 : 1 ≤ u) (h : u * b ^ t ≤ U) (hU : U < 9223372036854775808) : t ≤ 62 := by
  rcases Nat.lt_or_ge t 63 with h2 | h2
  · omega
  · have h3 : 2 ^ 63 ≤ b ^ t := Nat.le_trans (Nat.pow_le_pow_left hb 63) (Nat.pow_le_pow_right (by omega) h2)
    have h4 : b ^ t ≤ u * b ^ t := Nat.le_mul_of_pos_left _ h1
    have h5 : (2 : Nat) ^ 63 = 9223372036854775808 := by decide
    omega
theorem dch_piece (k : Nat) (h : k < 16) : ((⟨#[48, 49, 50, 51, 52, 53, 54, 55, 56, 57, 97, 98, 99, 100, 101, 102]⟩ : ByteArray).extract k (k + 1)) = ⟨#[dch k]⟩ := by
  have : ∀ k : Fin 16, ((⟨#[48, 49, 50, 51, 52, 53, 54, 55, 56, 57, 97, 98, 99, 100, 101, 102]⟩ : ByteArray).extract k.val (k.val + 1)).data.toList = [dch k.val] := by
    intro k
    rw [extractL]
    revert k
    decide +kernel
  exact str_eq _ _ (this ⟨k, h⟩)
theorem cons_str (c : UInt8) (T : List UInt8) : (⟨#[c]⟩ : ByteArray) ++ (⟨T.toArray⟩ : ByteArray) = ⟨(c :: T).toArray⟩ := by
  apply ByteArray.ext
  simp
/-- How far the reference's loop is. -/
def PrtTo (b U u : Nat) (T : List UInt8) : Prop := (u = 0 ∧ prt b U = T) ∨ (0 < u ∧ ∃ k, k + T.length = 64 ∧ u * b ^ T.length ≤ U ∧ prt b U = prtF b k u ++ T)
theorem prtTo_step {b U u : Nat} {T : List UInt8} (hb : 2 ≤ b) (hU : U < 9223372036854775808) (hu : 0 < u) (h : PrtTo b U u T) : PrtTo b U (u / b) (dch (u % b) :: T) := by
  rcases h with ⟨h1, _⟩ | ⟨_, k, hk, hpw, hp⟩
  · omega
  · by_cases hub : u < b
    · left
      refine ⟨Nat.div_eq_of_lt hub, ?_⟩
      rw [hp, prtF_small b k u hub, Nat.mod_eq_of_lt hub]; rfl
    · have h1 : 1 ≤ u / b := (Nat.one_le_div_iff (by omega)).2 (by omega)
      have hpw2 : u / b * b ^ (T.length + 1) ≤ U := by
        have h2 : u / b * b ≤ u := Nat.div_mul_le_self u b
        have h3 := Nat.mul_le_mul_right (b ^ T.length) h2
        rw [Nat.pow_succ, Nat.mul_comm (b ^ T.length) b, ← Nat.mul_assoc]
        omega
      have ht := few_any b (u / b) U (T.length + 1) hb h1 hpw2 hU
      obtain ⟨k', rfl⟩ : ∃ k', k = k' + 1 := ⟨k - 1, by omega⟩
      right
      refine ⟨by omega, k', by simp; omega, by simpa using hpw2, ?_⟩
      rw [hp, prtF_step b k' u (by omega), List.append_assoc]; rfl

set_option maxRecDepth 100000 in
set_option maxHeartbeats 2000000 in
theorem print10 (n : Int) (hn : n < 9223372036854775808) (w : World) :
    Calls Tryz.prog 52 #[.int .i64 n, .int .i64 10] w fun e w' => e = .returned (.string ⟨(prtI 10 n).toArray⟩) ∧ Below w.heap.size w w' := by
  unfold prtI
  by_cases h : n ≤ 0
  · rw [show n.toNat = 0 by omega, show (prt 10 0).toArray = #[48] by decide +kernel]
    go_enter Tryz.func52, Tryz.ntmps52
    go_wp2_with fail
    go_ret
    exact ⟨rfl, Below.refl _ _⟩
  · obtain ⟨U, rfl⟩ := Int.eq_ofNat_of_zero_le (show 0 ≤ n by omega)
    rw [Int.toNat_natCast]
    have hU : U < 9223372036854775808 := by omega
    have hU0 : 0 < U := by omega
    obtain ⟨R, hR⟩ : ∃ R : ByteArray, R = ⟨(prt 10 U).toArray⟩ := ⟨_, rfl⟩
    rw [← hR]
    have HR := Lib.hid hR
    clear hR hn
    go_enter Tryz.func52, Tryz.ntmps52
    go_wp2_with fail
    go_loopw [0, 5] (fun x s wr => ∃ (u : Nat) (T : List UInt8), x = .int .i64 (u : Int) ∧ s = .string ⟨T.toArray⟩ ∧ u < 9223372036854775808 ∧ Hid (PrtTo 10 U u T) ∧ Below w.heap.size w wr) (fun x _ _ => (intOf x).toNat)
    case atStart => exact ⟨U, [], rfl, rfl, hU, .inr ⟨hU0, 64, rfl, by simp, by simp [prt]⟩, Below.refl _ _⟩
    case round =>
      obtain ⟨u, T, rfl, rfl, hu, hp, hb⟩ := hrel
      by_cases h0 : 0 < u
      · have HP := Lib.hid (prtTo_step (by decide) hU h0 hp.out)
        have g0 : (u : Int) > 0 := by omega
        obtain ⟨r, hr⟩ : ∃ r, r = u % 10 := ⟨_, rfl⟩
        obtain ⟨v, hv⟩ : ∃ v, v = u / 10 := ⟨_, rfl⟩
        have hlt2 : v < u := by rw [hv]; exact Nat.div_lt_self h0 (by decide)
        have hr16 : r < 10 := by omega
        have e1 : (u : Int).tmod 10 = (r : Int) := by rw [Int.tmod_eq_emod_of_nonneg (by omega)]; omega
        have e2 : (u : Int).tdiv 10 = (v : Int) := by rw [Int.tdiv_eq_ediv_of_nonneg (by omega)]; omega
        have e3 : (u : Int) % 10 = (r : Int) := by omega
        have e4 : (u : Int) / 10 = (v : Int) := by omega
        rw [← hr, ← hv] at HP
        have m0 : (0 : Int) ≤ (r : Int) := by omega
        have m2 : (r : Int) ≤ (r : Int) + 1 := by omega
        have m3 : (r : Int) + 1 ≤ 16 := by omega
        have m4 : ((r : Int) + 1).toNat = r + 1 := by omega
        have m5 : IntKind.i64.wrap ((r : Int) + 1) = (r : Int) + 1 := IntWalk.i64_in _ (by omega)
        have hd := dch_piece r (by omega)
        have htl : T.length ≤ 64 := by
          rcases hp.out with ⟨h1, _⟩ | ⟨_, k, hk, _⟩
          · omega
          · omega
        have hadd : ∀ W : World, (Op.stringOp .add ⟨#[dch r]⟩ ⟨T.toArray⟩).run Tryz.prog W = .ok (.string ⟨(dch r :: T).toArray⟩) W := fun W => by
          rw [run_string_add_sum W _ _ (by rw [Lib.size_eq, Lib.size_eq]; simp; omega), cons_str]
        have HL := Lib.hid hlt2
        clear hr hv hlt2
        have hbn : ∀ n, Below w.heap.size w (wr.drewN n) := fun n => hb.trans ⟨rfl, rfl, rfl, Nat.le_refl _, fun _ _ => rfl⟩
        go_wp2_with fail
        go_quiet (fail)
        go_wp2_with fail
        go_roundw
        case rel => exact ⟨v, dch r :: T, rfl, rfl, by have := HL.out; omega, HP, hbn _⟩
        case measure => have := HL.out; simp [intOf]; omega
      · have hst : Hid (R = ⟨T.toArray⟩) := by
          rcases hp.out with ⟨_, h2⟩ | ⟨h1, _⟩
          · have h3 := HR.out
            rw [h2] at h3
            exact h3
          · omega
        have g0 : ¬ (u : Int) > 0 := by omega
        go_wp2_with fail
        go_ret
        exact ⟨by rw [hst.out]; rfl, hb⟩

set_option maxRecDepth 100000 in
set_option maxHeartbeats 2000000 in
theorem print16 (n : Int) (hn : n < 9223372036854775808) (w : World) :
    Calls Tryz.prog 52 #[.int .i64 n, .int .i64 16] w fun e w' => e = .returned (.string ⟨(prtI 16 n).toArray⟩) ∧ Below w.heap.size w w' := by
  unfold prtI
  by_cases h : n ≤ 0
  · rw [show n.toNat = 0 by omega, show (prt 16 0).toArray = #[48] by decide +kernel]
    go_enter Tryz.func52, Tryz.ntmps52
    go_wp2_with fail
    go_ret
    exact ⟨rfl, Below.refl _ _⟩
  · obtain ⟨U, rfl⟩ := Int.eq_ofNat_of_zero_le (show 0 ≤ n by omega)
    rw [Int.toNat_natCast]
    have hU : U < 9223372036854775808 := by omega
    have hU0 : 0 < U := by omega
    obtain ⟨R, hR⟩ : ∃ R : ByteArray, R = ⟨(prt 16 U).toArray⟩ := ⟨_, rfl⟩
    rw [← hR]
    have HR := Lib.hid hR
    clear hR hn
    go_enter Tryz.func52, Tryz.ntmps52
    go_wp2_with fail
    go_loopw [0, 5] (fun x s wr => ∃ (u : Nat) (T : List UInt8), x = .int .i64 (u : Int) ∧ s = .string ⟨T.toArray⟩ ∧ u < 9223372036854775808 ∧ Hid (PrtTo 16 U u T) ∧ Below w.heap.size w wr) (fun x _ _ => (intOf x).toNat)
    case atStart => exact ⟨U, [], rfl, rfl, hU, .inr ⟨hU0, 64, rfl, by simp, by simp [prt]⟩, Below.refl _ _⟩
    case round =>
      obtain ⟨u, T, rfl, rfl, hu, hp, hb⟩ := hrel
      by_cases h0 : 0 < u
      · have HP := Lib.hid (prtTo_step (by decide) hU h0 hp.out)
        have g0 : (u : Int) > 0 := by omega
        obtain ⟨r, hr⟩ : ∃ r, r = u % 16 := ⟨_, rfl⟩
        obtain ⟨v, hv⟩ : ∃ v, v = u / 16 := ⟨_, rfl⟩
        have hlt2 : v < u := by rw [hv]; exact Nat.div_lt_self h0 (by decide)
        have hr16 : r < 16 := by omega
        have e1 : (u : Int).tmod 16 = (r : Int) := by rw [Int.tmod_eq_emod_of_nonneg (by omega)]; omega
        have e2 : (u : Int).tdiv 16 = (v : Int) := by rw [Int.tdiv_eq_ediv_of_nonneg (by omega)]; omega
        have e3 : (u : Int) % 16 = (r : Int) := by omega
        have e4 : (u : Int) / 16 = (v : Int) := by omega
        rw [← hr, ← hv] at HP
        have m0 : (0 : Int) ≤ (r : Int) := by omega
        have m2 : (r : Int) ≤ (r : Int) + 1 := by omega
        have m3 : (r : Int) + 1 ≤ 16 := by omega
        have m4 : ((r : Int) + 1).toNat = r + 1 := by omega
        have m5 : IntKind.i64.wrap ((r : Int) + 1) = (r : Int) + 1 := IntWalk.i64_in _ (by omega)
        have hd := dch_piece r (by omega)
        have htl : T.length ≤ 64 := by
          rcases hp.out with ⟨h1, _⟩ | ⟨_, k, hk, _⟩
          · omega
          · omega
        have hadd : ∀ W : World, (Op.stringOp .add ⟨#[dch r]⟩ ⟨T.toArray⟩).run Tryz.prog W = .ok (.string ⟨(dch r :: T).toArray⟩) W := fun W => by
          rw [run_string_add_sum W _ _ (by rw [Lib.size_eq, Lib.size_eq]; simp; omega), cons_str]
        have HL := Lib.hid hlt2
        clear hr hv hlt2
        have hbn : ∀ n, Below w.heap.size w (wr.drewN n) := fun n => hb.trans ⟨rfl, rfl, rfl, Nat.le_refl _, fun _ _ => rfl⟩
        go_wp2_with fail
        go_quiet (fail)
        go_wp2_with fail
        go_roundw
        case rel => exact ⟨v, dch r :: T, rfl, rfl, by have := HL.out; omega, HP, hbn _⟩
        case measure => have := HL.out; simp [intOf]; omega
      · have hst : Hid (R = ⟨T.toArray⟩) := by
          rcases hp.out with ⟨_, h2⟩ | ⟨h1, _⟩
          · have h3 := HR.out
            rw [h2] at h3
            exact h3
          · omega
        have g0 : ¬ (u : Int) > 0 := by omega
        go_wp2_with fail
        go_ret
        exact ⟨by rw [hst.out]; rfl, hb⟩

theorem dgt_dch (r : Nat) (h : r < 16) : dgt (dch r) = (r : Int) := by
  have : ∀ r : Fin 16, dgt (dch r.val) = (r.val : Int) := by decide +kernel
  exact this ⟨r, h⟩
theorem dch_dec (r : Nat) (h : r < 10) : isDec (dch r) = true := by
  have : ∀ r : Fin 10, isDec (dch r.val) = true := by decide +kernel
  exact this ⟨r, h⟩
theorem dch_hex (r : Nat) (h : r < 16) : isHex (dch r) = true := by
  have : ∀ r : Fin 16, isHex (dch r.val) = true := by decide +kernel
  exact this ⟨r, h⟩
theorem numD_prtF (b : Nat) (hb : 2 ≤ b) (hb2 : b ≤ 16) : ∀ (k n : Nat), n < b ^ (k + 1) → numD b (prtF b k n) = (n : Int)
  | 0, n, h => by
    have : n < b := by simpa using h
    simp [prtF, numD, dgt_dch n (by omega)]
  | k + 1, n, h => by
    by_cases hn : n < b
    · rw [prtF_small b _ n hn]; simp [numD, dgt_dch n (by omega)]
    · rw [prtF_step b k n (by omega), numD_snoc, numD_prtF b hb hb2 k (n / b) (by rw [Nat.div_lt_iff_lt_mul (by omega)]; rw [Nat.pow_succ] at h; exact h), dgt_dch _ (Nat.lt_of_lt_of_le (Nat.mod_lt n (by omega)) hb2)]
      have := Nat.div_add_mod n b
      have h2 : ((b * (n / b) + n % b : Nat) : Int) = (n : Int) := by rw [this]
      rw [← h2, Int.natCast_add, Int.natCast_mul]
theorem all_prtF (b : Nat) (p : UInt8 → Bool) (hb : 2 ≤ b) (hp : ∀ r, r < b → p (dch r) = true) : ∀ (k n : Nat), n < b ^ (k + 1) → (prtF b k n).all p = true
  | 0, n, h => by
    have : n < b := by simpa using h
    simp [prtF, hp n this]
  | k + 1, n, h => by
    by_cases hn : n < b
    · rw [prtF_small b _ n hn]; simp [hp n hn]
    · rw [prtF_step b k n (by omega), List.all_append, all_prtF b p hb hp k (n / b) (by rw [Nat.div_lt_iff_lt_mul (by omega)]; rw [Nat.pow_succ] at h; exact h)]
      simp [hp _ (Nat.mod_lt n (by omega))]
theorem prtF_pos (b : Nat) : ∀ (k n : Nat), 1 ≤ (prtF b k n).length
  | 0, n => by simp [prtF]
  | k + 1, n => by
    unfold prtF
    split
    · simp
    · simp
theorem numR_prt10 (m : Nat) (hm : m < 9223372036854775808) (h : (prt 10 m).length ≤ 10) : numR 10 10 isDec (prt 10 m) 4611686018427387904 = ((m : Int), 0) := by
  have hd := all_prtF 10 isDec (by decide) (fun r h => dch_dec r h) 64 m (Nat.lt_of_lt_of_le hm (by decide))
  have hv : numD ((10 : Nat) : Int) (prtF 10 64 m) = (m : Int) := numD_prtF 10 (by decide) (by decide) 64 m (Nat.lt_of_lt_of_le hm (by decide))
  have h1 := prtF_pos 10 64 m
  have hb := bound10 ⟨(prt 10 m).toArray⟩ (by rw [Lib.size_eq]; exact h) hd
  have hv2 : numD 10 (prt 10 m) = (m : Int) := hv
  have hb2 : numD 10 (prt 10 m) < 10000000000 := hb.2
  unfold numR
  rw [if_neg (by rintro (g | g | g); (· unfold prt at g; omega); (· omega); (· unfold prt at g; rw [hd] at g; cases g)), if_neg (by omega), hv2]
theorem numR_prt16 (m : Nat) (hm : m < 9223372036854775808) (h : (prt 16 m).length ≤ 8) : numR 16 8 isHex (prt 16 m) 4611686018427387904 = ((m : Int), 0) := by
  have hd := all_prtF 16 isHex (by decide) (fun r h => dch_hex r h) 64 m (Nat.lt_of_lt_of_le hm (by decide))
  have hv : numD ((16 : Nat) : Int) (prtF 16 64 m) = (m : Int) := numD_prtF 16 (by decide) (by decide) 64 m (Nat.lt_of_lt_of_le hm (by decide))
  have h1 := prtF_pos 16 64 m
  have hb := bound16 ⟨(prt 16 m).toArray⟩ (by rw [Lib.size_eq]; exact h) hd
  have hv2 : numD 16 (prt 16 m) = (m : Int) := hv
  have hb2 : numD 16 (prt 16 m) < 4294967296 := hb.2
  unfold numR
  rw [if_neg (by rintro (g | g | g); (· unfold prt at g; omega); (· omega); (· unfold prt at g; rw [hd] at g; cases g)), if_neg (by omega), hv2]
theorem prtF_len (b : Nat) : ∀ (k n : Nat), (prtF b k n).length ≤ k + 1
  | 0, n => by simp [prtF]
  | k + 1, n => by
    unfold prtF
    split
    · simp
    · have := prtF_len b k (n / b)
      simp; omega
end Go.Proofs.YtbbphklhnngjmaaGreatDoor

/- The table of the powers of ten, out of what a row says of it. -/
namespace Go.Proofs.YtbbphklhnngjmaaGreatDoor
open Go.RowKit

theorem gPowT : (Tryz.prog.globals[2]?).map (·.type) = some 193 := by kernel_rfl
theorem cellsP20 : Tryz.prog.cellsOf 193 = 20 := by kernel_rfl
theorem cellsU64 : Tryz.prog.cellsOf 179 = 1 := by kernel_rfl
theorem pow_list : Lib.pow10Tab = [1, 10, 100, 1000, 10000, 100000, 1000000, 10000000, 100000000, 1000000000, 10000000000, 100000000000, 1000000000000, 10000000000000, 100000000000000, 1000000000000000, 10000000000000000, 100000000000000000, 1000000000000000000, 10000000000000000000] := by decide +kernel
theorem pow_laid {W : World} {d0 d1 : String × DataW Unit} {rest : List (String × DataW Unit)}
    (h : laidMet Tryz.prog (d0 :: d1 :: ("internal/strconv.uint64pow10", Rows.laid_internal_strconv_uint64pow10) :: rest) W) : Pow W := by
  unfold Pow
  rw [pow_list]
  exact Lib.tabIs_of_head gPow gPowT Tryz.underlying193 Tryz.underlying179 cellsU64 cellsP20 (laidMet.tail (laidMet.tail h))
theorem i64_top {n : Int} (h : (Lit.int .i64 n).wf = true) : n < 9223372036854775808 := by
  simp only [Lit.wf, Bool.and_eq_true, decide_eq_true_eq, show IntKind.i64.max = 9223372036854775807 from rfl] at h
  omega
end Go.Proofs.YtbbphklhnngjmaaGreatDoor

/- fields: Parse, Line; the reference's Parse. -/
namespace Go.Proofs.YtbbphklhnngjmaaGreatDoor
open Go.RowKit

/-- A field: its name, its value. -/
abbrev Fld := List UInt8 × List UInt8
def bs (l : List UInt8) : ByteArray := ⟨l.toArray⟩
theorem bs_list (l : List UInt8) : (bs l).data.toList = l := rfl
theorem bs_size (l : List UInt8) : (bs l).size = l.length := by rw [Lib.size_eq, bs_list]
theorem bs_of (t : ByteArray) : bs t.data.toList = t := (str_eq t _ rfl).symm
def fldV (f : Fld) : Value := .agg #[.string (bs f.1), .string (bs f.2)]
/-- A line's field. -/
def parseL (l : List UInt8) : Option Fld :=
  let i := Lib.indexByte l 58
  if 0 ≤ i ∧ tokB (l.take i.toNat) = true ∧ valB (trimB (l.drop (i.toNat + 1))) = true then some (l.take i.toNat, trimB (l.drop (i.toNat + 1))) else none
def parseV (l : List UInt8) : Value := match parseL l with
  | some f => .tuple #[fldV f, .int .i64 0]
  | none => .tuple #[fldV ([], []), .int .i64 2]
theorem cut58 (l : List UInt8) : Lib.cut l [58] = if 0 ≤ Lib.indexByte l 58 then (l.take (Lib.indexByte l 58).toNat, l.drop ((Lib.indexByte l 58).toNat + 1), true) else (l, [], false) := by
  unfold Lib.cut
  rw [Lib.index_one]
  rfl
theorem cut69 (s : ByteArray) (hs : s.size ≤ 4000000000) (a b : List UInt8) (q : Bool) (h : Lib.cut s.data.toList [58] = (a, b, q)) (w : World) (hw : MaxL w) :
    Calls Tryz.prog 130 #[.string s, .string ⟨#[58]⟩] w fun e w' => e = .returned (.tuple #[.string (bs a), .string (bs b), .bool q]) ∧ Below w.heap.size w w' := by
  obtain ⟨_, m, hm⟩ := hw
  refine (Tryz.strings_Cut s ⟨#[58]⟩ m w (by omega) hm).mono fun e w' ⟨he, n, hn⟩ => ⟨?_, ?_⟩
  · rw [he]
    have h2 : Lib.cut s.data.toList (⟨#[58]⟩ : ByteArray).data.toList = (a, b, q) := h
    rw [h2]; rfl
  · subst hn; exact ⟨rfl, rfl, rfl, Nat.le_refl _, fun _ _ => rfl⟩
theorem token_l (l : List UInt8) (hl : l.length ≤ 4000000000) (q : Bool) (h : tokB l = q) (w : World) :
    Calls Tryz.prog 151 #[.string (bs l)] w fun e w' => e = .returned (.bool q) ∧ w = w' := by
  subst h; exact token14 (bs l) (by rw [bs_size]; omega) w
theorem value_l (l : List UInt8) (hl : l.length ≤ 4000000000) (q : Bool) (h : valB l = q) (w : World) :
    Calls Tryz.prog 137 #[.string (bs l)] w fun e w' => e = .returned (.bool q) ∧ Below w.heap.size w w' := by
  subst h; exact value18 (bs l) (by rw [bs_size]; omega) w
theorem trim_b (y : List UInt8) (hy : y.length ≤ 4611686018427387904) (w : World) :
    Calls Tryz.prog 140 #[.string (bs y)] w fun e w' => e = .returned (.string (bs (trimB y))) ∧ Below w.heap.size w w' := trim_list y hy w
set_option maxRecDepth 100000 in
set_option maxHeartbeats 2000000 in
theorem parse36 (s : ByteArray) (hs : s.size ≤ 4000000000) (w : World) (hw : MaxL w) :
    Calls Tryz.prog 191 #[.string s] w fun e w' => e = .returned (parseV s.data.toList) ∧ Below w.heap.size w w' := by
  obtain ⟨R, hR⟩ : ∃ R, R = parseV s.data.toList := ⟨_, rfl⟩
  rw [← hR]
  have hz := Lib.size_eq s
  have L0 := below_alloc w (.cells #[.string ⟨#[]⟩, .string ⟨#[]⟩] 62)
  have hmx := hw.below L0
  by_cases hi : 0 ≤ Lib.indexByte s.data.toList 58
  · obtain ⟨a, ha⟩ : ∃ a, a = s.data.toList.take (Lib.indexByte s.data.toList 58).toNat := ⟨_, rfl⟩
    obtain ⟨b, hb⟩ : ∃ b, b = s.data.toList.drop ((Lib.indexByte s.data.toList 58).toNat + 1) := ⟨_, rfl⟩
    have hc : Lib.cut s.data.toList [58] = (a, b, true) := by rw [cut58, if_pos hi, ha, hb]
    have hal : a.length ≤ 4000000000 := by rw [ha, List.length_take]; omega
    have hbl : b.length ≤ 4000000000 := by rw [hb, List.length_drop]; omega
    have htl : (trimB b).length ≤ 4000000000 := Nat.le_trans (trimB_length b) hbl
    obtain ⟨q1, h1⟩ : ∃ q, tokB a = q := ⟨_, rfl⟩
    obtain ⟨q2, h2⟩ : ∃ q, valB (trimB b) = q := ⟨_, rfl⟩
    have hv : R = if q1 = true ∧ q2 = true then .tuple #[fldV (a, trimB b), .int .i64 0] else .tuple #[fldV ([], []), .int .i64 2] := by
      rw [hR]; unfold parseV parseL
      simp only [← ha, ← hb, h1, h2]
      by_cases hq : q1 = true ∧ q2 = true
      · rw [if_pos ⟨hi, hq.1, hq.2⟩, if_pos hq]
      · rw [if_neg (fun h => hq h.2), if_neg hq]
    have HV := Lib.hid hv
    have HC := Lib.hid (cut69 s hs a b true hc _ hmx)
    have HT := Lib.hid (fun W => trim_b b (by omega) W)
    have K1 := Lib.hid (fun W => token_l a hal q1 h1 W)
    have K2 := Lib.hid (fun W => value_l (trimB b) htl q2 h2 W)
    clear hv hc ha hb h1 h2 hR hz hmx hi
    go_enter Tryz.func191, Tryz.ntmps191
    go_wp2_with fail
    refine HC.out.mono ?_
    rintro e w1 ⟨rfl, hb1⟩
    have f1 := (bcell hb1).1 w.heap.size
    have z1 := (bcell hb1).2 w.heap.size
    have hs1 := hb1.size
    simp at hs1
    have c0 : w1.cell? ⟨w.heap.size, 0, none⟩ = some (.string ⟨#[]⟩) := by rw [f1 0 (by simp)]; simp
    have c1 : w1.cell? ⟨w.heap.size, 1, none⟩ = some (.string ⟨#[]⟩) := by rw [f1 1 (by simp)]; simp
    have d0 : w1.frozen? ⟨w.heap.size, 0, none⟩ = false := by rw [z1 0 (by simp)]; simp
    have d1 : w1.frozen? ⟨w.heap.size, 1, none⟩ = false := by rw [z1 1 (by simp)]; simp
    clear f1 z1
    go_wp2_with fail
    refine (HT.out w1).mono ?_
    rintro e w2 ⟨rfl, hb2⟩
    have f2 := (bcell hb2).1 w.heap.size
    have z2 := (bcell hb2).2 w.heap.size
    have hs2 := hb2.size
    have c20 : w2.cell? ⟨w.heap.size, 0, none⟩ = some (.string ⟨#[]⟩) := by rw [f2 0 (by omega), c0]
    have c21 : w2.cell? ⟨w.heap.size, 1, none⟩ = some (.string ⟨#[]⟩) := by rw [f2 1 (by omega), c1]
    have d20 : w2.frozen? ⟨w.heap.size, 0, none⟩ = false := by rw [z2 0 (by omega), d0]
    have d21 : w2.frozen? ⟨w.heap.size, 1, none⟩ = false := by rw [z2 1 (by omega), d1]
    clear f2 z2 c0 c1 d0 d1
    go_wp2_with fail
    refine (K1.out w2).mono ?_
    rintro e w' ⟨rfl, rfl⟩
    cases q1
    · go_wp2_with fail
      refine bodyPost_ret (v := .tuple #[fldV ([], []), .int .i64 2]) (by simp [results, Tryz.results191, go_sem, fldV, bs, c20, c21]) rfl ⟨by first | (rw [HV.out]; done) | (rw [HV.out]; rfl), ?_⟩
      exact ((((L0.trans (hb1.mono (by simp))).trans (hb2.mono (by omega)))).setCell (p := ⟨w.heap.size, 0, none⟩) (Nat.le_refl _) _).setCell (p := ⟨w.heap.size, 1, none⟩) (Nat.le_refl _) _
    · go_wp2_with fail
      refine (K2.out w2).mono ?_
      rintro e w3 ⟨rfl, hb3⟩
      have f3 := (bcell hb3).1 w.heap.size
      have z3 := (bcell hb3).2 w.heap.size
      have hs3 := hb3.size
      have c30 : w3.cell? ⟨w.heap.size, 0, none⟩ = some (.string ⟨#[]⟩) := by rw [f3 0 (by omega), c20]
      have c31 : w3.cell? ⟨w.heap.size, 1, none⟩ = some (.string ⟨#[]⟩) := by rw [f3 1 (by omega), c21]
      have d30 : w3.frozen? ⟨w.heap.size, 0, none⟩ = false := by rw [z3 0 (by omega), d20]
      have d31 : w3.frozen? ⟨w.heap.size, 1, none⟩ = false := by rw [z3 1 (by omega), d21]
      clear f3 z3 c20 c21 d20 d21
      cases q2
      · go_wp2_with fail
        refine bodyPost_ret (v := .tuple #[fldV ([], []), .int .i64 2]) (by simp [results, Tryz.results191, go_sem, fldV, bs, c30, c31]) rfl ⟨by first | (rw [HV.out]; done) | (rw [HV.out]; rfl), ?_⟩
        exact ((((L0.trans (hb1.mono (by simp))).trans (hb2.mono (by omega))).trans (hb3.mono (by omega))).setCell (p := ⟨w.heap.size, 0, none⟩) (Nat.le_refl _) _).setCell (p := ⟨w.heap.size, 1, none⟩) (Nat.le_refl _) _
      · go_wp2_with fail
        refine bodyPost_ret (v := .tuple #[fldV (a, trimB b), .int .i64 0]) (by simp [results, Tryz.results191, go_sem, fldV, bs, c30, c31]) rfl ⟨by first | (rw [HV.out]; done) | (rw [HV.out]; rfl), ?_⟩
        exact ((((L0.trans (hb1.mono (by simp))).trans (hb2.mono (by omega))).trans (hb3.mono (by omega))).setCell (p := ⟨w.heap.size, 0, none⟩) (Nat.le_refl _) _).setCell (p := ⟨w.heap.size, 1, none⟩) (Nat.le_refl _) _
  · have hc : Lib.cut s.data.toList [58] = (s.data.toList, [], false) := by rw [cut58, if_neg hi]
    have hv : R = .tuple #[fldV ([], []), .int .i64 2] := by
      rw [hR]; unfold parseV parseL
      simp only
      rw [if_neg (fun h => hi h.1)]
    have HV := Lib.hid hv
    have HC := Lib.hid (cut69 s hs s.data.toList [] false hc _ hmx)
    have HT := Lib.hid (fun W => trim_b [] (by simp) W)
    clear hv hc hR hz hmx hi
    generalize s.data.toList = a at HC
    go_enter Tryz.func191, Tryz.ntmps191
    go_wp2_with fail
    refine HC.out.mono ?_
    rintro e w1 ⟨rfl, hb1⟩
    have f1 := (bcell hb1).1 w.heap.size
    have z1 := (bcell hb1).2 w.heap.size
    have hs1 := hb1.size
    simp at hs1
    have c0 : w1.cell? ⟨w.heap.size, 0, none⟩ = some (.string ⟨#[]⟩) := by rw [f1 0 (by simp)]; simp
    have c1 : w1.cell? ⟨w.heap.size, 1, none⟩ = some (.string ⟨#[]⟩) := by rw [f1 1 (by simp)]; simp
    have d0 : w1.frozen? ⟨w.heap.size, 0, none⟩ = false := by rw [z1 0 (by simp)]; simp
    have d1 : w1.frozen? ⟨w.heap.size, 1, none⟩ = false := by rw [z1 1 (by simp)]; simp
    clear f1 z1
    go_wp2_with fail
    refine (HT.out w1).mono ?_
    rintro e w2 ⟨rfl, hb2⟩
    have f2 := (bcell hb2).1 w.heap.size
    have z2 := (bcell hb2).2 w.heap.size
    have hs2 := hb2.size
    have c20 : w2.cell? ⟨w.heap.size, 0, none⟩ = some (.string ⟨#[]⟩) := by rw [f2 0 (by omega), c0]
    have c21 : w2.cell? ⟨w.heap.size, 1, none⟩ = some (.string ⟨#[]⟩) := by rw [f2 1 (by omega), c1]
    have d20 : w2.frozen? ⟨w.heap.size, 0, none⟩ = false := by rw [z2 0 (by omega), d0]
    have d21 : w2.frozen? ⟨w.heap.size, 1, none⟩ = false := by rw [z2 1 (by omega), d1]
    clear f2 z2 c0 c1 d0 d1
    go_wp2_with fail
    refine bodyPost_ret (v := .tuple #[fldV ([], []), .int .i64 2]) (by simp [results, Tryz.results191, go_sem, fldV, bs, c20, c21]) rfl ⟨by first | (rw [HV.out]; done) | (rw [HV.out]; rfl), ?_⟩
    exact ((((L0.trans (hb1.mono (by simp))).trans (hb2.mono (by omega)))).setCell (p := ⟨w.heap.size, 0, none⟩) (Nat.le_refl _) _).setCell (p := ⟨w.heap.size, 1, none⟩) (Nat.le_refl _) _
end Go.Proofs.YtbbphklhnngjmaaGreatDoor

/- fields: Line; the reference's Parse. -/
namespace Go.Proofs.YtbbphklhnngjmaaGreatDoor
open Go.RowKit

/-- A field's line. -/
def lineL (f : Fld) : List UInt8 := f.1 ++ [58, 32] ++ f.2 ++ [13, 10]
theorem add_str (x y : List UInt8) (h : x.length + y.length ≤ 9223372036854775807) (W : World) : (Op.stringOp .add (bs x) (bs y)).run Tryz.prog W = .ok (.string (bs (x ++ y))) W := by
  rw [run_string_add_sum W _ _ (by rw [bs_size, bs_size]; exact h)]
  have : bs x ++ bs y = bs (x ++ y) := by
    apply ByteArray.ext
    simp [bs]
  rw [this]
set_option maxHeartbeats 1000000 in
theorem line38 (f : Fld) (h1 : f.1.length ≤ 4000000000) (h2 : f.2.length ≤ 4000000000) (w : World) :
    Calls Tryz.prog 75 #[fldV f] w fun e w' => e = .returned (.string (bs (lineL f))) ∧ Below w.heap.size w w' := by
  obtain ⟨a, b⟩ := f
  simp only at h1 h2
  have A1 := fun W => add_str a [58] (by simp; omega) W
  have A2 := fun W => add_str (a ++ [58]) [32] (by simp; omega) W
  have A3 := fun W => add_str (a ++ [58] ++ [32]) b (by simp; omega) W
  have A4 := fun W => add_str (a ++ [58] ++ [32] ++ b) [13, 10] (by simp; omega) W
  have e58 : bs [58] = ⟨#[58]⟩ := rfl
  have e32 : bs [32] = ⟨#[32]⟩ := rfl
  have e13 : bs [13, 10] = ⟨#[13, 10]⟩ := rfl
  rw [e58] at A1
  rw [e32] at A2
  rw [e13] at A4
  have hl : lineL (a, b) = a ++ [58] ++ [32] ++ b ++ [13, 10] := by simp [lineL]
  rw [hl]
  unfold fldV
  simp only
  generalize hx4 : bs (a ++ [58] ++ [32] ++ b ++ [13, 10]) = x4 at *
  generalize hx3 : bs (a ++ [58] ++ [32] ++ b) = x3 at *
  generalize hx2 : bs (a ++ [58] ++ [32]) = x2 at *
  generalize hx1 : bs (a ++ [58]) = x1 at *
  generalize bs a = x0 at *
  generalize bs b = y0 at *
  clear hx4 hx3 hx2 hx1 e58 e32 e13 hl h1 h2
  go_enter Tryz.func75, Tryz.ntmps75
  go_wp2_with fail
  go_ret
  exact ⟨rfl, below_alloc w _⟩

theorem ib_at (c : UInt8) : ∀ (l : List UInt8) (j : Nat), c ∉ l.take j → l[j]? = some c → Lib.indexByte l c = (j : Int)
  | [], j, _, h => by simp at h
  | b :: r, 0, _, h => by
    obtain rfl : b = c := by simpa using h
    simp [Lib.indexByte]
  | b :: r, j + 1, hn, h => by
    rw [List.take_succ_cons, List.mem_cons, not_or] at hn
    have ih := ib_at c r j hn.2 (by simpa using h)
    have hbb : (b == c) = false := beq_eq_false_iff_ne.2 (fun e => hn.1 e.symm)
    have hne : ((j : Int) == -1) = false := beq_eq_false_iff_ne.2 (by omega)
    simp only [Lib.indexByte, hbb, ih, hne]
    simp
theorem ib_none (c : UInt8) (l : List UInt8) (h : c ∉ l) : Lib.indexByte l c = -1 := by
  rcases ib_cut c l with ⟨h1, _⟩ | ⟨i, _, h2, h3, _⟩
  · exact h1
  · exact absurd (by rw [h3]; simp) h
set_option maxRecDepth 100000 in
set_option maxHeartbeats 2000000 in
theorem parse37 (s : ByteArray) (hs : s.size ≤ 4000000000) (w : World) :
    Calls Tryz.prog 28 #[.string s] w fun e w' => e = .returned (parseV s.data.toList) ∧ Below w.heap.size w w' := by
  obtain ⟨R, hR⟩ : ∃ R, R = parseV s.data.toList := ⟨_, rfl⟩
  rw [← hR]
  have HR := Lib.hid hR
  have L0 := below_alloc w (.cells #[.string ⟨#[]⟩, .string ⟨#[]⟩] 53)
  have c0 : (w.alloc (.cells #[.string ⟨#[]⟩, .string ⟨#[]⟩] 53)).cell? ⟨w.heap.size, 0, none⟩ = some (.string ⟨#[]⟩) := by simp
  have c1 : (w.alloc (.cells #[.string ⟨#[]⟩, .string ⟨#[]⟩] 53)).cell? ⟨w.heap.size, 1, none⟩ = some (.string ⟨#[]⟩) := by simp
  have d0 : (w.alloc (.cells #[.string ⟨#[]⟩, .string ⟨#[]⟩] 53)).frozen? ⟨w.heap.size, 0, none⟩ = false := by simp
  have d1 : (w.alloc (.cells #[.string ⟨#[]⟩, .string ⟨#[]⟩] 53)).frozen? ⟨w.heap.size, 1, none⟩ = false := by simp
  clear hR
  go_enter Tryz.func28, Tryz.ntmps28
  go_wp2_with fail
  generalize World.alloc w _ = w0 at *
  go_loop [4] (fun i => ∃ j : Nat, j ≤ s.size ∧ i = .int .i64 (j : Int) ∧ Hid ((58 : UInt8) ∉ s.data.toList.take j)) (fun i => s.size - (intOf i).toNat)
  case atStart => exact ⟨0, Nat.zero_le _, rfl, by simp [Hid]⟩
  case round =>
    obtain ⟨j, hj, rfl, hn⟩ := hrel
    by_cases hlt : j < s.size
    · by_cases hq : s[j] = 58
      · have hi : Lib.indexByte s.data.toList 58 = (j : Int) := ib_at 58 _ j hn.out (by rw [toList_get s j hlt, hq])
        have ht : ((s[j].toNat : Int) == 58) = true := by rw [hq]; rfl
        have hz := Lib.size_eq s
        have e1 : s.extract 0 j = bs (s.data.toList.take j) := by rw [← bs_of (s.extract 0 j), extractL, List.drop_zero, Nat.sub_zero]
        have e2 : s.extract (j + 1) s.size = bs (s.data.toList.drop (j + 1)) := by rw [← bs_of (s.extract (j + 1) s.size), extractL, List.take_of_length_le (by rw [List.length_drop]; omega)]
        obtain ⟨a, ha⟩ : ∃ a, a = s.data.toList.take j := ⟨_, rfl⟩
        obtain ⟨b, hb⟩ : ∃ b, b = s.data.toList.drop (j + 1) := ⟨_, rfl⟩
        have hal : a.length ≤ 4000000000 := by rw [ha, List.length_take]; omega
        have hbl : b.length ≤ 4000000000 := by rw [hb, List.length_drop]; omega
        have htl : (trimB b).length ≤ 4000000000 := Nat.le_trans (trimB_length b) hbl
        obtain ⟨q1, h1⟩ : ∃ q, tokB a = q := ⟨_, rfl⟩
        obtain ⟨q2, h2⟩ : ∃ q, valB (trimB b) = q := ⟨_, rfl⟩
        have hv : R = if q1 = true ∧ q2 = true then .tuple #[fldV (a, trimB b), .int .i64 0] else .tuple #[fldV ([], []), .int .i64 2] := by
          rw [HR.out]; unfold parseV parseL
          simp only [hi, Int.toNat_natCast, ← ha, ← hb, h1, h2]
          by_cases hq : q1 = true ∧ q2 = true
          · rw [if_pos ⟨by omega, hq.1, hq.2⟩, if_pos hq]
          · rw [if_neg (fun h => hq h.2), if_neg hq]
        have HV := Lib.hid hv
        have HT : Hid (∀ W, Calls Tryz.prog 63 #[.string (bs b)] W fun e w' => e = .returned (.string (bs (trimB b))) ∧ W = w') := fun W => trim24 (bs b) (by rw [bs_size]; omega) W
        have K1 : Hid (∀ W, Calls Tryz.prog 54 #[.string (bs a)] W fun e w' => e = .returned (.bool q1) ∧ W = w') := fun W => token15 (bs a) (by rw [bs_size]; omega) q1 h1 W
        have K2 : Hid (∀ W, Calls Tryz.prog 27 #[.string (bs (trimB b))] W fun e w' => e = .returned (.bool q2) ∧ W = w') := fun W => value19 (bs (trimB b)) (by rw [bs_size]; omega) q2 h2 W
        rw [← ha] at e1
        rw [← hb] at e2
        have j1 : (j : Int) + 1 ≤ s.size := by omega
        have j2 : (j : Int) ≤ s.size := by omega
        have hss : (s.size : Int) ≤ 4000000000 := by omega
        clear hv ha hb h1 h2 hi hz hq hn
        go_wp2_with fail
        refine (HT.out w0).mono ?_
        rintro e w' ⟨rfl, rfl⟩
        go_wp2_with fail
        refine (K1.out w0).mono ?_
        rintro e w' ⟨rfl, rfl⟩
        cases q1
        · go_wp2_with fail
          refine bodyPost_ret (v := .tuple #[fldV ([], []), .int .i64 2]) (by simp [results, Tryz.results28, go_sem, fldV, bs, c0, c1]) rfl ⟨by first | (rw [HV.out]; done) | (rw [HV.out]; rfl), ?_⟩
          exact (L0.setCell (p := ⟨w.heap.size, 0, none⟩) (Nat.le_refl _) _).setCell (p := ⟨w.heap.size, 1, none⟩) (Nat.le_refl _) _
        · go_wp2_with fail
          refine (K2.out w0).mono ?_
          rintro e w' ⟨rfl, rfl⟩
          cases q2
          · go_wp2_with fail
            refine bodyPost_ret (v := .tuple #[fldV ([], []), .int .i64 2]) (by simp [results, Tryz.results28, go_sem, fldV, bs, c0, c1]) rfl ⟨by first | (rw [HV.out]; done) | (rw [HV.out]; rfl), ?_⟩
            exact (L0.setCell (p := ⟨w.heap.size, 0, none⟩) (Nat.le_refl _) _).setCell (p := ⟨w.heap.size, 1, none⟩) (Nat.le_refl _) _
          · go_wp2_with fail
            refine bodyPost_ret (v := .tuple #[fldV (a, trimB b), .int .i64 0]) (by simp [results, Tryz.results28, go_sem, fldV, bs, c0, c1]) rfl ⟨by first | (rw [HV.out]; done) | (rw [HV.out]; rfl), ?_⟩
            exact (L0.setCell (p := ⟨w.heap.size, 0, none⟩) (Nat.le_refl _) _).setCell (p := ⟨w.heap.size, 1, none⟩) (Nat.le_refl _) _
      · have hst : Hid ((58 : UInt8) ∉ s.data.toList.take (j + 1)) := by
          show (58 : UInt8) ∉ _
          rw [take_snoc s j hlt, List.mem_append, not_or]
          exact ⟨hn.out, by rw [List.mem_singleton]; exact fun e => hq e.symm⟩
        have ht : ((s[j].toNat : Int) == 58) = false := by
          rw [show (58 : Int) = ((58 : UInt8).toNat : Int) from rfl, byte_eq]
          exact beq_eq_false_iff_ne.2 hq
        clear hq
        go_wp2_with fail
        go_round
        case rel => exact ⟨j + 1, by omega, by go_num, hst⟩
        case measure => simp [intOf]; omega
    · have hn2 := hn.out
      rw [List.take_of_length_le (by rw [← Lib.size_eq]; omega)] at hn2
      have hv : R = .tuple #[fldV ([], []), .int .i64 2] := by
        rw [HR.out]; unfold parseV parseL
        simp only [ib_none 58 _ hn2]
        rw [if_neg (fun h => by omega)]
      have HV := Lib.hid hv
      clear hn2 hv
      go_wp2_with fail
      refine bodyPost_ret (v := .tuple #[fldV ([], []), .int .i64 2]) (by simp [results, Tryz.results28, go_sem, fldV, bs, c0, c1]) rfl ⟨by first | (rw [HV.out]; done) | (rw [HV.out]; rfl), ?_⟩
      exact (L0.setCell (p := ⟨w.heap.size, 0, none⟩) (Nat.le_refl _) _).setCell (p := ⟨w.heap.size, 1, none⟩) (Nat.le_refl _) _
end Go.Proofs.YtbbphklhnngjmaaGreatDoor

/- start: what its functions return, in lists of bytes; the program's way of dividing a line and the reference's are one. -/
namespace Go.Proofs.YtbbphklhnngjmaaGreatDoor
open Go.RowKit

theorem str_cmp (a b : List UInt8) (q : Bool) (h : decide (a = b) = q) : ((bs a).toList == (bs b).toList) = q := by
  rw [ByteArray.toList_eq, ByteArray.toList_eq, bs_list, bs_list, ← h]
  by_cases hab : a = b
  · subst hab; simp
  · rw [decide_eq_false hab]; exact beq_eq_false_iff_ne.2 hab
theorem str_lit (a b : List UInt8) (q : Bool) (h : decide (a = b) = q) : ((bs a).toList == b) = q := by
  have e := str_cmp a b q h
  have e2 : (bs b).toList = b := by rw [ByteArray.toList_eq]; rfl
  rwa [e2] at e
theorem str_cmp2 (t : ByteArray) (b : List UInt8) (q : Bool) (h : decide (t.data.toList = b) = q) : (t.toList == (bs b).toList) = q := by
  have e := str_cmp t.data.toList b q h
  rwa [bs_of] at e
/-- A cut at one byte: there is none, or what is ahead of the first and behind it. -/
theorem cut_cases (c : UInt8) (l : List UInt8) : (c ∉ l ∧ Lib.cut l [c] = (l, [], false)) ∨ (∃ a b, l = a ++ c :: b ∧ c ∉ a ∧ Lib.cut l [c] = (a, b, true)) := by
  unfold Lib.cut
  rw [Lib.index_one]
  rcases ib_cut c l with ⟨h1, h2⟩ | ⟨i, h1, _, h3, h4⟩
  · left
    refine ⟨h2, ?_⟩
    rw [h1, if_neg (by omega)]
  · right
    refine ⟨l.take i, l.drop (i + 1), h3, h4, ?_⟩
    rw [h1, if_pos (by omega), Int.toNat_natCast]
    rfl
theorem cut_at (c : UInt8) (a b : List UInt8) (h : c ∉ a) : Lib.cut (a ++ c :: b) [c] = (a, b, true) := by
  have hi : Lib.indexByte (a ++ c :: b) c = (a.length : Int) := ib_at c _ a.length (by rw [List.take_left']; exact h; rfl) (by simp)
  unfold Lib.cut
  rw [Lib.index_one, hi, if_pos (by omega), Int.toNat_natCast, List.take_left' rfl]
  have : (a ++ c :: b).drop (a.length + [c].length) = b := by
    rw [← List.drop_drop, List.drop_left' rfl]; rfl
  rw [this]
theorem cut_no (c : UInt8) (l : List UInt8) (h : c ∉ l) : Lib.cut l [c] = (l, [], false) := by
  rcases cut_cases c l with ⟨_, h2⟩ | ⟨a, b, h1, _, _⟩
  · exact h2
  · exact absurd (by rw [h1]; simp) h
theorem cut_lens (c : UInt8) (l a b : List UInt8) (q : Bool) (h : Lib.cut l [c] = (a, b, q)) : a.length ≤ l.length ∧ b.length ≤ l.length := by
  rcases cut_cases c l with ⟨_, h2⟩ | ⟨x, y, h1, _, h3⟩
  · rw [h2] at h; injection h with e1 e2; injection e2 with e2 e3; subst e1 e2; exact ⟨Nat.le_refl _, Nat.zero_le _⟩
  · rw [h3] at h; injection h with e1 e2; injection e2 with e2 e3; subst e1 e2; rw [h1]; simp; omega
theorem tok_no {c : UInt8} (hc : isTok c = false) {n : List UInt8} (h : tokB n = true) : c ∉ n := by
  intro hm
  unfold tokB at h
  rw [Bool.and_eq_true, List.all_eq_true] at h
  exact absurd (h.2 c hm) (by rw [hc]; simp)
theorem tgt_no {c : UInt8} (hc : isVis c = false) {n : List UInt8} (h : tgtB n = true) : c ∉ n := by
  intro hm
  unfold tgtB at h
  rw [Bool.and_eq_true, List.all_eq_true] at h
  exact absurd (h.2 c hm) (by rw [hc]; simp)
theorem tok32 : isTok 32 = false := by decide +kernel
theorem vis32 : isVis 32 = false := by decide +kernel
theorem tgt_nil : tgtB [] = false := by decide +kernel

/-- HTTP/1.1; a blank and it; it and a blank. -/
def verL : List UInt8 := [72, 84, 84, 80, 47, 49, 46, 49]
def sfxL : List UInt8 := [32, 72, 84, 84, 80, 47, 49, 46, 49]
def pfxL : List UInt8 := [72, 84, 84, 80, 47, 49, 46, 49, 32]
/-- A line's request, as the program divides it; as the reference does. -/
def reqP (l : List UInt8) : Option Fld :=
  let r := Lib.cut (Lib.trimSuffix l sfxL) [32]
  if Lib.hasSuffix l sfxL = true ∧ tokB r.1 = true ∧ tgtB r.2.1 = true then some (r.1, r.2.1) else none
def reqR (l : List UInt8) : Option Fld :=
  let a := Lib.cut l [32]
  let b := Lib.cut a.2.1 [32]
  if a.2.2 = true ∧ b.2.2 = true ∧ b.2.1 = verL ∧ tokB a.1 = true ∧ tgtB b.1 = true then some (a.1, b.1) else none
def ReqIs (l : List UInt8) (r : Fld) : Prop := l = r.1 ++ 32 :: (r.2 ++ sfxL) ∧ tokB r.1 = true ∧ tgtB r.2 = true
theorem suffix_of {l s : List UInt8} (h : Lib.hasSuffix l s = true) : l = Lib.trimSuffix l s ++ s := by
  unfold Lib.trimSuffix
  rw [if_pos h]
  unfold Lib.hasSuffix at h
  obtain ⟨t, ht⟩ := List.isSuffixOf_iff_suffix.1 h
  subst ht
  rw [List.length_append, Nat.add_sub_cancel, List.take_left' rfl]
theorem suffix_app (a s : List UInt8) : Lib.hasSuffix (a ++ s) s = true ∧ Lib.trimSuffix (a ++ s) s = a := by
  have h : Lib.hasSuffix (a ++ s) s = true := List.isSuffixOf_iff_suffix.2 ⟨a, rfl⟩
  refine ⟨h, ?_⟩
  unfold Lib.trimSuffix
  rw [if_pos h, List.length_append, Nat.add_sub_cancel, List.take_left' rfl]
theorem reqP_is (l : List UInt8) (r : Fld) : reqP l = some r ↔ ReqIs l r := by
  obtain ⟨m, t⟩ := r
  constructor
  · intro h
    unfold reqP at h
    simp only at h
    split at h
    · next hh =>
      obtain ⟨hs, h1, h2⟩ := hh
      injection h with h
      injection h with e1 e2
      have hl := suffix_of hs
      rcases cut_cases 32 (Lib.trimSuffix l sfxL) with ⟨_, hc⟩ | ⟨a, b, hab, _, hc⟩
      · rw [hc] at h2
        rw [tgt_nil] at h2; cases h2
      · rw [hc] at h1 h2 e1 e2
        simp only at h1 h2 e1 e2
        subst e1 e2
        refine ⟨?_, h1, h2⟩
        rw [hl, hab]; simp
    · cases h
  · rintro ⟨hl, h1, h2⟩
    simp only at hl h1 h2
    have hl2 : l = (m ++ 32 :: t) ++ sfxL := by rw [hl]; simp
    have hx := suffix_app (m ++ 32 :: t) sfxL
    rw [← hl2] at hx
    unfold reqP
    simp only
    rw [hx.2, cut_at 32 m t (tok_no tok32 h1)]
    simp only
    rw [if_pos ⟨hx.1, h1, h2⟩]
theorem reqR_is (l : List UInt8) (r : Fld) : reqR l = some r ↔ ReqIs l r := by
  obtain ⟨m, t⟩ := r
  constructor
  · intro h
    unfold reqR at h
    simp only at h
    split at h
    · next hh =>
      obtain ⟨ha, hb, hv, h1, h2⟩ := hh
      injection h with h
      injection h with e1 e2
      rcases cut_cases 32 l with ⟨_, hc⟩ | ⟨x, y, hxy, _, hc⟩
      · rw [hc] at ha; cases ha
      · rw [hc] at hb hv h1 h2 e1 e2
        simp only at hb hv h1 h2 e1 e2
        rcases cut_cases 32 y with ⟨_, hd⟩ | ⟨u, v, huv, _, hd⟩
        · rw [hd] at hb; cases hb
        · rw [hd] at hv h2 e2
          simp only at hv h2 e2
          subst e1 e2 hv
          refine ⟨?_, h1, h2⟩
          rw [hxy, huv]; rfl
    · cases h
  · rintro ⟨hl, h1, h2⟩
    simp only at hl h1 h2
    subst hl
    unfold reqR
    simp only
    rw [cut_at 32 m _ (tok_no tok32 h1)]
    simp only
    rw [show t ++ sfxL = t ++ 32 :: verL from rfl, cut_at 32 t verL (tgt_no vis32 h2)]
    simp only
    simp [h1, h2]
theorem reqR_eq (l : List UInt8) : reqR l = reqP l := by
  cases h : reqP l with
  | some r => exact (reqR_is l r).2 ((reqP_is l r).1 h)
  | none =>
    cases h2 : reqR l with
    | none => rfl
    | some r => rw [(reqP_is l r).2 ((reqR_is l r).1 h2)] at h; cases h
theorem count_app (c : UInt8) (a b : List UInt8) : (a ++ c :: b).count c = a.count c + b.count c + 1 := by
  rw [List.count_append, List.count_cons_self]; omega
/-- A method and a target, written in a line: it is a request only if they are a token and a target. -/
theorem req_line (m t : List UInt8) : reqP (m ++ 32 :: (t ++ sfxL)) = if tokB m = true ∧ tgtB t = true then some (m, t) else none := by
  by_cases h : tokB m = true ∧ tgtB t = true
  · rw [if_pos h]
    exact (reqP_is _ _).2 ⟨rfl, h.1, h.2⟩
  · rw [if_neg h]
    cases h2 : reqP (m ++ 32 :: (t ++ sfxL)) with
    | none => rfl
    | some r =>
      exfalso
      obtain ⟨a, b⟩ := r
      obtain ⟨hl, ha, hb⟩ := (reqP_is _ _).1 h2
      simp only at hl ha hb
      have hl2 : (m ++ 32 :: t) ++ sfxL = (a ++ 32 :: b) ++ sfxL := by simpa using hl
      have hl3 := List.append_cancel_right hl2
      have hc := congrArg (List.count 32) hl3
      rw [count_app, count_app, List.count_eq_zero.2 (tok_no tok32 ha), List.count_eq_zero.2 (tgt_no vis32 hb)] at hc
      have hm : (32 : UInt8) ∉ m := List.count_eq_zero.1 (by omega)
      have e1 := cut_at 32 m t hm
      rw [hl3, cut_at 32 a b (tok_no tok32 ha)] at e1
      injection e1 with e1 e2
      injection e2 with e2 _
      subst e1 e2
      exact h ⟨ha, hb⟩

/-- A line's status, as the program divides it; as the reference does. -/
abbrev Sta := Int × List UInt8
def stP (l : List UInt8) : Option Sta :=
  let r := Lib.cut (Lib.trimPrefix l pfxL) [32]
  let n := numR 10 10 isDec r.1 599
  if Lib.hasPrefix l pfxL = true ∧ r.1.length = 3 ∧ n.2 = 0 ∧ ¬ n.1 < 200 ∧ valB r.2.1 = true then some (n.1, r.2.1) else none
def stR (l : List UInt8) : Option Sta :=
  let n := numR 10 10 isDec ((l.drop 9).take 3) 599
  if 12 ≤ l.length ∧ l.take 9 = pfxL ∧ (12 < l.length → l[12]? = some 32) ∧ n.2 = 0 ∧ ¬ n.1 < 200 ∧ valB (l.drop 13) = true then some (n.1, l.drop 13) else none
def StaIs (l : List UInt8) (s : Sta) : Prop :=
  ∃ d : List UInt8, d.length = 3 ∧ numR 10 10 isDec d 599 = (s.1, 0) ∧ ¬ s.1 < 200 ∧ valB s.2 = true ∧ ((l = pfxL ++ d ∧ s.2 = []) ∨ l = pfxL ++ (d ++ 32 :: s.2))
theorem numR_dec {b : Int} {m : Nat} {p : UInt8 → Bool} {l : List UInt8} {most : Int} (h : (numR b m p l most).2 = 0) : l.all p = true ∧ (numR b m p l most).1 ≤ most ∧ 1 ≤ l.length := by
  unfold numR at h ⊢
  split at h
  · cases h
  · next hn =>
    rw [not_or, not_or] at hn
    rw [if_neg (by rw [not_or, not_or]; exact hn)]
    split at h
    · cases h
    · next hm =>
      rw [if_neg hm]
      refine ⟨by simpa using hn.2.2, ?_, ?_⟩
      · simp only; omega
      · have := hn.1; omega
theorem dec_no32 {l : List UInt8} (h : l.all isDec = true) : (32 : UInt8) ∉ l := by
  intro hm
  rw [List.all_eq_true] at h
  exact absurd (h 32 hm) (by decide +kernel)
theorem prefix_of {l s : List UInt8} (h : Lib.hasPrefix l s = true) : l = s ++ Lib.trimPrefix l s := by
  unfold Lib.trimPrefix
  rw [if_pos h]
  unfold Lib.hasPrefix at h
  obtain ⟨t, ht⟩ := List.isPrefixOf_iff_prefix.1 h
  subst ht
  rw [List.drop_left' rfl]
theorem prefix_app (s a : List UInt8) : Lib.hasPrefix (s ++ a) s = true ∧ Lib.trimPrefix (s ++ a) s = a := by
  have h : Lib.hasPrefix (s ++ a) s = true := List.isPrefixOf_iff_prefix.2 ⟨a, rfl⟩
  refine ⟨h, ?_⟩
  unfold Lib.trimPrefix
  rw [if_pos h, List.drop_left' rfl]
theorem val_nil : valB [] = true := by decide +kernel
theorem stP_is (l : List UInt8) (s : Sta) : stP l = some s ↔ StaIs l s := by
  obtain ⟨c, r⟩ := s
  constructor
  · intro h
    unfold stP at h
    simp only at h
    split at h
    · next hh =>
      obtain ⟨hs, h1, h2, h3, h4⟩ := hh
      injection h with h
      injection h with e1 e2
      have hl := prefix_of hs
      refine ⟨(Lib.cut (Lib.trimPrefix l pfxL) [32]).1, h1, ?_, by rw [← e1]; exact h3, by rw [← e2]; exact h4, ?_⟩
      · rw [← e1, ← h2]
      · rcases cut_cases 32 (Lib.trimPrefix l pfxL) with ⟨_, hc⟩ | ⟨a, b, hab, _, hc⟩
        · left
          rw [hc] at e2 ⊢
          exact ⟨hl, e2.symm⟩
        · right
          rw [hc] at e2 ⊢
          simp only at e2 ⊢
          rw [← e2]
          exact hl.trans (by rw [← hab])
    · cases h
  · rintro ⟨d, hd, hn, h3, h4, hl⟩
    have hdec : d.all isDec = true := (numR_dec (by rw [hn] : (numR 10 10 isDec d 599).2 = 0)).1
    unfold stP
    simp only at hn h3 h4 hl ⊢
    rcases hl with ⟨hl, hr⟩ | hl
    · subst hl hr
      rw [(prefix_app pfxL d).1, (prefix_app pfxL d).2, cut_no 32 d (dec_no32 hdec)]
      simp only
      simp [hn, hd, h4]
      omega
    · subst hl
      rw [(prefix_app pfxL _).1, (prefix_app pfxL _).2, cut_at 32 d r (dec_no32 hdec)]
      simp only
      simp [hn, hd, h4]
      omega
theorem stR_is (l : List UInt8) (s : Sta) : stR l = some s ↔ StaIs l s := by
  obtain ⟨c, r⟩ := s
  constructor
  · intro h
    unfold stR at h
    simp only at h
    split at h
    · next hh =>
      obtain ⟨hlen, hp, h12, h2, h3, h4⟩ := hh
      injection h with h
      injection h with e1 e2
      refine ⟨(l.drop 9).take 3, by rw [List.length_take, List.length_drop]; omega, by rw [← e1, ← h2], by rw [← e1]; exact h3, by rw [← e2]; exact h4, ?_⟩
      have hl : l = pfxL ++ l.drop 9 := by rw [← hp, List.take_append_drop]
      have hl2 : l.drop 9 = (l.drop 9).take 3 ++ l.drop 12 := by
        rw [show (12 : Nat) = 9 + 3 from rfl, ← List.drop_drop, List.take_append_drop]
      by_cases hgt : 12 < l.length
      · right
        have hx := h12 hgt
        have hd : l.drop 12 = 32 :: l.drop 13 := by
          rw [List.drop_eq_getElem_cons hgt]
          rw [List.getElem?_eq_getElem hgt] at hx
          injection hx with hx
          rw [hx]
        simp only
        rw [← e2, ← hd, ← hl2]
        exact hl
      · left
        have h13 : l.drop 13 = [] := List.drop_eq_nil_of_le (by omega)
        have h12' : l.drop 12 = [] := List.drop_eq_nil_of_le (by omega)
        rw [h12', List.append_nil] at hl2
        rw [← hl2]
        exact ⟨hl, by simp only; rw [← e2, h13]⟩
    · cases h
  · rintro ⟨d, hd, hn, h3, h4, hl⟩
    obtain ⟨d0, d1, d2, rfl⟩ : ∃ a b c, d = [a, b, c] := by
      match d, hd with
      | [a, b, c], _ => exact ⟨a, b, c, rfl⟩
    unfold stR
    simp only at hn h3 h4 hl ⊢
    rcases hl with ⟨hl, hr⟩ | hl
    · subst hl hr
      have e : ((pfxL ++ [d0, d1, d2]).drop 9).take 3 = [d0, d1, d2] := rfl
      have hl12 : (pfxL ++ [d0, d1, d2]).length = 12 := rfl
      rw [e, hn, if_pos ⟨by omega, rfl, fun h => absurd h (by omega), rfl, h3, h4⟩]
      rfl
    · subst hl
      have e : ((pfxL ++ ([d0, d1, d2] ++ 32 :: r)).drop 9).take 3 = [d0, d1, d2] := rfl
      have e2 : (pfxL ++ ([d0, d1, d2] ++ 32 :: r)).drop 13 = r := rfl
      rw [e, hn, e2, if_pos ⟨by simp [pfxL], rfl, fun _ => rfl, rfl, h3, h4⟩]
theorem stR_eq (l : List UInt8) : stR l = stP l := by
  cases h : stP l with
  | some r => exact (stR_is l r).2 ((stP_is l r).1 h)
  | none =>
    cases h2 : stR l with
    | none => rfl
    | some r => rw [(stP_is l r).2 ((stR_is l r).1 h2)] at h; cases h

/-- A code within its bounds; its line. -/
def codeT (c : Int) : Int := min (max c 200) 599
def stLine (s : Sta) : List UInt8 := pfxL ++ prtI 10 (codeT s.1) ++ [32] ++ s.2 ++ [13, 10]
def reqLine (r : Fld) : List UInt8 := r.1 ++ [32] ++ r.2 ++ [32] ++ verL ++ [13, 10]
theorem prt_codes : ∀ n : Fin 400, numR 10 10 isDec (prtI 10 ((n.val : Int) + 200)) 599 = ((n.val : Int) + 200, 0) ∧ (prtI 10 ((n.val : Int) + 200)).length = 3 := by decide +kernel
theorem prt_code (c : Int) (h1 : ¬ c < 200) (h2 : c ≤ 599) : numR 10 10 isDec (prtI 10 c) 599 = (c, 0) ∧ (prtI 10 c).length = 3 := by
  have h := prt_codes ⟨(c - 200).toNat, by omega⟩
  have e : ((c - 200).toNat : Int) + 200 = c := by omega
  simp only [e] at h
  exact h
theorem stP_some {l : List UInt8} {s : Sta} (h : stP l = some s) : ¬ s.1 < 200 ∧ s.1 ≤ 599 ∧ valB s.2 = true ∧ s.2.length ≤ l.length := by
  obtain ⟨d, hd, hn, h3, h4, hl⟩ := (stP_is l s).1 h
  refine ⟨h3, ?_, h4, ?_⟩
  · have := (numR_dec (by rw [hn] : (numR 10 10 isDec d 599).2 = 0)).2.1
    rw [hn] at this; exact this
  · rcases hl with ⟨hl, hr⟩ | hl
    · rw [hr]; exact Nat.zero_le _
    · rw [hl]; simp [pfxL]; omega
/-- A status is read back from its line. -/
theorem st_back {l : List UInt8} {s : Sta} (h : stP l = some s) : stP (pfxL ++ prtI 10 (codeT s.1) ++ [32] ++ s.2) = some s := by
  obtain ⟨h1, h2, h3, _⟩ := stP_some h
  have ec : codeT s.1 = s.1 := by unfold codeT; omega
  obtain ⟨hp, hp3⟩ := prt_code s.1 h1 h2
  rw [ec]
  exact (stP_is _ _).2 ⟨prtI 10 s.1, hp3, hp, h1, h3, .inr (by simp)⟩
theorem req_some {l : List UInt8} {r : Fld} (h : reqP l = some r) : l = r.1 ++ 32 :: (r.2 ++ sfxL) ∧ tokB r.1 = true ∧ tgtB r.2 = true := (reqP_is l r).1 h

/-- The methods that may be asked twice; a target without its query; the words for codes; whether there is a body. -/
def idemB (m : List UInt8) : Bool :=
  decide (m = [71, 69, 84]) || decide (m = [72, 69, 65, 68]) || decide (m = [80, 85, 84]) || decide (m = [68, 69, 76, 69, 84, 69]) || decide (m = [79, 80, 84, 73, 79, 78, 83]) || decide (m = [84, 82, 65, 67, 69])
def pathL (t : List UInt8) : List UInt8 := (Lib.cut t [63]).1
def reasonL (c : Int) : List UInt8 :=
  if c = 200 then [79, 75]
  else if c = 400 then [66, 97, 100, 32, 82, 101, 113, 117, 101, 115, 116]
  else if c = 413 then [67, 111, 110, 116, 101, 110, 116, 32, 84, 111, 111, 32, 76, 97, 114, 103, 101]
  else if c = 431 then [82, 101, 113, 117, 101, 115, 116, 32, 72, 101, 97, 100, 101, 114, 32, 70, 105, 101, 108, 100, 115, 32, 84, 111, 111, 32, 76, 97, 114, 103, 101]
  else if c = 502 then [66, 97, 100, 32, 71, 97, 116, 101, 119, 97, 121]
  else if c = 503 then [83, 101, 114, 118, 105, 99, 101, 32, 85, 110, 97, 118, 97, 105, 108, 97, 98, 108, 101]
  else if c = 504 then [71, 97, 116, 101, 119, 97, 121, 32, 84, 105, 109, 101, 111, 117, 116]
  else []
def bodB (m : List UInt8) (c : Int) : Bool := !(decide (m = [72, 69, 65, 68]) || decide (c = 204) || decide (c = 304))
end Go.Proofs.YtbbphklhnngjmaaGreatDoor

/- start: Check, Line, Path, Idempotent, Bodied, ParseRequest. -/
namespace Go.Proofs.YtbbphklhnngjmaaGreatDoor
open Go.RowKit

theorem cut_c (c : UInt8) (s : ByteArray) (hs : s.size ≤ 4000000000) (a b : List UInt8) (q : Bool) (h : Lib.cut s.data.toList [c] = (a, b, q)) (w : World) (hw : MaxL w) :
    Calls Tryz.prog 130 #[.string s, .string ⟨#[c]⟩] w fun e w' => e = .returned (.tuple #[.string (bs a), .string (bs b), .bool q]) ∧ Below w.heap.size w w' := by
  obtain ⟨_, m, hm⟩ := hw
  refine (Tryz.strings_Cut s ⟨#[c]⟩ m w (by omega) hm).mono fun e w' ⟨he, n, hn⟩ => ⟨?_, ?_⟩
  · rw [he]
    have h2 : Lib.cut s.data.toList (⟨#[c]⟩ : ByteArray).data.toList = (a, b, q) := h
    rw [h2]; rfl
  · subst hn; exact ⟨rfl, rfl, rfl, Nat.le_refl _, fun _ _ => rfl⟩
theorem sfx_c (s : ByteArray) (hs : s.size ≤ 4000000000) (a : List UInt8) (q : Bool) (h1 : Lib.trimSuffix s.data.toList sfxL = a) (h2 : Lib.hasSuffix s.data.toList sfxL = q) (w : World) :
    Calls Tryz.prog 129 #[.string s, .string ⟨#[32, 72, 84, 84, 80, 47, 49, 46, 49]⟩] w fun e w' => e = .returned (.tuple #[.string (bs a), .bool q]) ∧ w = w' := by
  refine (Tryz.strings_CutSuffix s ⟨#[32, 72, 84, 84, 80, 47, 49, 46, 49]⟩ w (by omega)).mono fun e w' ⟨he, hw⟩ => ⟨?_, hw.symm⟩
  rw [he]
  have h3 : Lib.trimSuffix s.data.toList (⟨#[32, 72, 84, 84, 80, 47, 49, 46, 49]⟩ : ByteArray).data.toList = a := h1
  have h4 : Lib.hasSuffix s.data.toList (⟨#[32, 72, 84, 84, 80, 47, 49, 46, 49]⟩ : ByteArray).data.toList = q := h2
  rw [h3, h4]; rfl
theorem pfx_c (s : ByteArray) (a : List UInt8) (q : Bool) (h1 : Lib.trimPrefix s.data.toList pfxL = a) (h2 : Lib.hasPrefix s.data.toList pfxL = q) (w : World) :
    Calls Tryz.prog 135 #[.string s, .string ⟨#[72, 84, 84, 80, 47, 49, 46, 49, 32]⟩] w fun e w' => e = .returned (.tuple #[.string (bs a), .bool q]) ∧ w = w' := by
  refine (Tryz.strings_CutPrefix s ⟨#[72, 84, 84, 80, 47, 49, 46, 49, 32]⟩ w).mono fun e w' ⟨he, hw⟩ => ⟨?_, hw.symm⟩
  rw [he]
  have h3 : Lib.trimPrefix s.data.toList (⟨#[72, 84, 84, 80, 47, 49, 46, 49, 32]⟩ : ByteArray).data.toList = a := h1
  have h4 : Lib.hasPrefix s.data.toList (⟨#[72, 84, 84, 80, 47, 49, 46, 49, 32]⟩ : ByteArray).data.toList = q := h2
  rw [h3, h4]; rfl
theorem target_l (l : List UInt8) (hl : l.length ≤ 4000000000) (q : Bool) (h : tgtB l = q) (w : World) :
    Calls Tryz.prog 152 #[.string (bs l)] w fun e w' => e = .returned (.bool q) ∧ w = w' := by
  subst h; exact target16 (bs l) (by rw [bs_size]; omega) w
set_option maxHeartbeats 1000000 in
theorem check12 (m t : List UInt8) (hm : m.length ≤ 4000000000) (ht : t.length ≤ 4000000000) (z : Int) (hz : (if tokB m = true ∧ tgtB t = true then (0 : Int) else 2) = z) (w : World) :
    Calls Tryz.prog 131 #[.agg #[.string (bs m), .string (bs t)]] w fun e w' => e = .returned (.int .i64 z) ∧ Below w.heap.size w w' := by
  obtain ⟨q1, h1⟩ : ∃ q, tokB m = q := ⟨_, rfl⟩
  obtain ⟨q2, h2⟩ : ∃ q, tgtB t = q := ⟨_, rfl⟩
  have K1 := Lib.hid (fun W => token_l m hm q1 h1 W)
  have K2 := Lib.hid (fun W => target_l t ht q2 h2 W)
  rw [h1, h2] at hz
  clear h1 h2 hm ht
  have L0 := below_alloc w (.cells #[.string (bs m), .string (bs t)] 43)
  generalize bs m = M at *
  generalize bs t = T at *
  cases q1
  · rw [if_neg (by simp)] at hz
    subst hz
    go_enter Tryz.func131, Tryz.ntmps131
    go_wp2_with (first | (go_at_call 151; refine (K1.out _).mono ?_; rintro e w' ⟨rfl, rfl⟩) | (go_at_call 152; refine (K2.out _).mono ?_; rintro e w' ⟨rfl, rfl⟩))
    go_ret
    exact ⟨rfl, L0⟩
  · cases q2
    · rw [if_neg (by simp)] at hz
      subst hz
      go_enter Tryz.func131, Tryz.ntmps131
      go_wp2_with (first | (go_at_call 151; refine (K1.out _).mono ?_; rintro e w' ⟨rfl, rfl⟩) | (go_at_call 152; refine (K2.out _).mono ?_; rintro e w' ⟨rfl, rfl⟩))
      go_ret
      exact ⟨rfl, L0⟩
    · rw [if_pos (by simp)] at hz
      subst hz
      go_enter Tryz.func131, Tryz.ntmps131
      go_wp2_with (first | (go_at_call 151; refine (K1.out _).mono ?_; rintro e w' ⟨rfl, rfl⟩) | (go_at_call 152; refine (K2.out _).mono ?_; rintro e w' ⟨rfl, rfl⟩))
      go_ret
      exact ⟨rfl, L0⟩
set_option maxHeartbeats 1000000 in
theorem rline11 (a b : List UInt8) (h1 : a.length ≤ 4000000000) (h2 : b.length ≤ 4000000000) (w : World) :
    Calls Tryz.prog 61 #[.agg #[.string (bs a), .string (bs b)]] w fun e w' => e = .returned (.string (bs (reqLine (a, b)))) ∧ Below w.heap.size w w' := by
  have A1 := fun W => add_str a [32] (by simp; omega) W
  have A2 := fun W => add_str (a ++ [32]) b (by simp; omega) W
  have A3 := fun W => add_str (a ++ [32] ++ b) [32] (by simp; omega) W
  have A4 := fun W => add_str (a ++ [32] ++ b ++ [32]) verL (by simp [verL]; omega) W
  have A5 := fun W => add_str (a ++ [32] ++ b ++ [32] ++ verL) [13, 10] (by simp [verL]; omega) W
  have e32 : bs [32] = ⟨#[32]⟩ := rfl
  have ev : bs verL = ⟨#[72, 84, 84, 80, 47, 49, 46, 49]⟩ := rfl
  have e13 : bs [13, 10] = ⟨#[13, 10]⟩ := rfl
  rw [e32] at A1 A3
  rw [ev] at A4
  rw [e13] at A5
  have hl : reqLine (a, b) = a ++ [32] ++ b ++ [32] ++ verL ++ [13, 10] := rfl
  rw [hl]
  generalize hx5 : bs (a ++ [32] ++ b ++ [32] ++ verL ++ [13, 10]) = x5 at *
  generalize hx4 : bs (a ++ [32] ++ b ++ [32] ++ verL) = x4 at *
  generalize hx3 : bs (a ++ [32] ++ b ++ [32]) = x3 at *
  generalize hx2 : bs (a ++ [32] ++ b) = x2 at *
  generalize hx1 : bs (a ++ [32]) = x1 at *
  generalize bs a = x0 at *
  generalize bs b = y0 at *
  clear hx5 hx4 hx3 hx2 hx1 e32 ev e13 hl h1 h2
  go_enter Tryz.func61, Tryz.ntmps61
  go_wp2_with fail
  go_ret
  exact ⟨rfl, below_alloc w _⟩
set_option maxHeartbeats 1000000 in
theorem bodied24 (m : List UInt8) (c : Int) (q1 q2 q3 : Bool) (h1 : decide (m = [72, 69, 65, 68]) = q1) (h2 : decide (c = 204) = q2) (h3 : decide (c = 304) = q3) (w : World) :
    Calls Tryz.prog 64 #[.string (bs m), .int .i64 c] w fun e w' => e = .returned (.bool (!(q1 || q2 || q3))) ∧ w = w' := by
  have c1 : ((bs m).toList == [72, 69, 65, 68]) = q1 := str_lit m _ q1 h1
  clear h1
  generalize bs m = M at *
  have c2 : (c == 204) = q2 := by rw [← h2]; rfl
  have c3 : (c == 304) = q3 := by rw [← h3]; rfl
  have d2 : (c != 204) = !q2 := by rw [bne, c2]
  have d3 : (c != 304) = !q3 := by rw [bne, c3]
  clear h2 h3
  cases q1 <;> cases q2 <;> cases q3
  all_goals
    simp only [Bool.not_true, Bool.not_false] at d2 d3
    go_enter Tryz.func64, Tryz.ntmps64
    go_wp2_with fail
    go_ret
    exact ⟨rfl, rfl⟩
end Go.Proofs.YtbbphklhnngjmaaGreatDoor

/- start: ParseRequest. -/
namespace Go.Proofs.YtbbphklhnngjmaaGreatDoor
open Go.RowKit

/-- What a parse returns: a pair of texts, or nothing and the error. -/
def reqO (o : Option Fld) : Value := match o with
  | some f => .tuple #[fldV f, .int .i64 0]
  | none => .tuple #[fldV ([], []), .int .i64 2]
set_option maxRecDepth 100000 in
set_option maxHeartbeats 2000000 in
theorem preq9 (s : ByteArray) (hs : s.size ≤ 4000000000) (w : World) (hw : MaxL w) :
    Calls Tryz.prog 113 #[.string s] w fun e w' => e = .returned (reqO (reqP s.data.toList)) ∧ Below w.heap.size w w' := by
  obtain ⟨R, hR⟩ : ∃ R, R = reqO (reqP s.data.toList) := ⟨_, rfl⟩
  rw [← hR]
  have hz := Lib.size_eq s
  have L0 := below_alloc w (.cells #[.string ⟨#[]⟩, .string ⟨#[]⟩] 43)
  have hmx := hw.below L0
  obtain ⟨a, ha⟩ : ∃ a, Lib.trimSuffix s.data.toList sfxL = a := ⟨_, rfl⟩
  obtain ⟨q0, h0⟩ : ∃ q, Lib.hasSuffix s.data.toList sfxL = q := ⟨_, rfl⟩
  have hal : a.length ≤ 4000000000 := by rw [← ha]; exact Nat.le_trans (Lib.trimSuffix_le _ _) (by omega)
  obtain ⟨m, t, q, hc⟩ : ∃ m t q, Lib.cut a [32] = (m, t, q) := ⟨_, _, _, rfl⟩
  have hmt := cut_lens 32 a m t q hc
  have hml : m.length ≤ 4000000000 := by omega
  have htl : t.length ≤ 4000000000 := by omega
  have hrv : reqP s.data.toList = if q0 = true ∧ tokB m = true ∧ tgtB t = true then some (m, t) else none := by
    unfold reqP
    simp only [ha, h0, hc]
  rw [hrv] at hR
  have HS := Lib.hid (fun W => sfx_c s hs a q0 ha h0 W)
  have HC := Lib.hid (cut_c 32 (bs a) (by rw [bs_size]; exact hal) m t q hc _ hmx)
  by_cases hq : q0 = true
  · subst hq
    obtain ⟨z, hzz⟩ : ∃ z, (if tokB m = true ∧ tgtB t = true then (0 : Int) else 2) = z := ⟨_, rfl⟩
    have HK := Lib.hid (fun W => check12 m t hml htl z hzz W)
    by_cases hv : tokB m = true ∧ tgtB t = true
    · rw [if_pos hv] at hzz
      rw [if_pos ⟨rfl, hv⟩] at hR
      subst hzz
      have HR := Lib.hid hR
      clear hR hrv hc ha h0 hz hw hmx hmt hml htl hal hv
      generalize bs a = A at *
      have hR2 : Hid (R = .tuple #[.agg #[.string (bs m), .string (bs t)], .int .i64 0]) := HR.out
      clear HR
      generalize bs m = M at *
      generalize bs t = T at *
      go_enter Tryz.func113, Tryz.ntmps113
      go_wp2_with fail
      refine (HS.out _).mono ?_
      rintro e w' ⟨rfl, rfl⟩
      go_wp2_with fail
      refine HC.out.mono ?_
      rintro e w1 ⟨rfl, hb1⟩
      have f1 := (bcell hb1).1 w.heap.size
      have z1 := (bcell hb1).2 w.heap.size
      have hs1 := hb1.size
      simp at hs1
      have c0 : w1.cell? ⟨w.heap.size, 0, none⟩ = some (.string ⟨#[]⟩) := by rw [f1 0 (by simp)]; simp
      have c1 : w1.cell? ⟨w.heap.size, 1, none⟩ = some (.string ⟨#[]⟩) := by rw [f1 1 (by simp)]; simp
      have d0 : w1.frozen? ⟨w.heap.size, 0, none⟩ = false := by rw [z1 0 (by simp)]; simp
      have d1 : w1.frozen? ⟨w.heap.size, 1, none⟩ = false := by rw [z1 1 (by simp)]; simp
      have b1 := L0.trans (hb1.mono (by simp))
      clear f1 z1 L0 HC HS hb1
      go_wp2_with fail
      have L1 := below_alloc w1 (.cells #[.string M, .string T] 43)
      have r0 : (w1.alloc (.cells #[.string M, .string T] 43)).cell? ⟨w1.heap.size, 0, none⟩ = some (.string M) := by simp
      have r1 : (w1.alloc (.cells #[.string M, .string T] 43)).cell? ⟨w1.heap.size, 1, none⟩ = some (.string T) := by simp
      have c10 : (w1.alloc (.cells #[.string M, .string T] 43)).cell? ⟨w.heap.size, 0, none⟩ = some (.string ⟨#[]⟩) := by rw [(bcell L1).1 _ _ (by omega), c0]
      have c11 : (w1.alloc (.cells #[.string M, .string T] 43)).cell? ⟨w.heap.size, 1, none⟩ = some (.string ⟨#[]⟩) := by rw [(bcell L1).1 _ _ (by omega), c1]
      have d10 : (w1.alloc (.cells #[.string M, .string T] 43)).frozen? ⟨w.heap.size, 0, none⟩ = false := by rw [(bcell L1).2 _ _ (by omega), d0]
      have d11 : (w1.alloc (.cells #[.string M, .string T] 43)).frozen? ⟨w.heap.size, 1, none⟩ = false := by rw [(bcell L1).2 _ _ (by omega), d1]
      have hsz : (w1.alloc (.cells #[.string M, .string T] 43)).heap.size = w1.heap.size + 1 := by simp
      have b2 := b1.trans (L1.mono b1.size)
      clear c0 c1 d0 d1 L1 b1
      generalize World.alloc w1 _ = w2 at *
      refine (HK.out w2).mono ?_
      rintro e w3 ⟨rfl, hb3⟩
      have f3 := (bcell hb3).1
      have z3 := (bcell hb3).2
      have s30 : w3.cell? ⟨w1.heap.size, 0, none⟩ = some (.string M) := by rw [f3 _ _ (by omega), r0]
      have s31 : w3.cell? ⟨w1.heap.size, 1, none⟩ = some (.string T) := by rw [f3 _ _ (by omega), r1]
      have c30 : w3.cell? ⟨w.heap.size, 0, none⟩ = some (.string ⟨#[]⟩) := by rw [f3 _ _ (by omega), c10]
      have c31 : w3.cell? ⟨w.heap.size, 1, none⟩ = some (.string ⟨#[]⟩) := by rw [f3 _ _ (by omega), c11]
      have d30 : w3.frozen? ⟨w.heap.size, 0, none⟩ = false := by rw [z3 _ _ (by omega), d10]
      have d31 : w3.frozen? ⟨w.heap.size, 1, none⟩ = false := by rw [z3 _ _ (by omega), d11]
      have b3 := b2.trans (hb3.mono b2.size)
      clear f3 z3 r0 r1 c10 c11 d10 d11 b2 hb3 HK
      go_wp2_with fail
      refine bodyPost_ret (v := .tuple #[.agg #[.string M, .string T], .int .i64 0]) (by simp [results, Tryz.results113, go_sem, c30, c31]) rfl ⟨by rw [hR2.out], ?_⟩
      exact (b3.setCell (p := ⟨w.heap.size, 0, none⟩) (Nat.le_refl _) _).setCell (p := ⟨w.heap.size, 1, none⟩) (Nat.le_refl _) _
    · rw [if_neg hv] at hzz
      rw [if_neg (fun h => hv h.2)] at hR
      subst hzz
      have HR := Lib.hid hR
      clear hR hrv hc ha h0 hz hw hmx hmt hml htl hal hv
      generalize bs a = A at *
      have hR2 : Hid (R = .tuple #[.agg #[.string ⟨#[]⟩, .string ⟨#[]⟩], .int .i64 2]) := HR.out
      clear HR
      generalize bs m = M at *
      generalize bs t = T at *
      go_enter Tryz.func113, Tryz.ntmps113
      go_wp2_with fail
      refine (HS.out _).mono ?_
      rintro e w' ⟨rfl, rfl⟩
      go_wp2_with fail
      refine HC.out.mono ?_
      rintro e w1 ⟨rfl, hb1⟩
      have f1 := (bcell hb1).1 w.heap.size
      have z1 := (bcell hb1).2 w.heap.size
      have hs1 := hb1.size
      simp at hs1
      have c0 : w1.cell? ⟨w.heap.size, 0, none⟩ = some (.string ⟨#[]⟩) := by rw [f1 0 (by simp)]; simp
      have c1 : w1.cell? ⟨w.heap.size, 1, none⟩ = some (.string ⟨#[]⟩) := by rw [f1 1 (by simp)]; simp
      have d0 : w1.frozen? ⟨w.heap.size, 0, none⟩ = false := by rw [z1 0 (by simp)]; simp
      have d1 : w1.frozen? ⟨w.heap.size, 1, none⟩ = false := by rw [z1 1 (by simp)]; simp
      have b1 := L0.trans (hb1.mono (by simp))
      clear f1 z1 L0 HC HS hb1
      go_wp2_with fail
      have L1 := below_alloc w1 (.cells #[.string M, .string T] 43)
      have c10 : (w1.alloc (.cells #[.string M, .string T] 43)).cell? ⟨w.heap.size, 0, none⟩ = some (.string ⟨#[]⟩) := by rw [(bcell L1).1 _ _ (by omega), c0]
      have c11 : (w1.alloc (.cells #[.string M, .string T] 43)).cell? ⟨w.heap.size, 1, none⟩ = some (.string ⟨#[]⟩) := by rw [(bcell L1).1 _ _ (by omega), c1]
      have d10 : (w1.alloc (.cells #[.string M, .string T] 43)).frozen? ⟨w.heap.size, 0, none⟩ = false := by rw [(bcell L1).2 _ _ (by omega), d0]
      have d11 : (w1.alloc (.cells #[.string M, .string T] 43)).frozen? ⟨w.heap.size, 1, none⟩ = false := by rw [(bcell L1).2 _ _ (by omega), d1]
      have hsz : (w1.alloc (.cells #[.string M, .string T] 43)).heap.size = w1.heap.size + 1 := by simp
      have b2 := b1.trans (L1.mono b1.size)
      clear c0 c1 d0 d1 L1 b1
      generalize World.alloc w1 _ = w2 at *
      refine (HK.out w2).mono ?_
      rintro e w3 ⟨rfl, hb3⟩
      have f3 := (bcell hb3).1
      have z3 := (bcell hb3).2
      have c30 : w3.cell? ⟨w.heap.size, 0, none⟩ = some (.string ⟨#[]⟩) := by rw [f3 _ _ (by omega), c10]
      have c31 : w3.cell? ⟨w.heap.size, 1, none⟩ = some (.string ⟨#[]⟩) := by rw [f3 _ _ (by omega), c11]
      have d30 : w3.frozen? ⟨w.heap.size, 0, none⟩ = false := by rw [z3 _ _ (by omega), d10]
      have d31 : w3.frozen? ⟨w.heap.size, 1, none⟩ = false := by rw [z3 _ _ (by omega), d11]
      have b3 := b2.trans (hb3.mono b2.size)
      clear f3 z3 c10 c11 d10 d11 b2 hb3 HK
      go_wp2_with fail
      refine bodyPost_ret (v := .tuple #[.agg #[.string ⟨#[]⟩, .string ⟨#[]⟩], .int .i64 2]) (by simp [results, Tryz.results113, go_sem, c30, c31]) rfl ⟨by rw [hR2.out], ?_⟩
      exact (b3.setCell (p := ⟨w.heap.size, 0, none⟩) (Nat.le_refl _) _).setCell (p := ⟨w.heap.size, 1, none⟩) (Nat.le_refl _) _
  · rw [if_neg (fun h => hq h.1)] at hR
    obtain rfl : q0 = false := by simpa using hq
    have hR2 : Hid (R = .tuple #[.agg #[.string ⟨#[]⟩, .string ⟨#[]⟩], .int .i64 2]) := hR
    clear hR hrv hc ha h0 hz hw hmx hmt hml htl hal hq
    generalize bs a = A at *
    generalize bs m = M at *
    generalize bs t = T at *
    go_enter Tryz.func113, Tryz.ntmps113
    go_wp2_with fail
    refine (HS.out _).mono ?_
    rintro e w' ⟨rfl, rfl⟩
    go_wp2_with fail
    refine HC.out.mono ?_
    rintro e w1 ⟨rfl, hb1⟩
    have f1 := (bcell hb1).1 w.heap.size
    have z1 := (bcell hb1).2 w.heap.size
    have hs1 := hb1.size
    simp at hs1
    have c0 : w1.cell? ⟨w.heap.size, 0, none⟩ = some (.string ⟨#[]⟩) := by rw [f1 0 (by simp)]; simp
    have c1 : w1.cell? ⟨w.heap.size, 1, none⟩ = some (.string ⟨#[]⟩) := by rw [f1 1 (by simp)]; simp
    have d0 : w1.frozen? ⟨w.heap.size, 0, none⟩ = false := by rw [z1 0 (by simp)]; simp
    have d1 : w1.frozen? ⟨w.heap.size, 1, none⟩ = false := by rw [z1 1 (by simp)]; simp
    have b1 := L0.trans (hb1.mono (by simp))
    clear f1 z1 L0 HC HS hb1
    have L1 := below_alloc w1 (.cells #[.string M, .string T] 43)
    have c10 : (w1.alloc (.cells #[.string M, .string T] 43)).cell? ⟨w.heap.size, 0, none⟩ = some (.string ⟨#[]⟩) := by rw [(bcell L1).1 _ _ (by omega), c0]
    have c11 : (w1.alloc (.cells #[.string M, .string T] 43)).cell? ⟨w.heap.size, 1, none⟩ = some (.string ⟨#[]⟩) := by rw [(bcell L1).1 _ _ (by omega), c1]
    have d10 : (w1.alloc (.cells #[.string M, .string T] 43)).frozen? ⟨w.heap.size, 0, none⟩ = false := by rw [(bcell L1).2 _ _ (by omega), d0]
    have d11 : (w1.alloc (.cells #[.string M, .string T] 43)).frozen? ⟨w.heap.size, 1, none⟩ = false := by rw [(bcell L1).2 _ _ (by omega), d1]
    have b2 := b1.trans (L1.mono b1.size)
    clear c0 c1 d0 d1 b1
    go_wp2_with fail
    generalize World.alloc w1 _ = w2 at *
    refine bodyPost_ret (v := .tuple #[.agg #[.string ⟨#[]⟩, .string ⟨#[]⟩], .int .i64 2]) (by simp [results, Tryz.results113, go_sem, c10, c11]) rfl ⟨by rw [hR2.out], ?_⟩
    exact (b2.setCell (p := ⟨w.heap.size, 0, none⟩) (Nat.le_refl _) _).setCell (p := ⟨w.heap.size, 1, none⟩) (Nat.le_refl _) _
end Go.Proofs.YtbbphklhnngjmaaGreatDoor

/- The reference's Number; the walk of the statement OctetNumbers. -/
namespace Go.Proofs.YtbbphklhnngjmaaGreatDoor
open Go.RowKit

theorem hex_cases (c : UInt8) (q : Bool) (hq : isHex c = q) : (isDec c = true ∧ q = true ∧ (c.toNat : Int) - 48 = dgt c ∧ 48 ≤ c.toNat ∧ c.toNat ≤ 57)
    ∨ (isDec c = false ∧ q = true ∧ (c.toNat : Int) - 87 = dgt c ∧ 97 ≤ c.toNat ∧ c.toNat ≤ 102) ∨ (isDec c = false ∧ q = true ∧ (c.toNat : Int) - 55 = dgt c ∧ 65 ≤ c.toNat ∧ c.toNat ≤ 70)
    ∨ (isDec c = false ∧ q = false ∧ (c.toNat < 97 ∨ 102 < c.toNat) ∧ (c.toNat < 65 ∨ 70 < c.toNat)) := by
  subst hq; revert c; apply all256; decide +kernel
theorem dec_cases (c : UInt8) (q : Bool) (hq : isDec c = q) : (q = true ∧ (c.toNat : Int) - 48 = dgt c ∧ 48 ≤ c.toNat ∧ c.toNat ≤ 57) ∨ q = false := by
  subst hq; revert c; apply all256; decide +kernel

set_option maxRecDepth 100000 in
set_option maxHeartbeats 2000000 in
theorem num27_10 (s : ByteArray) (hs : s.size ≤ 1000000) (most : Int) (r1 r2 : Int) (hr : numR 10 10 isDec s.data.toList most = (r1, r2)) (w : World) :
    Calls Tryz.prog 86 #[.string s, .int .i64 10, .int .i64 most] w fun e w' => e = .returned (.tuple #[.int .i64 r1, .int .i64 r2]) ∧ w = w' := by
  have hz := Lib.size_eq s
  unfold numR at hr
  by_cases h1 : s.size < 1
  · rw [if_pos (.inl (by omega))] at hr
    injection hr with e1 e2
    subst e1
    subst e2
    have : (s.size : Int) < 1 := by omega
    clear hz
    go_enter Tryz.func86, Tryz.ntmps86
    go_wp2_with fail
    go_ret2
    exact ⟨rfl, rfl⟩
  by_cases h2 : 10 < s.size
  · rw [if_pos (.inr (.inl (by omega)))] at hr
    injection hr with e1 e2
    subst e1
    subst e2
    have : ¬ (s.size : Int) < 1 := by omega
    have : (s.size : Int) > 10 := by omega
    clear hz
    go_enter Tryz.func86, Tryz.ntmps86
    go_wp2_with fail
    go_ret2
    exact ⟨rfl, rfl⟩
  have HR := Lib.hid hr
  have HZ := Lib.hid hz
  have g1 : ¬ (s.size : Int) < 1 := by omega
  have g2 : ¬ (s.size : Int) > 10 := by omega
  clear hr hz
  go_enter Tryz.func86, Tryz.ntmps86
  go_wp2_with fail
  go_loop [9, 10] (fun n i => ∃ j : Nat, j ≤ s.size ∧ i = .int .i64 (j : Int) ∧ n = .int .i64 (numD 10 (s.data.toList.take j)) ∧ Hid ((s.data.toList.take j).all isDec = true)) (fun _ i => s.size - (intOf i).toNat)
  case atStart => exact ⟨0, Nat.zero_le _, rfl, rfl, by simp [Hid]⟩
  case round =>
    obtain ⟨j, hj, rfl, rfl, hal⟩ := hrel
    have hnl := numD_lt 10 isDec (fun c h => dec_dgt c h) (s.data.toList.take j) hal.out
    have hn0 : 0 ≤ numD 10 (s.data.toList.take j) := hnl.1
    have hpw : 10 ^ (s.data.toList.take j).length ≤ 10 ^ 10 := Nat.pow_le_pow_right (by decide) (by rw [List.length_take]; omega)
    have hn1 : numD 10 (s.data.toList.take j) < 10000000000 := by
      have := hnl.2
      have h2 : ((10 ^ (s.data.toList.take j).length : Nat) : Int) ≤ ((10 ^ 10 : Nat) : Int) := by exact_mod_cast hpw
      have h3 : ((10 ^ 10 : Nat) : Int) = 10000000000 := by decide
      have h4 : (((10 : Nat) : Int)) = 10 := rfl
      rw [h4] at this
      omega
    by_cases hlt : j < s.size
    · have hst : numD 10 (s.data.toList.take (j + 1)) = 10 * numD 10 (s.data.toList.take j) + dgt s[j] := by rw [take_snoc s j hlt, numD_snoc]
      obtain ⟨n, hn⟩ : ∃ n, n = numD 10 (s.data.toList.take j) := ⟨_, rfl⟩
      rw [← hn] at hst hn0 hn1 ⊢
      have HS := Lib.hid hst
      have hc8 := byte_lt s[j]
      obtain ⟨q, hq⟩ : ∃ q, isDec s[j] = q := ⟨_, rfl⟩
      have HN : Hid (q = false → r1 = 0 ∧ r2 = 2) := fun e => by
        have h := HR.out
        rw [if_pos (.inr (.inr (all_no s isDec j hlt (hq.trans e))))] at h
        injection h with e1 e2
        exact ⟨e1.symm, e2.symm⟩
      have HY : Hid (q = true → (s.data.toList.take (j + 1)).all isDec = true) := fun e => all_step s isDec j hlt hal.out (hq.trans e)
      clear hst hnl hpw hn hal
      have hcs := dec_cases s[j] q hq
      have HD := Lib.hid (digit59 s[j] q hq)
      clear hq
      rcases hcs with ⟨rfl, hd, h1, h2⟩ | rfl
      · have hdv := Lib.hid hd
        have k1 : (48 : Int) ≤ s[j].toNat := by omega
        have k2 : (s[j].toNat : Int) ≤ 57 := by omega
        clear hd
        go_wp2_with (go_at_call 88; refine (HD.out _).mono ?_; rintro e w' ⟨rfl, rfl⟩)
        go_round
        case rel => exact ⟨j + 1, by omega, by go_num, by rw [HS.out, ← hdv.out], HY.out trivial⟩
        case measure => simp [intOf]; omega
      · skip
        go_wp2_with (go_at_call 88; refine (HD.out _).mono ?_; rintro e w' ⟨rfl, rfl⟩)
        go_ret2
        obtain ⟨e1, e2⟩ := HN.out trivial
        exact ⟨by rw [e1, e2]; rfl, rfl⟩
    · have hf := all_full s isDec j hlt hal.out
      have hfull : s.data.toList.take j = s.data.toList := List.take_of_length_le (by have := HZ.out; omega)
      rw [hfull] at hn0 hn1 ⊢
      have hv := HR.out
      rw [if_neg (by have := HZ.out; rintro (h | h | h); (· omega); (· omega); (· rw [hf] at h; cases h))] at hv
      clear hal hf hfull hnl hpw
      generalize numD 10 s.data.toList = n at *
      by_cases hm : most < n
      · rw [if_pos hm] at hv
        injection hv with e1 e2
        subst e1
        subst e2
        have : n > most := hm
        go_wp2_with fail
        go_ret2
        exact ⟨rfl, rfl⟩
      · rw [if_neg hm] at hv
        injection hv with e1 e2
        subst e1
        subst e2
        have : ¬ n > most := hm
        go_wp2_with fail
        go_ret2
        exact ⟨rfl, rfl⟩

set_option maxRecDepth 100000 in
set_option maxHeartbeats 2000000 in
theorem num27_16 (s : ByteArray) (hs : s.size ≤ 1000000) (most : Int) (r1 r2 : Int) (hr : numR 16 8 isHex s.data.toList most = (r1, r2)) (w : World) :
    Calls Tryz.prog 86 #[.string s, .int .i64 16, .int .i64 most] w fun e w' => e = .returned (.tuple #[.int .i64 r1, .int .i64 r2]) ∧ w = w' := by
  have hz := Lib.size_eq s
  unfold numR at hr
  by_cases h1 : s.size < 1
  · rw [if_pos (.inl (by omega))] at hr
    injection hr with e1 e2
    subst e1
    subst e2
    have : (s.size : Int) < 1 := by omega
    clear hz
    go_enter Tryz.func86, Tryz.ntmps86
    go_wp2_with fail
    go_ret2
    exact ⟨rfl, rfl⟩
  by_cases h2 : 8 < s.size
  · rw [if_pos (.inr (.inl (by omega)))] at hr
    injection hr with e1 e2
    subst e1
    subst e2
    have : ¬ (s.size : Int) < 1 := by omega
    have : (s.size : Int) > 8 := by omega
    clear hz
    go_enter Tryz.func86, Tryz.ntmps86
    go_wp2_with fail
    go_ret2
    exact ⟨rfl, rfl⟩
  have HR := Lib.hid hr
  have HZ := Lib.hid hz
  have g1 : ¬ (s.size : Int) < 1 := by omega
  have g2 : ¬ (s.size : Int) > 8 := by omega
  clear hr hz
  go_enter Tryz.func86, Tryz.ntmps86
  go_wp2_with fail
  go_loop [9, 10] (fun n i => ∃ j : Nat, j ≤ s.size ∧ i = .int .i64 (j : Int) ∧ n = .int .i64 (numD 16 (s.data.toList.take j)) ∧ Hid ((s.data.toList.take j).all isHex = true)) (fun _ i => s.size - (intOf i).toNat)
  case atStart => exact ⟨0, Nat.zero_le _, rfl, rfl, by simp [Hid]⟩
  case round =>
    obtain ⟨j, hj, rfl, rfl, hal⟩ := hrel
    have hnl := numD_lt 16 isHex (fun c h => hex_dgt c h) (s.data.toList.take j) hal.out
    have hn0 : 0 ≤ numD 16 (s.data.toList.take j) := hnl.1
    have hpw : 16 ^ (s.data.toList.take j).length ≤ 16 ^ 8 := Nat.pow_le_pow_right (by decide) (by rw [List.length_take]; omega)
    have hn1 : numD 16 (s.data.toList.take j) < 4294967296 := by
      have := hnl.2
      have h2 : ((16 ^ (s.data.toList.take j).length : Nat) : Int) ≤ ((16 ^ 8 : Nat) : Int) := by exact_mod_cast hpw
      have h3 : ((16 ^ 8 : Nat) : Int) = 4294967296 := by decide
      have h4 : (((16 : Nat) : Int)) = 16 := rfl
      rw [h4] at this
      omega
    by_cases hlt : j < s.size
    · have hst : numD 16 (s.data.toList.take (j + 1)) = 16 * numD 16 (s.data.toList.take j) + dgt s[j] := by rw [take_snoc s j hlt, numD_snoc]
      obtain ⟨n, hn⟩ : ∃ n, n = numD 16 (s.data.toList.take j) := ⟨_, rfl⟩
      rw [← hn] at hst hn0 hn1 ⊢
      have HS := Lib.hid hst
      have hc8 := byte_lt s[j]
      obtain ⟨q, hq⟩ : ∃ q, isHex s[j] = q := ⟨_, rfl⟩
      have HN : Hid (q = false → r1 = 0 ∧ r2 = 2) := fun e => by
        have h := HR.out
        rw [if_pos (.inr (.inr (all_no s isHex j hlt (hq.trans e))))] at h
        injection h with e1 e2
        exact ⟨e1.symm, e2.symm⟩
      have HY : Hid (q = true → (s.data.toList.take (j + 1)).all isHex = true) := fun e => all_step s isHex j hlt hal.out (hq.trans e)
      clear hst hnl hpw hn hal
      have hcs := hex_cases s[j] q hq
      clear hq
      rcases hcs with ⟨hdc, rfl, hd, h1, h2⟩ | ⟨hdc, rfl, hd, h1, h2⟩ | ⟨hdc, rfl, hd, h1, h2⟩ | ⟨hdc, rfl, h1, h2⟩
      · have HD := Lib.hid (digit59 s[j] _ hdc)
        have : (48 : Int) ≤ s[j].toNat := by omega
        have : (s[j].toNat : Int) ≤ 57 := by omega
        have : ¬ (s[j].toNat : Int) ≥ 97 := by omega
        have : ¬ (s[j].toNat : Int) ≥ 65 := by omega
        have hdv := Lib.hid hd
        clear hd hdc
        go_wp2_with (go_at_call 88; refine (HD.out _).mono ?_; rintro e w' ⟨rfl, rfl⟩)
        go_round
        case rel => exact ⟨j + 1, by omega, by go_num, by rw [HS.out, ← hdv.out], HY.out trivial⟩
        case measure => simp [intOf]; omega
      · have HD := Lib.hid (digit59 s[j] _ hdc)
        have : (s[j].toNat : Int) ≥ 97 := by omega
        have : (s[j].toNat : Int) ≤ 102 := by omega
        have : (s[j].toNat : Int) ≥ 65 := by omega
        have : ¬ (s[j].toNat : Int) ≤ 70 := by omega
        have hdv := Lib.hid hd
        clear hd hdc
        go_wp2_with (go_at_call 88; refine (HD.out _).mono ?_; rintro e w' ⟨rfl, rfl⟩)
        go_round
        case rel => exact ⟨j + 1, by omega, by go_num, by rw [HS.out, ← hdv.out], HY.out trivial⟩
        case measure => simp [intOf]; omega
      · have HD := Lib.hid (digit59 s[j] _ hdc)
        have : ¬ (s[j].toNat : Int) ≥ 97 := by omega
        have : (s[j].toNat : Int) ≥ 65 := by omega
        have : (s[j].toNat : Int) ≤ 70 := by omega
        have hdv := Lib.hid hd
        clear hd hdc
        go_wp2_with (go_at_call 88; refine (HD.out _).mono ?_; rintro e w' ⟨rfl, rfl⟩)
        go_round
        case rel => exact ⟨j + 1, by omega, by go_num, by rw [HS.out, ← hdv.out], HY.out trivial⟩
        case measure => simp [intOf]; omega
      · have HD := Lib.hid (digit59 s[j] _ hdc)
        clear hdc
        have hA : ¬ (s[j].toNat : Int) ≥ 97 ∨ ((s[j].toNat : Int) ≥ 97 ∧ ¬ (s[j].toNat : Int) ≤ 102) := by omega
        have hB : ¬ (s[j].toNat : Int) ≥ 65 ∨ ((s[j].toNat : Int) ≥ 65 ∧ ¬ (s[j].toNat : Int) ≤ 70) := by omega
        clear h1 h2
        rcases hA with hA | ⟨hA, hA2⟩ <;> rcases hB with hB | ⟨hB, hB2⟩
        all_goals
          first
          | (exfalso; omega)
          | (go_wp2_with (go_at_call 88; refine (HD.out _).mono ?_; rintro e w' ⟨rfl, rfl⟩)
             go_ret2
             obtain ⟨e1, e2⟩ := HN.out trivial
             exact ⟨by rw [e1, e2]; rfl, rfl⟩)
    · have hf := all_full s isHex j hlt hal.out
      have hfull : s.data.toList.take j = s.data.toList := List.take_of_length_le (by have := HZ.out; omega)
      rw [hfull] at hn0 hn1 ⊢
      have hv := HR.out
      rw [if_neg (by have := HZ.out; rintro (h | h | h); (· omega); (· omega); (· rw [hf] at h; cases h))] at hv
      clear hal hf hfull hnl hpw
      generalize numD 16 s.data.toList = n at *
      by_cases hm : most < n
      · rw [if_pos hm] at hv
        injection hv with e1 e2
        subst e1
        subst e2
        have : n > most := hm
        go_wp2_with fail
        go_ret2
        exact ⟨rfl, rfl⟩
      · rw [if_neg hm] at hv
        injection hv with e1 e2
        subst e1
        subst e2
        have : ¬ n > most := hm
        go_wp2_with fail
        go_ret2
        exact ⟨rfl, rfl⟩

end Go.Proofs.YtbbphklhnngjmaaGreatDoor

