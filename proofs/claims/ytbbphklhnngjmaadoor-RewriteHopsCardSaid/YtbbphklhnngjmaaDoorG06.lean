/- Packed: NumP, TabsP, FldA, FldB, StM, Reg, RegT, StG, Rec. -/
import Derived.Lib.AppendIntMem
import Derived.IntWalk
import Derived.Deep.RegionHeld3
import Derived.Deep.MidRow
import Derived.WideKeyArr2
import Derived.Test.YtbbphklhnngjmaaDoorG00
import Derived.Test.YtbbphklhnngjmaaDoorG02
import Derived.Test.YtbbphklhnngjmaaDoorG04
import Derived.Test.YtbbphklhnngjmaaDoorShelfC
/- octet's Digits, the reference's Print, the walk of the statement OctetDigits. -/
namespace Go.Proofs.YtbbphklhnngjmaaDoor
open Go.RowKit

theorem prtF_dec : ∀ (k n : Nat), n < 10 ^ (k + 1) → Lib.decDigits n = prtF 10 k n
  | 0, n, h => by rw [Lib.decDigits_one (by omega)]; simp [prtF, dch, show n < 10 by omega]
  | k + 1, n, h => by
    by_cases h10 : n < 10
    · rw [Lib.decDigits_one h10, prtF_small 10 _ n h10]; simp [dch, h10]
    · rw [Lib.decDigits, dif_neg h10, prtF_step 10 k n (by omega), prtF_dec k (n / 10) (by rw [Nat.div_lt_iff_lt_mul (by decide)]; rw [Nat.pow_succ] at h; exact h)]
      simp [dch, Nat.mod_lt n (show 0 < 10 by decide)]
theorem prt_dec (n : Nat) (h : n < 9223372036854775808) : Lib.decDigits n = prt 10 n := prtF_dec 64 n (Nat.lt_of_lt_of_le h (by decide))
/-- The table of the powers of ten. -/
def Pow (w : World) : Prop := Lib.TabIs Tryd.prog w "internal/strconv.uint64pow10" .u64 Lib.pow10Tab
theorem gPow : Tryd.prog.globalNamed "internal/strconv.uint64pow10" = some 1 := by kernel_rfl
theorem Pow.below {w w' : World} (h : Pow w) (hb : Below w.heap.size w w') : Pow w' := by
  unfold Pow Lib.TabIs World.var? at h ⊢
  rw [gPow] at h ⊢
  simp only [Option.bind_some] at h ⊢
  cases ho : w.heap[1]? with
  | none => rw [ho] at h; cases h
  | some o =>
    have hlt := (Array.getElem?_eq_some_iff.1 ho).1
    rw [hb.block _ hlt]
    exact h
theorem itoa66 (n : Nat) (hn : n < 9223372036854775808) (w : World) (hw : Pow w) :
    Calls Tryd.prog 39 #[.int .i64 (n : Int)] w fun e w' => e = .returned (.string ⟨(prt 10 n).toArray⟩) ∧ Below w.heap.size w w' := by
  refine (Tryd.strconv_Itoa (n : Int) (by omega) (by omega) w hw).mono ?_
  rintro e w' ⟨rfl, k, os, rfl⟩
  refine ⟨?_, Lib.below_grow _ w (Nat.le_refl _) k os⟩
  rw [Lib.itoa_nonneg, prt_dec n hn]
set_option maxHeartbeats 1000000 in
theorem digits28 (n : Int) (hn : n < 9223372036854775808) (w : World) (hw : Pow w) :
    Calls Tryd.prog 29 #[.int .i64 n] w fun e w' => e = .returned (.string ⟨(prtI 10 n).toArray⟩) ∧ Below w.heap.size w w' := by
  unfold prtI
  by_cases h : 0 ≤ n
  · obtain ⟨U, rfl⟩ := Int.eq_ofNat_of_zero_le h
    have HF := Lib.hid (itoa66 U (by omega) w hw)
    rw [Int.toNat_natCast]
    have hm : max (U : Int) 0 = (U : Int) := by omega
    clear h
    go_enter Tryd.func29, Tryd.ntmps29
    go_wp2_with fail
    refine HF.out.mono ?_
    rintro e w1 ⟨rfl, hb⟩
    go_wp2_with fail
    go_ret
    exact ⟨rfl, hb⟩
  · have HF : Hid (Calls Tryd.prog 39 #[.int .i64 0] w fun e w' => e = .returned (.string ⟨(prt 10 0).toArray⟩) ∧ Below w.heap.size w w') := itoa66 0 (by omega) w hw
    have hm : max n 0 = 0 := by omega
    rw [show n.toNat = 0 by omega]
    generalize prt 10 0 = R at *
    clear h
    go_enter Tryd.func29, Tryd.ntmps29
    go_wp2_with fail
    refine HF.out.mono ?_
    rintro e w1 ⟨rfl, hb⟩
    go_wp2_with fail
    go_ret
    exact ⟨rfl, hb⟩

theorem few_any (b u U t : Nat) (hb : 2 ≤ b) (h1 : 1 ≤ u) (h : u * b ^ t ≤ U) (hU : U < 9223372036854775808) : t ≤ 62 := by
  rcases Nat.lt_or_ge t 63 with h2 | h2
  · omega
  · have h3 : 2 ^ 63 ≤ b ^ t := Nat.le_trans (Nat.pow_le_pow_left hb 63) (Nat.pow_le_pow_right (by omega) h2)
    have h4 : b ^ t ≤ u * b ^ t := Nat.le_mul_of_pos_left _ h1
    have h5 : (2 : Nat) ^ 63 = 9223372036854775808 := by decide
    omega
theorem dch_piece (k : Nat) (h : k < 16) : ((⟨#[48, 49, 50, 51, 52, 53, 54, 55, 56, 57, 97, 98, 99, 100, 101, 102]⟩ : ByteArray).extract k (k + 1)) = ⟨#[dch k]⟩ := by
  have : ∀ k : Fin 16, ((⟨#[48, 49, 50, 51, 52, 53, 54, 55, 56, 57, 97, 98, 99, 100, 101, 102]⟩ : ByteArray).extract k.val (k.val + 1)).data.toList = [dch k.val] := by
    intro k
    rw [extractL]
    revert k
    decide +kernel
  exact str_eq _ _ (this ⟨k, h⟩)
theorem cons_str (c : UInt8) (T : List UInt8) : (⟨#[c]⟩ : ByteArray) ++ (⟨T.toArray⟩ : ByteArray) = ⟨(c :: T).toArray⟩ := by
  apply ByteArray.ext
  simp
/-- How far the reference's loop is. -/
def PrtTo (b U u : Nat) (T : List UInt8) : Prop := (u = 0 ∧ prt b U = T) ∨ (0 < u ∧ ∃ k, k + T.length = 64 ∧ u * b ^ T.length ≤ U ∧ prt b U = prtF b k u ++ T)
theorem prtTo_step {b U u : Nat} {T : List UInt8} (hb : 2 ≤ b) (hU : U < 9223372036854775808) (hu : 0 < u) (h : PrtTo b U u T) : PrtTo b U (u / b) (dch (u % b) :: T) := by
  rcases h with ⟨h1, _⟩ | ⟨_, k, hk, hpw, hp⟩
  · omega
  · by_cases hub : u < b
    · left
      refine ⟨Nat.div_eq_of_lt hub, ?_⟩
      rw [hp, prtF_small b k u hub, Nat.mod_eq_of_lt hub]; rfl
    · have h1 : 1 ≤ u / b := (Nat.one_le_div_iff (by omega)).2 (by omega)
      have hpw2 : u / b * b ^ (T.length + 1) ≤ U := by
        have h2 : u / b * b ≤ u := Nat.div_mul_le_self u b
        have h3 := Nat.mul_le_mul_right (b ^ T.length) h2
        rw [Nat.pow_succ, Nat.mul_comm (b ^ T.length) b, ← Nat.mul_assoc]
        omega
      have ht := few_any b (u / b) U (T.length + 1) hb h1 hpw2 hU
      obtain ⟨k', rfl⟩ : ∃ k', k = k' + 1 := ⟨k - 1, by omega⟩
      right
      refine ⟨by omega, k', by simp; omega, by simpa using hpw2, ?_⟩
      rw [hp, prtF_step b k' u (by omega), List.append_assoc]; rfl

theorem dgt_dch (r : Nat) (h : r < 16) : dgt (dch r) = (r : Int) := by
  have : ∀ r : Fin 16, dgt (dch r.val) = (r.val : Int) := by decide +kernel
  exact this ⟨r, h⟩
theorem dch_dec (r : Nat) (h : r < 10) : isDec (dch r) = true := by
  have : ∀ r : Fin 10, isDec (dch r.val) = true := by decide +kernel
  exact this ⟨r, h⟩
theorem dch_hex (r : Nat) (h : r < 16) : isHex (dch r) = true := by
  have : ∀ r : Fin 16, isHex (dch r.val) = true := by decide +kernel
  exact this ⟨r, h⟩
theorem numD_prtF (b : Nat) (hb : 2 ≤ b) (hb2 : b ≤ 16) : ∀ (k n : Nat), n < b ^ (k + 1) → numD b (prtF b k n) = (n : Int)
  | 0, n, h => by
    have : n < b := by simpa using h
    simp [prtF, numD, dgt_dch n (by omega)]
  | k + 1, n, h => by
    by_cases hn : n < b
    · rw [prtF_small b _ n hn]; simp [numD, dgt_dch n (by omega)]
    · rw [prtF_step b k n (by omega), numD_snoc, numD_prtF b hb hb2 k (n / b) (by rw [Nat.div_lt_iff_lt_mul (by omega)]; rw [Nat.pow_succ] at h; exact h), dgt_dch _ (Nat.lt_of_lt_of_le (Nat.mod_lt n (by omega)) hb2)]
      have := Nat.div_add_mod n b
      have h2 : ((b * (n / b) + n % b : Nat) : Int) = (n : Int) := by rw [this]
      rw [← h2, Int.natCast_add, Int.natCast_mul]
theorem all_prtF (b : Nat) (p : UInt8 → Bool) (hb : 2 ≤ b) (hp : ∀ r, r < b → p (dch r) = true) : ∀ (k n : Nat), n < b ^ (k + 1) → (prtF b k n).all p = true
  | 0, n, h => by
    have : n < b := by simpa using h
    simp [prtF, hp n this]
  | k + 1, n, h => by
    by_cases hn : n < b
    · rw [prtF_small b _ n hn]; simp [hp n hn]
    · rw [prtF_step b k n (by omega), List.all_append, all_prtF b p hb hp k (n / b) (by rw [Nat.div_lt_iff_lt_mul (by omega)]; rw [Nat.pow_succ] at h; exact h)]
      simp [hp _ (Nat.mod_lt n (by omega))]
theorem prtF_pos (b : Nat) : ∀ (k n : Nat), 1 ≤ (prtF b k n).length
  | 0, n => by simp [prtF]
  | k + 1, n => by
    unfold prtF
    split
    · simp
    · simp
theorem numR_prt10 (m : Nat) (hm : m < 9223372036854775808) (h : (prt 10 m).length ≤ 10) : numR 10 10 isDec (prt 10 m) 4611686018427387904 = ((m : Int), 0) := by
  have hd := all_prtF 10 isDec (by decide) (fun r h => dch_dec r h) 64 m (Nat.lt_of_lt_of_le hm (by decide))
  have hv : numD ((10 : Nat) : Int) (prtF 10 64 m) = (m : Int) := numD_prtF 10 (by decide) (by decide) 64 m (Nat.lt_of_lt_of_le hm (by decide))
  have h1 := prtF_pos 10 64 m
  have hb := bound10 ⟨(prt 10 m).toArray⟩ (by rw [Lib.size_eq]; exact h) hd
  have hv2 : numD 10 (prt 10 m) = (m : Int) := hv
  have hb2 : numD 10 (prt 10 m) < 10000000000 := hb.2
  unfold numR
  rw [if_neg (by rintro (g | g | g); (· unfold prt at g; omega); (· omega); (· unfold prt at g; rw [hd] at g; cases g)), if_neg (by omega), hv2]
theorem numR_prt16 (m : Nat) (hm : m < 9223372036854775808) (h : (prt 16 m).length ≤ 8) : numR 16 8 isHex (prt 16 m) 4611686018427387904 = ((m : Int), 0) := by
  have hd := all_prtF 16 isHex (by decide) (fun r h => dch_hex r h) 64 m (Nat.lt_of_lt_of_le hm (by decide))
  have hv : numD ((16 : Nat) : Int) (prtF 16 64 m) = (m : Int) := numD_prtF 16 (by decide) (by decide) 64 m (Nat.lt_of_lt_of_le hm (by decide))
  have h1 := prtF_pos 16 64 m
  have hb := bound16 ⟨(prt 16 m).toArray⟩ (by rw [Lib.size_eq]; exact h) hd
  have hv2 : numD 16 (prt 16 m) = (m : Int) := hv
  have hb2 : numD 16 (prt 16 m) < 4294967296 := hb.2
  unfold numR
  rw [if_neg (by rintro (g | g | g); (· unfold prt at g; omega); (· omega); (· unfold prt at g; rw [hd] at g; cases g)), if_neg (by omega), hv2]
theorem prtF_len (b : Nat) : ∀ (k n : Nat), (prtF b k n).length ≤ k + 1
  | 0, n => by simp [prtF]
  | k + 1, n => by
    unfold prtF
    split
    · simp
    · have := prtF_len b k (n / b)
      simp; omega
end Go.Proofs.YtbbphklhnngjmaaDoor

/- The table of the powers of ten, out of what a row says of it. -/
namespace Go.Proofs.YtbbphklhnngjmaaDoor
open Go.RowKit

theorem gPowT : (Tryd.prog.globals[1]?).map (·.type) = some 94 := by kernel_rfl
theorem cellsP20 : Tryd.prog.cellsOf 94 = 20 := by kernel_rfl
theorem cellsU64 : Tryd.prog.cellsOf 86 = 1 := by kernel_rfl
theorem pow_list : Lib.pow10Tab = [1, 10, 100, 1000, 10000, 100000, 1000000, 10000000, 100000000, 1000000000, 10000000000, 100000000000, 1000000000000, 10000000000000, 100000000000000, 1000000000000000, 10000000000000000, 100000000000000000, 1000000000000000000, 10000000000000000000] := by decide +kernel
theorem pow_laid {W : World} {d0 d1 : String × DataW Unit} {rest : List (String × DataW Unit)}
    (h : laidMet Tryd.prog (d0 :: d1 :: ("internal/strconv.uint64pow10", Rows.laid_internal_strconv_uint64pow10) :: rest) W) : Pow W := by
  unfold Pow
  rw [pow_list]
  exact Lib.tabIs_of_head gPow gPowT Tryd.underlying94 Tryd.underlying86 cellsU64 cellsP20 (laidMet.tail (laidMet.tail h))
theorem i64_top {n : Int} (h : (Lit.int .i64 n).wf = true) : n < 9223372036854775808 := by
  simp only [Lit.wf, Bool.and_eq_true, decide_eq_true_eq, show IntKind.i64.max = 9223372036854775807 from rfl] at h
  omega
end Go.Proofs.YtbbphklhnngjmaaDoor

/- fields: Parse, Line; the reference's Parse. -/
namespace Go.Proofs.YtbbphklhnngjmaaDoor
open Go.RowKit

/-- A field: its name, its value. -/
abbrev Fld := List UInt8 × List UInt8
def bs (l : List UInt8) : ByteArray := ⟨l.toArray⟩
theorem bs_list (l : List UInt8) : (bs l).data.toList = l := rfl
theorem bs_size (l : List UInt8) : (bs l).size = l.length := by rw [Lib.size_eq, bs_list]
theorem bs_of (t : ByteArray) : bs t.data.toList = t := (str_eq t _ rfl).symm
def fldV (f : Fld) : Value := .agg #[.string (bs f.1), .string (bs f.2)]
/-- A line's field. -/
def parseL (l : List UInt8) : Option Fld :=
  let i := Lib.indexByte l 58
  if 0 ≤ i ∧ tokB (l.take i.toNat) = true ∧ valB (trimB (l.drop (i.toNat + 1))) = true then some (l.take i.toNat, trimB (l.drop (i.toNat + 1))) else none
def parseV (l : List UInt8) : Value := match parseL l with
  | some f => .tuple #[fldV f, .int .i64 0]
  | none => .tuple #[fldV ([], []), .int .i64 2]
theorem cut58 (l : List UInt8) : Lib.cut l [58] = if 0 ≤ Lib.indexByte l 58 then (l.take (Lib.indexByte l 58).toNat, l.drop ((Lib.indexByte l 58).toNat + 1), true) else (l, [], false) := by
  unfold Lib.cut
  rw [Lib.index_one]
  rfl
theorem trim_b (y : List UInt8) (hy : y.length ≤ 4611686018427387904) (w : World) :
    Calls Tryd.prog 42 #[.string (bs y)] w fun e w' => e = .returned (.string (bs (trimB y))) ∧ Below w.heap.size w w' := trim_list y hy w
end Go.Proofs.YtbbphklhnngjmaaDoor

/- fields: Line; the reference's Parse. -/
namespace Go.Proofs.YtbbphklhnngjmaaDoor
open Go.RowKit

/-- A field's line. -/
def lineL (f : Fld) : List UInt8 := f.1 ++ [58, 32] ++ f.2 ++ [13, 10]
theorem add_str (x y : List UInt8) (h : x.length + y.length ≤ 9223372036854775807) (W : World) : (Op.stringOp .add (bs x) (bs y)).run Tryd.prog W = .ok (.string (bs (x ++ y))) W := by
  rw [run_string_add_sum W _ _ (by rw [bs_size, bs_size]; exact h)]
  have : bs x ++ bs y = bs (x ++ y) := by
    apply ByteArray.ext
    simp [bs]
  rw [this]
theorem ib_at (c : UInt8) : ∀ (l : List UInt8) (j : Nat), c ∉ l.take j → l[j]? = some c → Lib.indexByte l c = (j : Int)
  | [], j, _, h => by simp at h
  | b :: r, 0, _, h => by
    obtain rfl : b = c := by simpa using h
    simp [Lib.indexByte]
  | b :: r, j + 1, hn, h => by
    rw [List.take_succ_cons, List.mem_cons, not_or] at hn
    have ih := ib_at c r j hn.2 (by simpa using h)
    have hbb : (b == c) = false := beq_eq_false_iff_ne.2 (fun e => hn.1 e.symm)
    have hne : ((j : Int) == -1) = false := beq_eq_false_iff_ne.2 (by omega)
    simp only [Lib.indexByte, hbb, ih, hne]
    simp
theorem ib_none (c : UInt8) (l : List UInt8) (h : c ∉ l) : Lib.indexByte l c = -1 := by
  rcases ib_cut c l with ⟨h1, _⟩ | ⟨i, _, h2, h3, _⟩
  · exact h1
  · exact absurd (by rw [h3]; simp) h
end Go.Proofs.YtbbphklhnngjmaaDoor

/- start: what its functions return, in lists of bytes; the program's way of dividing a line and the reference's are one. -/
namespace Go.Proofs.YtbbphklhnngjmaaDoor
open Go.RowKit

theorem str_cmp (a b : List UInt8) (q : Bool) (h : decide (a = b) = q) : ((bs a).toList == (bs b).toList) = q := by
  rw [ByteArray.toList_eq, ByteArray.toList_eq, bs_list, bs_list, ← h]
  by_cases hab : a = b
  · subst hab; simp
  · rw [decide_eq_false hab]; exact beq_eq_false_iff_ne.2 hab
theorem str_lit (a b : List UInt8) (q : Bool) (h : decide (a = b) = q) : ((bs a).toList == b) = q := by
  have e := str_cmp a b q h
  have e2 : (bs b).toList = b := by rw [ByteArray.toList_eq]; rfl
  rwa [e2] at e
theorem str_cmp2 (t : ByteArray) (b : List UInt8) (q : Bool) (h : decide (t.data.toList = b) = q) : (t.toList == (bs b).toList) = q := by
  have e := str_cmp t.data.toList b q h
  rwa [bs_of] at e
/-- A cut at one byte: there is none, or what is ahead of the first and behind it. -/
theorem cut_cases (c : UInt8) (l : List UInt8) : (c ∉ l ∧ Lib.cut l [c] = (l, [], false)) ∨ (∃ a b, l = a ++ c :: b ∧ c ∉ a ∧ Lib.cut l [c] = (a, b, true)) := by
  unfold Lib.cut
  rw [Lib.index_one]
  rcases ib_cut c l with ⟨h1, h2⟩ | ⟨i, h1, _, h3, h4⟩
  · left
    refine ⟨h2, ?_⟩
    rw [h1, if_neg (by omega)]
  · right
    refine ⟨l.take i, l.drop (i + 1), h3, h4, ?_⟩
    rw [h1, if_pos (by omega), Int.toNat_natCast]
    rfl
theorem cut_at (c : UInt8) (a b : List UInt8) (h : c ∉ a) : Lib.cut (a ++ c :: b) [c] = (a, b, true) := by
  have hi : Lib.indexByte (a ++ c :: b) c = (a.length : Int) := ib_at c _ a.length (by rw [List.take_left']; exact h; rfl) (by simp)
  unfold Lib.cut
  rw [Lib.index_one, hi, if_pos (by omega), Int.toNat_natCast, List.take_left' rfl]
  have : (a ++ c :: b).drop (a.length + [c].length) = b := by
    rw [← List.drop_drop, List.drop_left' rfl]; rfl
  rw [this]
theorem cut_no (c : UInt8) (l : List UInt8) (h : c ∉ l) : Lib.cut l [c] = (l, [], false) := by
  rcases cut_cases c l with ⟨_, h2⟩ | ⟨a, b, h1, _, _⟩
  · exact h2
  · exact absurd (by rw [h1]; simp) h
theorem cut_lens (c : UInt8) (l a b : List UInt8) (q : Bool) (h : Lib.cut l [c] = (a, b, q)) : a.length ≤ l.length ∧ b.length ≤ l.length := by
  rcases cut_cases c l with ⟨_, h2⟩ | ⟨x, y, h1, _, h3⟩
  · rw [h2] at h; injection h with e1 e2; injection e2 with e2 e3; subst e1 e2; exact ⟨Nat.le_refl _, Nat.zero_le _⟩
  · rw [h3] at h; injection h with e1 e2; injection e2 with e2 e3; subst e1 e2; rw [h1]; simp; omega
theorem tok_no {c : UInt8} (hc : isTok c = false) {n : List UInt8} (h : tokB n = true) : c ∉ n := by
  intro hm
  unfold tokB at h
  rw [Bool.and_eq_true, List.all_eq_true] at h
  exact absurd (h.2 c hm) (by rw [hc]; simp)
theorem tgt_no {c : UInt8} (hc : isVis c = false) {n : List UInt8} (h : tgtB n = true) : c ∉ n := by
  intro hm
  unfold tgtB at h
  rw [Bool.and_eq_true, List.all_eq_true] at h
  exact absurd (h.2 c hm) (by rw [hc]; simp)
theorem tok32 : isTok 32 = false := by decide +kernel
theorem vis32 : isVis 32 = false := by decide +kernel
theorem tgt_nil : tgtB [] = false := by decide +kernel

/-- HTTP/1.1; a blank and it; it and a blank. -/
def verL : List UInt8 := [72, 84, 84, 80, 47, 49, 46, 49]
def sfxL : List UInt8 := [32, 72, 84, 84, 80, 47, 49, 46, 49]
def pfxL : List UInt8 := [72, 84, 84, 80, 47, 49, 46, 49, 32]
/-- A line's request, as the program divides it; as the reference does. -/
def reqP (l : List UInt8) : Option Fld :=
  let r := Lib.cut (Lib.trimSuffix l sfxL) [32]
  if Lib.hasSuffix l sfxL = true ∧ tokB r.1 = true ∧ tgtB r.2.1 = true then some (r.1, r.2.1) else none
def reqR (l : List UInt8) : Option Fld :=
  let a := Lib.cut l [32]
  let b := Lib.cut a.2.1 [32]
  if a.2.2 = true ∧ b.2.2 = true ∧ b.2.1 = verL ∧ tokB a.1 = true ∧ tgtB b.1 = true then some (a.1, b.1) else none
def ReqIs (l : List UInt8) (r : Fld) : Prop := l = r.1 ++ 32 :: (r.2 ++ sfxL) ∧ tokB r.1 = true ∧ tgtB r.2 = true
theorem suffix_of {l s : List UInt8} (h : Lib.hasSuffix l s = true) : l = Lib.trimSuffix l s ++ s := by
  unfold Lib.trimSuffix
  rw [if_pos h]
  unfold Lib.hasSuffix at h
  obtain ⟨t, ht⟩ := List.isSuffixOf_iff_suffix.1 h
  subst ht
  rw [List.length_append, Nat.add_sub_cancel, List.take_left' rfl]
theorem suffix_app (a s : List UInt8) : Lib.hasSuffix (a ++ s) s = true ∧ Lib.trimSuffix (a ++ s) s = a := by
  have h : Lib.hasSuffix (a ++ s) s = true := List.isSuffixOf_iff_suffix.2 ⟨a, rfl⟩
  refine ⟨h, ?_⟩
  unfold Lib.trimSuffix
  rw [if_pos h, List.length_append, Nat.add_sub_cancel, List.take_left' rfl]
theorem reqP_is (l : List UInt8) (r : Fld) : reqP l = some r ↔ ReqIs l r := by
  obtain ⟨m, t⟩ := r
  constructor
  · intro h
    unfold reqP at h
    simp only at h
    split at h
    · next hh =>
      obtain ⟨hs, h1, h2⟩ := hh
      injection h with h
      injection h with e1 e2
      have hl := suffix_of hs
      rcases cut_cases 32 (Lib.trimSuffix l sfxL) with ⟨_, hc⟩ | ⟨a, b, hab, _, hc⟩
      · rw [hc] at h2
        rw [tgt_nil] at h2; cases h2
      · rw [hc] at h1 h2 e1 e2
        simp only at h1 h2 e1 e2
        subst e1 e2
        refine ⟨?_, h1, h2⟩
        rw [hl, hab]; simp
    · cases h
  · rintro ⟨hl, h1, h2⟩
    simp only at hl h1 h2
    have hl2 : l = (m ++ 32 :: t) ++ sfxL := by rw [hl]; simp
    have hx := suffix_app (m ++ 32 :: t) sfxL
    rw [← hl2] at hx
    unfold reqP
    simp only
    rw [hx.2, cut_at 32 m t (tok_no tok32 h1)]
    simp only
    rw [if_pos ⟨hx.1, h1, h2⟩]
theorem reqR_is (l : List UInt8) (r : Fld) : reqR l = some r ↔ ReqIs l r := by
  obtain ⟨m, t⟩ := r
  constructor
  · intro h
    unfold reqR at h
    simp only at h
    split at h
    · next hh =>
      obtain ⟨ha, hb, hv, h1, h2⟩ := hh
      injection h with h
      injection h with e1 e2
      rcases cut_cases 32 l with ⟨_, hc⟩ | ⟨x, y, hxy, _, hc⟩
      · rw [hc] at ha; cases ha
      · rw [hc] at hb hv h1 h2 e1 e2
        simp only at hb hv h1 h2 e1 e2
        rcases cut_cases 32 y with ⟨_, hd⟩ | ⟨u, v, huv, _, hd⟩
        · rw [hd] at hb; cases hb
        · rw [hd] at hv h2 e2
          simp only at hv h2 e2
          subst e1 e2 hv
          refine ⟨?_, h1, h2⟩
          rw [hxy, huv]; rfl
    · cases h
  · rintro ⟨hl, h1, h2⟩
    simp only at hl h1 h2
    subst hl
    unfold reqR
    simp only
    rw [cut_at 32 m _ (tok_no tok32 h1)]
    simp only
    rw [show t ++ sfxL = t ++ 32 :: verL from rfl, cut_at 32 t verL (tgt_no vis32 h2)]
    simp only
    simp [h1, h2]
theorem reqR_eq (l : List UInt8) : reqR l = reqP l := by
  cases h : reqP l with
  | some r => exact (reqR_is l r).2 ((reqP_is l r).1 h)
  | none =>
    cases h2 : reqR l with
    | none => rfl
    | some r => rw [(reqP_is l r).2 ((reqR_is l r).1 h2)] at h; cases h
theorem count_app (c : UInt8) (a b : List UInt8) : (a ++ c :: b).count c = a.count c + b.count c + 1 := by
  rw [List.count_append, List.count_cons_self]; omega
/-- A method and a target, written in a line: it is a request only if they are a token and a target. -/
theorem req_line (m t : List UInt8) : reqP (m ++ 32 :: (t ++ sfxL)) = if tokB m = true ∧ tgtB t = true then some (m, t) else none := by
  by_cases h : tokB m = true ∧ tgtB t = true
  · rw [if_pos h]
    exact (reqP_is _ _).2 ⟨rfl, h.1, h.2⟩
  · rw [if_neg h]
    cases h2 : reqP (m ++ 32 :: (t ++ sfxL)) with
    | none => rfl
    | some r =>
      exfalso
      obtain ⟨a, b⟩ := r
      obtain ⟨hl, ha, hb⟩ := (reqP_is _ _).1 h2
      simp only at hl ha hb
      have hl2 : (m ++ 32 :: t) ++ sfxL = (a ++ 32 :: b) ++ sfxL := by simpa using hl
      have hl3 := List.append_cancel_right hl2
      have hc := congrArg (List.count 32) hl3
      rw [count_app, count_app, List.count_eq_zero.2 (tok_no tok32 ha), List.count_eq_zero.2 (tgt_no vis32 hb)] at hc
      have hm : (32 : UInt8) ∉ m := List.count_eq_zero.1 (by omega)
      have e1 := cut_at 32 m t hm
      rw [hl3, cut_at 32 a b (tok_no tok32 ha)] at e1
      injection e1 with e1 e2
      injection e2 with e2 _
      subst e1 e2
      exact h ⟨ha, hb⟩

/-- A line's status, as the program divides it; as the reference does. -/
abbrev Sta := Int × List UInt8
def stP (l : List UInt8) : Option Sta :=
  let r := Lib.cut (Lib.trimPrefix l pfxL) [32]
  let n := numR 10 10 isDec r.1 599
  if Lib.hasPrefix l pfxL = true ∧ r.1.length = 3 ∧ n.2 = 0 ∧ ¬ n.1 < 200 ∧ valB r.2.1 = true then some (n.1, r.2.1) else none
def stR (l : List UInt8) : Option Sta :=
  let n := numR 10 10 isDec ((l.drop 9).take 3) 599
  if 12 ≤ l.length ∧ l.take 9 = pfxL ∧ (12 < l.length → l[12]? = some 32) ∧ n.2 = 0 ∧ ¬ n.1 < 200 ∧ valB (l.drop 13) = true then some (n.1, l.drop 13) else none
def StaIs (l : List UInt8) (s : Sta) : Prop :=
  ∃ d : List UInt8, d.length = 3 ∧ numR 10 10 isDec d 599 = (s.1, 0) ∧ ¬ s.1 < 200 ∧ valB s.2 = true ∧ ((l = pfxL ++ d ∧ s.2 = []) ∨ l = pfxL ++ (d ++ 32 :: s.2))
theorem numR_dec {b : Int} {m : Nat} {p : UInt8 → Bool} {l : List UInt8} {most : Int} (h : (numR b m p l most).2 = 0) : l.all p = true ∧ (numR b m p l most).1 ≤ most ∧ 1 ≤ l.length := by
  unfold numR at h ⊢
  split at h
  · cases h
  · next hn =>
    rw [not_or, not_or] at hn
    rw [if_neg (by rw [not_or, not_or]; exact hn)]
    split at h
    · cases h
    · next hm =>
      rw [if_neg hm]
      refine ⟨by simpa using hn.2.2, ?_, ?_⟩
      · simp only; omega
      · have := hn.1; omega
theorem dec_no32 {l : List UInt8} (h : l.all isDec = true) : (32 : UInt8) ∉ l := by
  intro hm
  rw [List.all_eq_true] at h
  exact absurd (h 32 hm) (by decide +kernel)
theorem prefix_of {l s : List UInt8} (h : Lib.hasPrefix l s = true) : l = s ++ Lib.trimPrefix l s := by
  unfold Lib.trimPrefix
  rw [if_pos h]
  unfold Lib.hasPrefix at h
  obtain ⟨t, ht⟩ := List.isPrefixOf_iff_prefix.1 h
  subst ht
  rw [List.drop_left' rfl]
theorem prefix_app (s a : List UInt8) : Lib.hasPrefix (s ++ a) s = true ∧ Lib.trimPrefix (s ++ a) s = a := by
  have h : Lib.hasPrefix (s ++ a) s = true := List.isPrefixOf_iff_prefix.2 ⟨a, rfl⟩
  refine ⟨h, ?_⟩
  unfold Lib.trimPrefix
  rw [if_pos h, List.drop_left' rfl]
theorem val_nil : valB [] = true := by decide +kernel
theorem stP_is (l : List UInt8) (s : Sta) : stP l = some s ↔ StaIs l s := by
  obtain ⟨c, r⟩ := s
  constructor
  · intro h
    unfold stP at h
    simp only at h
    split at h
    · next hh =>
      obtain ⟨hs, h1, h2, h3, h4⟩ := hh
      injection h with h
      injection h with e1 e2
      have hl := prefix_of hs
      refine ⟨(Lib.cut (Lib.trimPrefix l pfxL) [32]).1, h1, ?_, by rw [← e1]; exact h3, by rw [← e2]; exact h4, ?_⟩
      · rw [← e1, ← h2]
      · rcases cut_cases 32 (Lib.trimPrefix l pfxL) with ⟨_, hc⟩ | ⟨a, b, hab, _, hc⟩
        · left
          rw [hc] at e2 ⊢
          exact ⟨hl, e2.symm⟩
        · right
          rw [hc] at e2 ⊢
          simp only at e2 ⊢
          rw [← e2]
          exact hl.trans (by rw [← hab])
    · cases h
  · rintro ⟨d, hd, hn, h3, h4, hl⟩
    have hdec : d.all isDec = true := (numR_dec (by rw [hn] : (numR 10 10 isDec d 599).2 = 0)).1
    unfold stP
    simp only at hn h3 h4 hl ⊢
    rcases hl with ⟨hl, hr⟩ | hl
    · subst hl hr
      rw [(prefix_app pfxL d).1, (prefix_app pfxL d).2, cut_no 32 d (dec_no32 hdec)]
      simp only
      simp [hn, hd, h4]
      omega
    · subst hl
      rw [(prefix_app pfxL _).1, (prefix_app pfxL _).2, cut_at 32 d r (dec_no32 hdec)]
      simp only
      simp [hn, hd, h4]
      omega
theorem stR_is (l : List UInt8) (s : Sta) : stR l = some s ↔ StaIs l s := by
  obtain ⟨c, r⟩ := s
  constructor
  · intro h
    unfold stR at h
    simp only at h
    split at h
    · next hh =>
      obtain ⟨hlen, hp, h12, h2, h3, h4⟩ := hh
      injection h with h
      injection h with e1 e2
      refine ⟨(l.drop 9).take 3, by rw [List.length_take, List.length_drop]; omega, by rw [← e1, ← h2], by rw [← e1]; exact h3, by rw [← e2]; exact h4, ?_⟩
      have hl : l = pfxL ++ l.drop 9 := by rw [← hp, List.take_append_drop]
      have hl2 : l.drop 9 = (l.drop 9).take 3 ++ l.drop 12 := by
        rw [show (12 : Nat) = 9 + 3 from rfl, ← List.drop_drop, List.take_append_drop]
      by_cases hgt : 12 < l.length
      · right
        have hx := h12 hgt
        have hd : l.drop 12 = 32 :: l.drop 13 := by
          rw [List.drop_eq_getElem_cons hgt]
          rw [List.getElem?_eq_getElem hgt] at hx
          injection hx with hx
          rw [hx]
        simp only
        rw [← e2, ← hd, ← hl2]
        exact hl
      · left
        have h13 : l.drop 13 = [] := List.drop_eq_nil_of_le (by omega)
        have h12' : l.drop 12 = [] := List.drop_eq_nil_of_le (by omega)
        rw [h12', List.append_nil] at hl2
        rw [← hl2]
        exact ⟨hl, by simp only; rw [← e2, h13]⟩
    · cases h
  · rintro ⟨d, hd, hn, h3, h4, hl⟩
    obtain ⟨d0, d1, d2, rfl⟩ : ∃ a b c, d = [a, b, c] := by
      match d, hd with
      | [a, b, c], _ => exact ⟨a, b, c, rfl⟩
    unfold stR
    simp only at hn h3 h4 hl ⊢
    rcases hl with ⟨hl, hr⟩ | hl
    · subst hl hr
      have e : ((pfxL ++ [d0, d1, d2]).drop 9).take 3 = [d0, d1, d2] := rfl
      have hl12 : (pfxL ++ [d0, d1, d2]).length = 12 := rfl
      rw [e, hn, if_pos ⟨by omega, rfl, fun h => absurd h (by omega), rfl, h3, h4⟩]
      rfl
    · subst hl
      have e : ((pfxL ++ ([d0, d1, d2] ++ 32 :: r)).drop 9).take 3 = [d0, d1, d2] := rfl
      have e2 : (pfxL ++ ([d0, d1, d2] ++ 32 :: r)).drop 13 = r := rfl
      rw [e, hn, e2, if_pos ⟨by simp [pfxL], rfl, fun _ => rfl, rfl, h3, h4⟩]
theorem stR_eq (l : List UInt8) : stR l = stP l := by
  cases h : stP l with
  | some r => exact (stR_is l r).2 ((stP_is l r).1 h)
  | none =>
    cases h2 : stR l with
    | none => rfl
    | some r => rw [(stP_is l r).2 ((stR_is l r).1 h2)] at h; cases h

/-- A code within its bounds; its line. -/
def codeT (c : Int) : Int := min (max c 200) 599
def stLine (s : Sta) : List UInt8 := pfxL ++ prtI 10 (codeT s.1) ++ [32] ++ s.2 ++ [13, 10]
def reqLine (r : Fld) : List UInt8 := r.1 ++ [32] ++ r.2 ++ [32] ++ verL ++ [13, 10]
theorem prt_codes : ∀ n : Fin 400, numR 10 10 isDec (prtI 10 ((n.val : Int) + 200)) 599 = ((n.val : Int) + 200, 0) ∧ (prtI 10 ((n.val : Int) + 200)).length = 3 := by decide +kernel
theorem prt_code (c : Int) (h1 : ¬ c < 200) (h2 : c ≤ 599) : numR 10 10 isDec (prtI 10 c) 599 = (c, 0) ∧ (prtI 10 c).length = 3 := by
  have h := prt_codes ⟨(c - 200).toNat, by omega⟩
  have e : ((c - 200).toNat : Int) + 200 = c := by omega
  simp only [e] at h
  exact h
theorem stP_some {l : List UInt8} {s : Sta} (h : stP l = some s) : ¬ s.1 < 200 ∧ s.1 ≤ 599 ∧ valB s.2 = true ∧ s.2.length ≤ l.length := by
  obtain ⟨d, hd, hn, h3, h4, hl⟩ := (stP_is l s).1 h
  refine ⟨h3, ?_, h4, ?_⟩
  · have := (numR_dec (by rw [hn] : (numR 10 10 isDec d 599).2 = 0)).2.1
    rw [hn] at this; exact this
  · rcases hl with ⟨hl, hr⟩ | hl
    · rw [hr]; exact Nat.zero_le _
    · rw [hl]; simp [pfxL]; omega
/-- A status is read back from its line. -/
theorem st_back {l : List UInt8} {s : Sta} (h : stP l = some s) : stP (pfxL ++ prtI 10 (codeT s.1) ++ [32] ++ s.2) = some s := by
  obtain ⟨h1, h2, h3, _⟩ := stP_some h
  have ec : codeT s.1 = s.1 := by unfold codeT; omega
  obtain ⟨hp, hp3⟩ := prt_code s.1 h1 h2
  rw [ec]
  exact (stP_is _ _).2 ⟨prtI 10 s.1, hp3, hp, h1, h3, .inr (by simp)⟩
theorem req_some {l : List UInt8} {r : Fld} (h : reqP l = some r) : l = r.1 ++ 32 :: (r.2 ++ sfxL) ∧ tokB r.1 = true ∧ tgtB r.2 = true := (reqP_is l r).1 h

/-- The methods that may be asked twice; a target without its query; the words for codes; whether there is a body. -/
def idemB (m : List UInt8) : Bool :=
  decide (m = [71, 69, 84]) || decide (m = [72, 69, 65, 68]) || decide (m = [80, 85, 84]) || decide (m = [68, 69, 76, 69, 84, 69]) || decide (m = [79, 80, 84, 73, 79, 78, 83]) || decide (m = [84, 82, 65, 67, 69])
def pathL (t : List UInt8) : List UInt8 := (Lib.cut t [63]).1
def reasonL (c : Int) : List UInt8 :=
  if c = 200 then [79, 75]
  else if c = 400 then [66, 97, 100, 32, 82, 101, 113, 117, 101, 115, 116]
  else if c = 413 then [67, 111, 110, 116, 101, 110, 116, 32, 84, 111, 111, 32, 76, 97, 114, 103, 101]
  else if c = 431 then [82, 101, 113, 117, 101, 115, 116, 32, 72, 101, 97, 100, 101, 114, 32, 70, 105, 101, 108, 100, 115, 32, 84, 111, 111, 32, 76, 97, 114, 103, 101]
  else if c = 502 then [66, 97, 100, 32, 71, 97, 116, 101, 119, 97, 121]
  else if c = 503 then [83, 101, 114, 118, 105, 99, 101, 32, 85, 110, 97, 118, 97, 105, 108, 97, 98, 108, 101]
  else if c = 504 then [71, 97, 116, 101, 119, 97, 121, 32, 84, 105, 109, 101, 111, 117, 116]
  else []
def bodB (m : List UInt8) (c : Int) : Bool := !(decide (m = [72, 69, 65, 68]) || decide (c = 204) || decide (c = 304))
end Go.Proofs.YtbbphklhnngjmaaDoor

/- A region that draws its order, by an invariant: one step for each operation, whatever the order. -/
namespace Go.Proofs.YtbbphklhnngjmaaDoor
open Go.RowKit

/-- The frame with the operations' values in their slots. -/
def actOf : List Oper → (Nat → Value) → Nat → Act → Act
  | [], _, _, a => a
  | o :: r, x, i, a => (actOf r x (i + 1) a).put o.dst (x i)
def setL (L : Nat → Bool) (i : Nat) : Nat → Bool := fun j => if j = i then true else L j
def updV (x : Nat → Value) (i : Nat) (v : Value) : Nat → Value := fun j => if j = i then v else x j
/-- What an operation waits for. -/
def predsOf (o : Oper) : List Nat := (o.after.toList.filter fun e => Region.binds .any e).map (·.on)
def AllL (L : Nat → Bool) : List Nat → Prop
  | [] => True
  | j :: r => L j = true ∧ AllL L r
theorem allL_of {L : Nat → Bool} : ∀ {l : List Nat}, (∀ j ∈ l, L j = true) → AllL L l
  | [], _ => trivial
  | j :: _, h => ⟨h j (List.mem_cons_self ..), allL_of (fun k hk => h k (List.mem_cons_of_mem _ hk))⟩
/-- Each slot is written by one operation, and is there. -/
def dstsOk : List Oper → Nat → Bool
  | [], _ => true
  | o :: r, n => (match o.dst with
    | some d => decide (d < n) && r.all fun q => q.dst != some d
    | none => true) && dstsOk r n
theorem put_same (a : Act) (d : Nat) (v u : Value) : (a.put (some d) v).put (some d) u = a.put (some d) u := by
  simp [Act.put, Array.setIfInBounds_setIfInBounds]
theorem actOf_put : ∀ (l : List Oper) (n : Nat) (x : Nat → Value) (k : Nat) (a : Act), dstsOk l n = true → ∀ (i : Nat) (o : Oper), l[i]? = some o → ∀ v, (actOf l x k a).put o.dst v = actOf l (updV x (k + i) v) k a
  | [], _, _, _, _, _, i, o, h, _ => by simp at h
  | p :: r, n, x, k, a, hd, i, o, h, v => by
    simp only [dstsOk, Bool.and_eq_true] at hd
    match i, h with
    | 0, h =>
      obtain rfl : p = o := Option.some.inj h
      have hrest : ∀ (l : List Oper) (m : Nat), k < m → actOf l (updV x k v) m a = actOf l x m a := by
        intro l
        induction l with
        | nil => intro m _; rfl
        | cons q l ih =>
          intro m hm
          simp only [actOf, ih (m + 1) (by omega)]
          rw [show updV x k v m = x m from if_neg (by omega)]
      simp only [actOf, Nat.add_zero, hrest r (k + 1) (by omega)]
      rw [show updV x k v k = v from if_pos rfl]
      cases hp : p.dst with
      | none => rfl
      | some d => exact put_same _ _ _ _
    | i + 1, h =>
      have h' : r[i]? = some o := h
      have ih := actOf_put r n x (k + 1) a hd.2 i o h' v
      simp only [actOf]
      rw [show updV x (k + (i + 1)) v k = x k from if_neg (by omega), show k + (i + 1) = k + 1 + i by omega, ← ih]
      refine (Act.put_comm _ _ _ fun d hdd => ?_)
      have := hd.1
      rw [hdd] at this
      simp only [Bool.and_eq_true, List.all_eq_true] at this
      have := this.2 o (List.mem_of_getElem? h')
      simpa using this
/-- The values at the start. -/
def valsAt (l : List Oper) (a : Act) (i : Nat) : Value :=
  match l[i]? with
  | some o => match o.dst with
    | some d => a.tmps.getD d undef
    | none => undef
  | none => undef
theorem actOf_self : ∀ (l : List Oper) (x : Nat → Value) (k : Nat) (a : Act), dstsOk l a.tmps.size = true → (∀ i, x (k + i) = valsAt l a i) → actOf l x k a = a
  | [], _, _, _, _, _ => rfl
  | o :: r, x, k, a, hd, hx => by
    simp only [dstsOk, Bool.and_eq_true] at hd
    simp only [actOf]
    rw [actOf_self r x (k + 1) a hd.2 (fun i => by rw [show k + 1 + i = k + (i + 1) by omega, hx (i + 1)]; rfl)]
    have h0 := hx 0
    cases ho : o.dst with
    | none => rfl
    | some d =>
      have hlt := hd.1
      rw [ho] at hlt
      simp only [Bool.and_eq_true, decide_eq_true_eq] at hlt
      simp only [valsAt, List.getElem?_cons_zero, ho, Nat.add_zero] at h0
      rw [h0]
      simp only [Act.put]
      congr 1
      apply Array.ext
      · simp
      · intro j h1 h2
        rw [Array.getElem_setIfInBounds]
        split
        · rename_i e; subst e; simp [Array.getD, hlt.1]
        · rfl

/-- Each operation waits for earlier ones alone. -/
def edgesDown : List Oper → Nat → Bool
  | [], _ => true
  | o :: r, i => (predsOf o).all (fun j => decide (j < i)) && edgesDown r (i + 1)
theorem edgesDown_at : ∀ {l : List Oper} {k i : Nat} {o : Oper}, edgesDown l k = true → l[i]? = some o → ∀ j ∈ predsOf o, j < k + i
  | [], _, i, _, _, h, _, _ => by simp at h
  | p :: r, k, i, o, hd, h, j, hj => by
    simp only [edgesDown, Bool.and_eq_true, List.all_eq_true, decide_eq_true_eq] at hd
    match i, h with
    | 0, h => obtain rfl : p = o := Option.some.inj h; exact hd.1 j hj
    | i + 1, h => have := edgesDown_at hd.2 (show r[i]? = some o from h) j hj; omega
theorem listed_preds {ops : Array Oper} {listed : Array Bool} {i : Nat} {o : Oper} (hi : i ∈ Region.ready .any ops listed) (ho : ops[i]? = some o) : AllL (fun j => listed.getD j false) (predsOf o) := by
  obtain ⟨_, o', ho', hall⟩ := mem_ready.1 hi
  obtain rfl : o = o' := Option.some.inj (ho.symm.trans ho')
  refine allL_of fun j hj => ?_
  simp only [predsOf, List.mem_map, List.mem_filter, Array.mem_toList_iff] at hj
  obtain ⟨e, ⟨he, hb⟩, rfl⟩ := hj
  exact hall e he hb
theorem ready_nil {ops : Array Oper} {listed : Array Bool} (hd : edgesDown ops.toList 0 = true) (hs : listed.size = ops.size) (h : Region.ready .any ops listed = []) : ∀ i, i < ops.size → listed.getD i false = true := by
  intro i
  induction i using Nat.strongRecOn with
  | ind i ih =>
    intro hi
    cases hl : listed.getD i false with
    | true => rfl
    | false =>
      have hm : i ∈ Region.ready .any ops listed := by
        refine mem_ready.2 ⟨?_, ops[i], by simp [hi], fun e he hb => ?_⟩
        · simpa [Array.getD, hs, hi] using hl
        · have hlt := edgesDown_at (i := i) (o := ops[i]) hd (by simp [hi]) e.on (by
            simp only [predsOf, List.mem_map, List.mem_filter, Array.mem_toList_iff]
            exact ⟨e, ⟨he, hb⟩, rfl⟩)
          exact ih e.on (by omega) (by omega)
      rw [h] at hm
      cases hm

section
variable {P : Program} {ops : Array Oper} {Q : Exit → Act → World → Prop}

/-- Any order, by an invariant over what is listed, the values, and the world. -/
theorem wpAny_inv (a : Act) (n : Nat) (hn : dstsOk ops.toList n = true) (hd : edgesDown ops.toList 0 = true) (I : (Nat → Bool) → (Nat → Value) → World → Prop)
    (hstep : ∀ (i : Nat) (o : Oper), ops[i]? = some o → ∀ (L : Nat → Bool) (x : Nat → Value) (w : World), I L x w → L i = false → AllL L (predsOf o) →
      ∀ K : Act → World → Prop, Shut (∀ v w', I (setL L i) (updV x i v) w' → K ((actOf ops.toList x 0 a).put o.dst v) w') →
        if Region.wanted o (yielded ops (actOf ops.toList x 0 a).tmps) = true then o.wp P (actOf ops.toList x 0 a) w K Q else K ((actOf ops.toList x 0 a).put o.dst undef) w)
    (hfin : ∀ (L : Nat → Bool) (x : Nat → Value) (w : World), I L x w → (∀ i, i < ops.size → L i = true) → Q .normal (actOf ops.toList x 0 a) w) :
    ∀ (fuel : Nat) (listed : Array Bool) (x : Nat → Value) (w : World), listed.size = ops.size → I (fun i => listed.getD i false) x w →
      (∃ l : List Nat, l.length ≤ fuel ∧ ∀ i, i < ops.size → listed.getD i false = false → i ∈ l) →
      wpAny P .any ops Q fuel listed (actOf ops.toList x 0 a) w
  | 0, listed, x, w, hs, hI, ⟨l, hl, hc⟩ => by
    obtain rfl : l = [] := List.eq_nil_of_length_eq_zero (by omega)
    have hall : ∀ i, i < ops.size → listed.getD i false = true := fun i hi => by
      cases h : listed.getD i false with
      | true => rfl
      | false => have := hc i hi h; cases this
    refine ⟨?_, hfin _ x w hI hall⟩
    cases hr : Region.ready .any ops listed with
    | nil => rfl
    | cons j r =>
      have hj : j ∈ Region.ready .any ops listed := by rw [hr]; exact List.mem_cons_self ..
      obtain ⟨h1, o, ho, _⟩ := mem_ready.1 hj
      have hlt : j < ops.size := by
        rcases Nat.lt_or_ge j ops.size with h | h
        · exact h
        · rw [Array.getElem?_eq_none h] at ho; cases ho
      have h2 := hall j hlt
      simp [Array.getD, hs, hlt] at h1 h2
      rw [h2] at h1
      cases h1
  | fuel + 1, listed, x, w, hs, hI, ⟨l, hl, hc⟩ => by
    refine ⟨fun h => hfin _ x w hI (ready_nil hd hs h), fun i hi => ?_⟩
    obtain ⟨h1, o, ho, _⟩ := mem_ready.1 hi
    have hlt : i < ops.size := by
      rcases Nat.lt_or_ge i ops.size with h | h
      · exact h
      · rw [Array.getElem?_eq_none h] at ho; cases ho
    have h1' : listed.getD i false = false := by simp [Array.getD, hs, hlt] at h1 ⊢; exact h1
    refine wpOp_step ho (fun K hK => hstep i o ho _ x w hI h1' (listed_preds hi ho) K (fun v w' hI' => ?_))
    refine hK _ _ ?_
    rw [actOf_put ops.toList n x 0 a hn i o (by simpa using ho) v, Nat.zero_add]
    have hset : (fun j => (listed.setIfInBounds i true).getD j false) = setL (fun j => listed.getD j false) i := by
      funext j
      unfold setL
      by_cases e : j = i
      · subst e; rw [if_pos rfl]; simp [Array.getD, hs, hlt]
      · rw [if_neg e]
        simp only [Array.getD_eq_getD_getElem?, Array.getElem?_setIfInBounds_ne (Ne.symm e)]
    refine wpAny_inv a n hn hd I hstep hfin fuel _ _ w' (by simpa using hs) (by rw [hset]; exact hI') ⟨l.erase i, ?_, fun j hj hjl => ?_⟩
    · rw [List.length_erase_of_mem (hc i hlt h1')]; omega
    · have hji : j ≠ i := by
        rintro rfl
        simp [Array.getD, hs, hlt] at hjl
      have : listed.getD j false = false := by
        rw [Array.getD_eq_getD_getElem?, Array.getElem?_setIfInBounds_ne (Ne.symm hji), ← Array.getD_eq_getD_getElem?] at hjl
        exact hjl
      exact (List.mem_erase_of_ne hji).2 (hc j hj this)

/-- One goal for each operation. -/
def StepsAll (P : Program) (ops : Array Oper) (Q : Exit → Act → World → Prop) (a : Act) (I : (Nat → Bool) → (Nat → Value) → World → Prop) : List Oper → Nat → Prop
  | [], _ => True
  | o :: r, i => (∀ (L : Nat → Bool) (x : Nat → Value) (w : World), I L x w → L i = false → AllL L (predsOf o) →
      ∀ K : Act → World → Prop, Shut (∀ v w', I (setL L i) (updV x i v) w' → K ((actOf ops.toList x 0 a).put o.dst v) w') →
        if Region.wanted o (yielded ops (actOf ops.toList x 0 a).tmps) = true then o.wp P (actOf ops.toList x 0 a) w K Q else K ((actOf ops.toList x 0 a).put o.dst undef) w) ∧ StepsAll P ops Q a I r (i + 1)
theorem stepsAll_at {a : Act} {I : (Nat → Bool) → (Nat → Value) → World → Prop} : ∀ {l : List Oper} {k : Nat}, StepsAll P ops Q a I l k → ∀ (i : Nat) (o : Oper), l[i]? = some o → ∀ (L : Nat → Bool) (x : Nat → Value) (w : World), I L x w → L (k + i) = false → AllL L (predsOf o) →
      ∀ K : Act → World → Prop, Shut (∀ v w', I (setL L (k + i)) (updV x (k + i) v) w' → K ((actOf ops.toList x 0 a).put o.dst v) w') →
        if Region.wanted o (yielded ops (actOf ops.toList x 0 a).tmps) = true then o.wp P (actOf ops.toList x 0 a) w K Q else K ((actOf ops.toList x 0 a).put o.dst undef) w
  | [], _, _, i, _, h => by simp at h
  | p :: r, k, hs, 0, o, h => by
    obtain rfl : p = o := Option.some.inj h
    exact hs.1
  | p :: r, k, hs, i + 1, o, h => by
    have := stepsAll_at hs.2 i o h
    rw [show k + 1 + i = k + (i + 1) by omega] at this
    exact this

/-- The region. -/
theorem region_inv {id : Nat} {a : Act} {w : World} (I : (Nat → Bool) → (Nat → Value) → World → Prop) (hm : P.follows .mixedOrders = true)
    (hn : dstsOk ops.toList a.tmps.size = true) (hd : edgesDown ops.toList 0 = true) (h0 : I (fun _ => false) (valsAt ops.toList a) w.drew)
    (hstep : StepsAll P ops Q a I ops.toList 0)
    (hfin : ∀ (L : Nat → Bool) (x : Nat → Value) (w : World), I L x w → (∀ i, i < ops.size → L i = true) → Q .normal (actOf ops.toList x 0 a) w) : (Code.region id ops true).wp P Q a w := by
  refine wp_region_any hm ?_
  have hself := actOf_self ops.toList (valsAt ops.toList a) 0 a hn (fun i => by rw [Nat.zero_add])
  have hL : (fun i => (Array.replicate ops.size false).getD i false) = fun _ => false := by
    funext i
    simp [Array.getD]
  have := wpAny_inv (P := P) (ops := ops) (Q := Q) a _ hn hd I (fun i o ho => by have := stepsAll_at hstep i o (by simpa using ho); rwa [Nat.zero_add] at this) hfin ops.size (Array.replicate ops.size false) (valsAt ops.toList a) w.drew (by simp) (by rw [hL]; exact h0) ⟨List.range ops.size, by simp, fun i hi _ => by simpa using hi⟩
  rw [hself] at this
  exact this

/-- The values of the operations that have come up. -/
def Holds (L : Nat → Bool) (x : Nat → Value) : List Value → Nat → Prop
  | [], _ => True
  | v :: r, i => (L i = true → x i = v) ∧ Holds L x r (i + 1)
theorem Holds.none (x : Nat → Value) : ∀ (vs : List Value) (k : Nat), Holds (fun _ => false) x vs k
  | [], _ => trivial
  | _ :: r, k => ⟨fun h => (by cases h), Holds.none x r (k + 1)⟩
theorem Holds.step {L : Nat → Bool} {x : Nat → Value} {i : Nat} {v : Value} : ∀ {vs : List Value} {k : Nat}, Holds L x vs k → (∀ j u, vs[j]? = some u → k + j = i → u = v) → Holds (setL L i) (updV x i v) vs k
  | [], _, _, _ => trivial
  | u :: r, k, h, hv => by
    refine ⟨fun hl => ?_, h.2.step fun j u' hj hk => hv (j + 1) u' hj (by omega)⟩
    by_cases e : k = i
    · subst e
      rw [hv 0 u rfl rfl]
      exact if_pos rfl
    · have h1 : L k = true := by rw [← hl]; exact (if_neg e).symm
      rw [← h.1 h1]
      exact if_neg e
/-- One goal for each operation, where the values are determined. -/
def StepsD (P : Program) (ops : Array Oper) (Q : Exit → Act → World → Prop) (a : Act) (vals : List Value) (S : (Nat → Bool) → World → Prop) : List Oper → Nat → Prop
  | [], _ => True
  | o :: r, i => (∀ (L : Nat → Bool) (x : Nat → Value) (w : World), Holds L x vals 0 → S L w → L i = false → AllL L (predsOf o) →
      ∀ K : Act → World → Prop, Shut (∀ w', S (setL L i) w' → K ((actOf ops.toList x 0 a).put o.dst (vals.getD i undef)) w') →
        if Region.wanted o (yielded ops (actOf ops.toList x 0 a).tmps) = true then o.wp P (actOf ops.toList x 0 a) w K Q else K ((actOf ops.toList x 0 a).put o.dst undef) w) ∧ StepsD P ops Q a vals S r (i + 1)
theorem stepsAll_of_det {a : Act} {vals : List Value} {S : (Nat → Bool) → World → Prop} : ∀ (l : List Oper) (k : Nat), StepsD P ops Q a vals S l k → StepsAll P ops Q a (fun L x w => Holds L x vals 0 ∧ S L w) l k
  | [], _, _ => trivial
  | o :: r, k, h => ⟨fun L x w ⟨hv, hS⟩ hl hp K hK => h.1 L x w hv hS hl hp K (fun w' hS' => hK _ w' ⟨hv.step fun j u hj e => by
      rw [Nat.zero_add] at e
      subst e
      rw [List.getD_eq_getElem?_getD, hj]; rfl, hS'⟩), stepsAll_of_det r (k + 1) h.2⟩
theorem Holds.at {L : Nat → Bool} {x : Nat → Value} : ∀ {vs : List Value} {k : Nat}, Holds L x vs k → ∀ (i : Nat) (v : Value), vs[i]? = some v → L (k + i) = true → x (k + i) = v
  | [], _, _, _, _, h, _ => by simp at h
  | u :: r, k, h, 0, v, hi, hl => by obtain rfl : u = v := Option.some.inj hi; exact h.1 hl
  | u :: r, k, h, i + 1, v, hi, hl => by
    have := h.2.at i v hi
    rw [show k + 1 + i = k + (i + 1) by omega] at this
    exact this hl
theorem actOf_congr {x y : Nat → Value} {a : Act} : ∀ (l : List Oper) (k : Nat), (∀ i, i < l.length → x (k + i) = y (k + i)) → actOf l x k a = actOf l y k a
  | [], _, _ => rfl
  | o :: r, k, h => by
    simp only [actOf]
    have h0 : ∀ i, i < r.length → x (k + 1 + i) = y (k + 1 + i) := fun i hi => by
      have h3 := h (i + 1) (Nat.succ_lt_succ hi)
      rw [show k + (i + 1) = k + 1 + i by omega] at h3
      exact h3
    have h1 := actOf_congr (a := a) r (k + 1) h0
    have h2 : x k = y k := h 0 (by simp)
    rw [h1, h2]
/-- The region, where the values are determined. -/
theorem region_det {id : Nat} {a : Act} {w : World} (vals : List Value) (S : (Nat → Bool) → World → Prop) (hm : P.follows .mixedOrders = true)
    (hn : dstsOk ops.toList a.tmps.size = true) (hd : edgesDown ops.toList 0 = true) (hl : vals.length = ops.size) (h0 : S (fun _ => false) w.drew)
    (hstep : StepsD P ops Q a vals S ops.toList 0)
    (hfin : ∀ (L : Nat → Bool) (w : World), S L w → (∀ i, i < ops.size → L i = true) → Q .normal (actOf ops.toList (fun i => vals.getD i undef) 0 a) w) : (Code.region id ops true).wp P Q a w := by
  refine region_inv (fun L x w => Holds L x vals 0 ∧ S L w) hm hn hd ⟨Holds.none _ _ _, h0⟩ (stepsAll_of_det _ _ hstep) fun L x w ⟨hv, hS⟩ hL => ?_
  have he : actOf ops.toList x 0 a = actOf ops.toList (fun i => vals.getD i undef) 0 a := by
    refine actOf_congr _ _ fun i hi => ?_
    have hi' : i < ops.size := by simpa using hi
    have hiv : vals[i]? = some (vals.getD i undef) := by rw [List.getD_eq_getElem?_getD, List.getElem?_eq_getElem (by omega)]; rfl
    have := hv.at i _ hiv (by rw [Nat.zero_add]; exact hL i hi')
    rw [Nat.zero_add] at this ⊢
    exact this
  rw [he]
  exact hfin L w hS hL

def pickV : Bool → Option Value → Value → Value
  | true, some v, _ => v
  | _, _, u => u
/-- The frame: what is determined and has surely come up stands in its slot. -/
def actMix : List Oper → List Bool → List (Option Value) → (Nat → Value) → Nat → Act → Act
  | [], _, _, _, _, a => a
  | o :: r, bs, vs, x, i, a => (actMix r bs.tail vs.tail x (i + 1) a).put o.dst (pickV (bs.headD false) (vs.headD none) (x i))
theorem actMix_eq {x : Nat → Value} {a : Act} : ∀ (l : List Oper) (bs : List Bool) (vs : List (Option Value)) (k : Nat), (∀ i v, bs[i]? = some true → vs[i]? = some (some v) → x (k + i) = v) → actMix l bs vs x k a = actOf l x k a
  | [], _, _, _, _ => rfl
  | o :: r, bs, vs, k, h => by
    simp only [actMix, actOf]
    have h1 := actMix_eq (x := x) (a := a) r bs.tail vs.tail (k + 1) (fun i v hb hv => by
      have h3 := h (i + 1) v (by cases bs <;> simp at hb ⊢; exact hb) (by cases vs <;> simp at hv ⊢; exact hv)
      rw [show k + (i + 1) = k + 1 + i by omega] at h3
      exact h3)
    have h2 : pickV (bs.headD false) (vs.headD none) (x k) = x k := by
      cases bs with
      | nil => rfl
      | cons b bs =>
        cases vs with
        | nil => cases b <;> rfl
        | cons v vs =>
          cases b with
          | false => rfl
          | true =>
            cases v with
            | none => rfl
            | some v => exact (h 0 v rfl rfl).symm
    rw [h1, h2]
/-- The masks: who has surely come up ahead of each operation. -/
def masksOf (ops : List Oper) (l : List Oper) : List (List Bool) := l.map fun o => (List.range ops.length).map fun j => (predsOf o).contains j
/-- One goal for each operation. -/
def StepsM (P : Program) (ops : Array Oper) (Q : Exit → Act → World → Prop) (a : Act) (vals : List (Option Value)) (S : (Nat → Bool) → (Nat → Value) → World → Prop) : List Oper → List (List Bool) → List (Option Value) → Nat → Prop
  | [], _, _, _ => True
  | o :: r, m :: ms, some v :: vs, i => (∀ (L : Nat → Bool) (x : Nat → Value) (w : World), S L x w → L i = false → AllL L (predsOf o) →
      ∀ K : Act → World → Prop, Shut (∀ w', S (setL L i) (updV x i v) w' → K ((actMix ops.toList m vals x 0 a).put o.dst v) w') →
        if Region.wanted o (yielded ops (actMix ops.toList m vals x 0 a).tmps) = true then o.wp P (actMix ops.toList m vals x 0 a) w K Q else K ((actMix ops.toList m vals x 0 a).put o.dst undef) w) ∧ StepsM P ops Q a vals S r ms vs (i + 1)
  | o :: r, m :: ms, none :: vs, i => (∀ (L : Nat → Bool) (x : Nat → Value) (w : World), S L x w → L i = false → AllL L (predsOf o) →
      ∀ K : Act → World → Prop, Shut (∀ v w', S (setL L i) (updV x i v) w' → K ((actMix ops.toList m vals x 0 a).put o.dst v) w') →
        if Region.wanted o (yielded ops (actMix ops.toList m vals x 0 a).tmps) = true then o.wp P (actMix ops.toList m vals x 0 a) w K Q else K ((actMix ops.toList m vals x 0 a).put o.dst undef) w) ∧ StepsM P ops Q a vals S r ms vs (i + 1)
  | _, _, _, _ => False
def HoldsM (L : Nat → Bool) (x : Nat → Value) (vals : List (Option Value)) : Prop := ∀ i v, vals[i]? = some (some v) → L i = true → x i = v
theorem HoldsM.step {L : Nat → Bool} {x : Nat → Value} {vals : List (Option Value)} {i : Nat} {v : Value} (h : HoldsM L x vals) (hv : ∀ u, vals[i]? = some (some u) → u = v) : HoldsM (setL L i) (updV x i v) vals := fun j u hj hl => by
  by_cases e : j = i
  · subst e
    rw [hv u hj]
    exact if_pos rfl
  · have h1 : L j = true := by rw [← hl]; exact (if_neg e).symm
    rw [← h j u hj h1]
    exact if_neg e
theorem mask_eq {x : Nat → Value} {a : Act} {vals : List (Option Value)} {L : Nat → Bool} {o : Oper} {m : List Bool} {l : List Oper} (hh : HoldsM L x vals) (hp : ∀ j ∈ predsOf o, L j = true) (hm : m = (List.range l.length).map fun j => (predsOf o).contains j) : actMix l m vals x 0 a = actOf l x 0 a := by
  refine actMix_eq _ _ _ _ fun i v hb hv => ?_
  rw [Nat.zero_add]
  refine hh i v hv (hp i ?_)
  rw [hm, List.getElem?_map, Option.map_eq_some_iff] at hb
  obtain ⟨k, hk, hc⟩ := hb
  obtain ⟨h1, h2⟩ := List.getElem?_eq_some_iff.1 hk
  rw [List.getElem_range] at h2
  subst h2
  simpa using hc
theorem allL_mem {L : Nat → Bool} : ∀ {l : List Nat}, AllL L l → ∀ j ∈ l, L j = true
  | [], _, j, hj => by cases hj
  | k :: r, h, j, hj => by
    rcases List.mem_cons.1 hj with rfl | hj
    · exact h.1
    · exact allL_mem h.2 j hj
theorem stepsAll_of_mix {a : Act} {vals : List (Option Value)} {S : (Nat → Bool) → (Nat → Value) → World → Prop} : ∀ (l : List Oper) (ms : List (List Bool)) (vs : List (Option Value)) (k : Nat), ms = masksOf ops.toList l → (∀ i, vs[i]? = vals[k + i]?) →
    StepsM P ops Q a vals S l ms vs k → StepsAll P ops Q a (fun L x w => HoldsM L x vals ∧ S L x w) l k
  | [], _, _, _, _, _, _ => trivial
  | o :: r, m :: ms, some v :: vs, k, hm, hv, h => by
    simp only [masksOf, List.map_cons, List.cons.injEq] at hm
    refine ⟨fun L x w ⟨hh, hS⟩ hl hp K hK => ?_, stepsAll_of_mix r ms vs (k + 1) hm.2 (fun i => by have := hv (i + 1); rw [show k + (i + 1) = k + 1 + i by omega] at this; exact this) h.2⟩
    have he := mask_eq (a := a) hh (allL_mem hp) hm.1
    have := h.1 L x w hS hl hp K
    rw [he] at this
    refine this fun w' hS' => hK _ w' ⟨hh.step fun u hu => ?_, hS'⟩
    have h0 := hv 0
    rw [Nat.add_zero, hu] at h0
    exact (Option.some.inj (Option.some.inj h0)).symm
  | o :: r, m :: ms, none :: vs, k, hm, hv, h => by
    simp only [masksOf, List.map_cons, List.cons.injEq] at hm
    refine ⟨fun L x w ⟨hh, hS⟩ hl hp K hK => ?_, stepsAll_of_mix r ms vs (k + 1) hm.2 (fun i => by have := hv (i + 1); rw [show k + (i + 1) = k + 1 + i by omega] at this; exact this) h.2⟩
    have he := mask_eq (a := a) hh (allL_mem hp) hm.1
    have := h.1 L x w hS hl hp K
    rw [he] at this
    refine this fun v w' hS' => hK _ w' ⟨hh.step fun u hu => ?_, hS'⟩
    have h0 := hv 0
    rw [Nat.add_zero, hu] at h0
    cases h0
  | _ :: _, [], _, _, _, _, h => h.elim
  | _ :: _, _ :: _, [], _, _, _, h => h.elim
/-- The region: what is determined stands in the list, of the rest S speaks. -/
theorem region_mix {id : Nat} {a : Act} {w : World} (vals : List (Option Value)) (masks : List (List Bool)) (S : (Nat → Bool) → (Nat → Value) → World → Prop) (hm : P.follows .mixedOrders = true)
    (hn : dstsOk ops.toList a.tmps.size = true) (hd : edgesDown ops.toList 0 = true) (hk : masks = masksOf ops.toList ops.toList) (h0 : ∀ x, S (fun _ => false) x w.drew)
    (hstep : StepsM P ops Q a vals S ops.toList masks vals 0)
    (hfin : ∀ (L : Nat → Bool) (x : Nat → Value) (w : World), S L x w → (∀ i, i < ops.size → L i = true) → Q .normal (actMix ops.toList (List.replicate ops.size true) vals x 0 a) w) : (Code.region id ops true).wp P Q a w := by
  refine region_inv (fun L x w => HoldsM L x vals ∧ S L x w) hm hn hd ⟨fun i v _ hl => (by cases hl), h0 _⟩ (stepsAll_of_mix _ _ _ _ hk (fun i => by rw [Nat.zero_add]) hstep) fun L x w ⟨hh, hS⟩ hL => ?_
  have he : actMix ops.toList (List.replicate ops.size true) vals x 0 a = actOf ops.toList x 0 a := by
    refine actMix_eq _ _ _ _ fun i v hb hv => ?_
    rw [Nat.zero_add]
    refine hh i v hv (hL i ?_)
    obtain ⟨h1, _⟩ := List.getElem?_eq_some_iff.1 hb
    simpa using h1
  rw [← he]
  exact hfin L x w hS hL
end
end Go.Proofs.YtbbphklhnngjmaaDoor

/- A region that draws its order, by an invariant over its first operations; the others, each of which waits for all before it, follow in their order. -/
namespace Go.Proofs.YtbbphklhnngjmaaDoor
open Go.RowKit

section
variable {P : Program} {ops : Array Oper} {Q : Exit → Act → World → Prop}

theorem wpAny_act (hd : edgesDown ops.toList 0 = true) (I : (Nat → Bool) → Act → World → Prop)
    (hstep : ∀ (i : Nat) (o : Oper), ops[i]? = some o → ∀ (L : Nat → Bool) (a : Act) (w : World), I L a w → L i = false → AllL L (predsOf o) → wpOp P ops Q i (fun a' w' => I (setL L i) a' w') a w)
    (hfin : ∀ (L : Nat → Bool) (a : Act) (w : World), I L a w → (∀ i, i < ops.size → L i = true) → Q .normal a w) :
    ∀ (fuel : Nat) (listed : Array Bool) (a : Act) (w : World), listed.size = ops.size → I (fun i => listed.getD i false) a w →
      (∃ l : List Nat, l.length ≤ fuel ∧ ∀ i, i < ops.size → listed.getD i false = false → i ∈ l) → wpAny P .any ops Q fuel listed a w
  | 0, listed, a, w, hs, hI, ⟨l, hl, hc⟩ => by
    obtain rfl : l = [] := List.eq_nil_of_length_eq_zero (by omega)
    have hall : ∀ i, i < ops.size → listed.getD i false = true := fun i hi => by
      cases h : listed.getD i false with
      | true => rfl
      | false => have := hc i hi h; cases this
    refine ⟨?_, hfin _ a w hI hall⟩
    cases hr : Region.ready .any ops listed with
    | nil => rfl
    | cons j r =>
      have hj : j ∈ Region.ready .any ops listed := by rw [hr]; exact List.mem_cons_self ..
      obtain ⟨h1, o, ho, _⟩ := mem_ready.1 hj
      have hlt : j < ops.size := by
        rcases Nat.lt_or_ge j ops.size with h | h
        · exact h
        · rw [Array.getElem?_eq_none h] at ho; cases ho
      have h2 := hall j hlt
      simp [Array.getD, hs, hlt] at h1 h2
      rw [h2] at h1
      cases h1
  | fuel + 1, listed, a, w, hs, hI, ⟨l, hl, hc⟩ => by
    refine ⟨fun h => hfin _ a w hI (ready_nil hd hs h), fun i hi => ?_⟩
    obtain ⟨h1, o, ho, _⟩ := mem_ready.1 hi
    have hlt : i < ops.size := by
      rcases Nat.lt_or_ge i ops.size with h | h
      · exact h
      · rw [Array.getElem?_eq_none h] at ho; cases ho
    have h1' : listed.getD i false = false := by simp [Array.getD, hs, hlt] at h1 ⊢; exact h1
    have hset : (fun j => (listed.setIfInBounds i true).getD j false) = setL (fun j => listed.getD j false) i := by
      funext j
      unfold setL
      by_cases e : j = i
      · subst e; rw [if_pos rfl]; simp [Array.getD, hs, hlt]
      · rw [if_neg e]
        simp only [Array.getD_eq_getD_getElem?, Array.getElem?_setIfInBounds_ne (Ne.symm e)]
    refine wpOp_mono (fun a' w' hI' => ?_) (hstep i o ho _ a w hI h1' (listed_preds hi ho))
    refine wpAny_act hd I hstep hfin fuel _ a' w' (by simpa using hs) (by rw [hset]; exact hI') ⟨l.erase i, ?_, fun j hj hjl => ?_⟩
    · rw [List.length_erase_of_mem (hc i hlt h1')]; omega
    · have hji : j ≠ i := by
        rintro rfl
        simp [Array.getD, hs, hlt] at hjl
      have : listed.getD j false = false := by
        rw [Array.getD_eq_getD_getElem?, Array.getElem?_setIfInBounds_ne (Ne.symm hji), ← Array.getD_eq_getD_getElem?] at hjl
        exact hjl
      exact (List.mem_erase_of_ne hji).2 (hc j hj this)

/-- The first behind so many waits for all before it, each later one for the one before it. -/
def tailOk : List Oper → Nat → Nat → Bool
  | [], _, _ => true
  | o :: r, i, n => (decide (i < n) || (if i = n then (List.range n).all (fun j => (predsOf o).contains j) else (predsOf o).contains (i - 1))) && tailOk r (i + 1) n
theorem tailOk_n {n : Nat} : ∀ {l : List Oper} {k i : Nat} {o : Oper}, tailOk l k n = true → l[i]? = some o → k + i = n → ∀ j, j < n → j ∈ predsOf o
  | [], _, i, _, _, h, _, _, _ => by simp at h
  | p :: r, k, i, o, ht, h, hn, j, hj => by
    simp only [tailOk, Bool.and_eq_true, Bool.or_eq_true, decide_eq_true_eq] at ht
    match i, h with
    | 0, h =>
      obtain rfl : p = o := Option.some.inj h
      rcases ht.1 with h1 | h1
      · omega
      · rw [if_pos (by omega)] at h1
        simp only [List.all_eq_true, List.mem_range] at h1
        simpa using h1 j hj
    | i + 1, h => exact tailOk_n ht.2 (show r[i]? = some o from h) (by omega) j (by omega)
theorem tailOk_s {n : Nat} : ∀ {l : List Oper} {k i : Nat} {o : Oper}, tailOk l k n = true → l[i]? = some o → n < k + i → k + i - 1 ∈ predsOf o
  | [], _, i, _, _, h, _ => by simp at h
  | p :: r, k, i, o, ht, h, hn => by
    simp only [tailOk, Bool.and_eq_true, Bool.or_eq_true, decide_eq_true_eq] at ht
    match i, h with
    | 0, h =>
      obtain rfl : p = o := Option.some.inj h
      rcases ht.1 with h1 | h1
      · omega
      · rw [if_neg (by omega)] at h1
        simpa using h1
    | i + 1, h =>
      have := tailOk_s ht.2 (show r[i]? = some o from h) (by omega)
      rwa [show k + (i + 1) - 1 = k + 1 + i - 1 by omega]
theorem wpList_op {k : Nat} {o : Oper} (ho : ops[k]? = some o) {rest : List Oper} {a : Act} {w : World} (h : wpList P ops Q (o :: rest) a w) : wpOp P ops Q k (wpList P ops Q rest) a w := by
  unfold wpOp
  simp only [ho]
  exact h
/-- One goal for each operation. -/
def StepsT (P : Program) (ops : Array Oper) (Q : Exit → Act → World → Prop) (a : Act) (hd : List Oper) (vals : List (Option Value)) (S : (Nat → Bool) → (Nat → Value) → World → Prop) : List Oper → List (List Bool) → List (Option Value) → Nat → Prop
  | [], _, _, _ => True
  | o :: r, m :: ms, some v :: vs, i => (∀ (L : Nat → Bool) (x : Nat → Value) (w : World), S L x w → L i = false → AllL L (predsOf o) →
      ∀ K : Act → World → Prop, Shut (∀ w', S (setL L i) (updV x i v) w' → K ((actMix hd m vals x 0 a).put o.dst v) w') →
        if Region.wanted o (yielded ops (actMix hd m vals x 0 a).tmps) = true then o.wp P (actMix hd m vals x 0 a) w K Q else K ((actMix hd m vals x 0 a).put o.dst undef) w) ∧ StepsT P ops Q a hd vals S r ms vs (i + 1)
  | o :: r, m :: ms, none :: vs, i => (∀ (L : Nat → Bool) (x : Nat → Value) (w : World), S L x w → L i = false → AllL L (predsOf o) →
      ∀ K : Act → World → Prop, Shut (∀ v w', S (setL L i) (updV x i v) w' → K ((actMix hd m vals x 0 a).put o.dst v) w') →
        if Region.wanted o (yielded ops (actMix hd m vals x 0 a).tmps) = true then o.wp P (actMix hd m vals x 0 a) w K Q else K ((actMix hd m vals x 0 a).put o.dst undef) w) ∧ StepsT P ops Q a hd vals S r ms vs (i + 1)
  | _, _, _, _ => False
def masksT (n : Nat) (l : List Oper) : List (List Bool) := l.map fun o => (List.range n).map fun j => (predsOf o).contains j
theorem stepsT_at {a : Act} {hd : List Oper} {vals : List (Option Value)} {S : (Nat → Bool) → (Nat → Value) → World → Prop} : ∀ (l : List Oper) (ms : List (List Bool)) (vs : List (Option Value)) (k : Nat), ms = masksT hd.length l → (∀ i, vs[i]? = vals[k + i]?) →
    StepsT P ops Q a hd vals S l ms vs k → ∀ (i : Nat) (o : Oper), l[i]? = some o → ∀ (L : Nat → Bool) (x : Nat → Value) (w : World), HoldsM L x vals ∧ S L x w → L (k + i) = false → AllL L (predsOf o) →
      ∀ K : Act → World → Prop, Shut (∀ v w', HoldsM (setL L (k + i)) (updV x (k + i) v) vals ∧ S (setL L (k + i)) (updV x (k + i) v) w' → K ((actOf hd x 0 a).put o.dst v) w') →
        if Region.wanted o (yielded ops (actOf hd x 0 a).tmps) = true then o.wp P (actOf hd x 0 a) w K Q else K ((actOf hd x 0 a).put o.dst undef) w
  | [], _, _, _, _, _, _, i, o, h => by simp at h
  | o :: r, m :: ms, some v :: vs, k, hm, hv, h, 0, p, hp0 => by
    obtain rfl : o = p := Option.some.inj hp0
    simp only [masksT, List.map_cons, List.cons.injEq] at hm
    intro L x w ⟨hh, hS⟩ hl hp K hK
    rw [Nat.add_zero] at hl hK
    have he := mask_eq (a := a) hh (allL_mem hp) hm.1
    have := h.1 L x w hS hl hp K
    rw [he] at this
    refine this fun w' hS' => hK _ w' ⟨hh.step fun u hu => ?_, hS'⟩
    have h0 := hv 0
    rw [Nat.add_zero, hu] at h0
    exact (Option.some.inj (Option.some.inj h0)).symm
  | o :: r, m :: ms, none :: vs, k, hm, hv, h, 0, p, hp0 => by
    obtain rfl : o = p := Option.some.inj hp0
    simp only [masksT, List.map_cons, List.cons.injEq] at hm
    intro L x w ⟨hh, hS⟩ hl hp K hK
    rw [Nat.add_zero] at hl hK
    have he := mask_eq (a := a) hh (allL_mem hp) hm.1
    have := h.1 L x w hS hl hp K
    rw [he] at this
    refine this fun v w' hS' => hK _ w' ⟨hh.step fun u hu => ?_, hS'⟩
    have h0 := hv 0
    rw [Nat.add_zero, hu] at h0
    cases h0
  | o :: r, m :: ms, some v :: vs, k, hm, hv, h, i + 1, p, hp0 => by
    simp only [masksT, List.map_cons, List.cons.injEq] at hm
    have := stepsT_at r ms vs (k + 1) hm.2 (fun i => by have := hv (i + 1); rw [show k + (i + 1) = k + 1 + i by omega] at this; exact this) h.2 i p hp0
    rw [show k + 1 + i = k + (i + 1) by omega] at this
    exact this
  | o :: r, m :: ms, none :: vs, k, hm, hv, h, i + 1, p, hp0 => by
    simp only [masksT, List.map_cons, List.cons.injEq] at hm
    have := stepsT_at r ms vs (k + 1) hm.2 (fun i => by have := hv (i + 1); rw [show k + (i + 1) = k + 1 + i by omega] at this; exact this) h.2 i p hp0
    rw [show k + 1 + i = k + (i + 1) by omega] at this
    exact this
  | _ :: _, [], _, _, _, _, h, _, _, _ => h.elim
  | _ :: _, _ :: _, [], _, _, _, h, _, _, _ => h.elim
def HeadS (P : Program) (ops : Array Oper) (Q : Exit → Act → World → Prop) (n : Nat) (a0 : Act) (vals : List (Option Value)) (S : (Nat → Bool) → (Nat → Value) → World → Prop) (L : Nat → Bool) (a : Act) (w : World) : Prop :=
  ((∀ i, n ≤ i → L i = false) ∧ ∃ x, a = actOf (ops.toList.take n) x 0 a0 ∧ HoldsM L x vals ∧ S L x w) ∨
  ∃ k, n ≤ k ∧ (∀ i, i < k → i < ops.size → L i = true) ∧ (∀ i, k ≤ i → L i = false) ∧ wpList P ops Q (ops.toList.drop k) a w

/-- The region. -/
theorem region_mixt {id : Nat} {a : Act} {w : World} (n : Nat) (vals : List (Option Value)) (masks : List (List Bool)) (S : (Nat → Bool) → (Nat → Value) → World → Prop) (hm : P.follows .mixedOrders = true)
    (hn : dstsOk (ops.toList.take n) a.tmps.size = true) (hd : edgesDown ops.toList 0 = true) (ht : tailOk ops.toList 0 n = true) (hk : masks = masksT n (ops.toList.take n)) (hnn : n ≤ ops.size) (h0 : ∀ x, S (fun _ => false) x w.drew)
    (hstep : StepsT P ops Q a (ops.toList.take n) vals S (ops.toList.take n) masks vals 0)
    (hfin : ∀ (L : Nat → Bool) (x : Nat → Value) (w : World), S L x w → (∀ i, i < n → L i = true) → wpList P ops Q (ops.toList.drop n) (actMix (ops.toList.take n) (List.replicate n true) vals x 0 a) w) : (Code.region id ops true).wp P Q a w := by
  refine wp_region_any hm ?_
  have hself := actOf_self (ops.toList.take n) (valsAt (ops.toList.take n) a) 0 a hn (fun i => by rw [Nat.zero_add])
  have hlen : (ops.toList.take n).length = n := by simp; omega
  have hL : (fun i => (Array.replicate ops.size false).getD i false) = fun _ => false := by
    funext i
    simp [Array.getD]
  refine wpAny_act (P := P) (ops := ops) (Q := Q) hd (HeadS P ops Q n a vals S) ?_ ?_ ops.size (Array.replicate ops.size false) a w.drew (by simp) ?_ ⟨List.range ops.size, by simp, fun i hi _ => by simpa using hi⟩
  · intro i o ho L a1 w1 hI hl hp
    have hol : ops.toList[i]? = some o := by simpa using ho
    have hlt : i < ops.size := by
      rcases Nat.lt_or_ge i ops.size with h | h
      · exact h
      · rw [Array.getElem?_eq_none h] at ho; cases ho
    have tail : ∀ k, n ≤ k → (∀ j, j < k → j < ops.size → L j = true) → (∀ j, k ≤ j → L j = false) → wpList P ops Q (ops.toList.drop k) a1 w1 → wpOp P ops Q i (fun a' w' => HeadS P ops Q n a vals S (setL L i) a' w') a1 w1 := by
      intro k hk1 hk2 hk3 hw
      have hik : k ≤ i := by
        rcases Nat.lt_or_ge i k with h | h
        · have := hk2 i h hlt
          rw [hl] at this
          cases this
        · exact h
      have hki : i = k := by
        rcases Nat.lt_or_ge k i with h | h
        · have h1 := allL_mem hp _ (tailOk_s ht hol (by omega))
          rw [hk3 _ (by omega)] at h1
          cases h1
        · omega
      subst hki
      have hdr : ops.toList.drop i = o :: ops.toList.drop (i + 1) := by
        rw [List.drop_eq_getElem_cons (by simpa using hlt)]
        congr 1
        have := List.getElem?_eq_some_iff.1 hol
        exact this.2
      rw [hdr] at hw
      refine wpOp_mono (fun a' w' h => ?_) (wpList_op ho hw)
      refine .inr ⟨i + 1, by omega, fun j hj hjs => ?_, fun j hj => ?_, h⟩
      · unfold setL
        by_cases e : j = i
        · rw [if_pos e]
        · rw [if_neg e]; exact hk2 j (by omega) hjs
      · unfold setL
        rw [if_neg (by omega)]
        exact hk3 j (by omega)
    rcases hI with ⟨hu, x, rfl, hh, hS⟩ | ⟨k, hk1, hk2, hk3, hw⟩
    · rcases Nat.lt_or_ge i n with hin | hin
      · have hti : (ops.toList.take n)[i]? = some o := by rw [List.getElem?_take, if_pos hin]; exact hol
        have hst := stepsT_at (ops.toList.take n) masks vals 0 (by rw [hlen]; exact hk) (fun i => by rw [Nat.zero_add]) hstep i o hti L x w1 ⟨hh, hS⟩ (by rw [Nat.zero_add]; exact hl) hp
        rw [Nat.zero_add] at hst
        refine wpOp_step ho (fun K hK => hst K (fun v w' ⟨hh', hS'⟩ => hK _ _ (.inl ⟨fun j hj => ?_, updV x i v, ?_, hh', hS'⟩)))
        · unfold setL
          rw [if_neg (by omega)]
          exact hu j hj
        · rw [actOf_put (ops.toList.take n) _ x 0 a hn i o hti v, Nat.zero_add]
      · have hin' : i = n := by
          rcases Nat.lt_or_ge n i with h | h
          · have h1 := allL_mem hp _ (tailOk_s ht hol (by omega))
            rw [hu _ (by omega)] at h1
            cases h1
          · omega
        have hall : ∀ j, j < i → L j = true := fun j hj => allL_mem hp j (tailOk_n ht hol (by omega) j (by omega))
        subst hin'
        have he : actMix (ops.toList.take i) (List.replicate i true) vals x 0 a = actOf (ops.toList.take i) x 0 a := by
          refine actMix_eq _ _ _ _ fun j v hb hv => ?_
          rw [Nat.zero_add]
          obtain ⟨h1, _⟩ := List.getElem?_eq_some_iff.1 hb
          exact hh j v hv (hall j (by simpa using h1))
        have hw := hfin L x w1 hS hall
        rw [he] at hw
        exact tail i (Nat.le_refl _) (fun j hj _ => hall j hj) hu hw
    · exact tail k hk1 hk2 hk3 hw
  · intro L a1 w1 hI hall
    rcases hI with ⟨hu, x, rfl, hh, hS⟩ | ⟨k, hk1, hk2, hk3, hw⟩
    · have hns : n = ops.size := by
        rcases Nat.lt_or_ge n ops.size with h | h
        · have h1 := hall n h
          rw [hu n (Nat.le_refl _)] at h1
          cases h1
        · omega
      have hw := hfin L x w1 hS (fun j hj => hall j (by omega))
      have he : actMix (ops.toList.take n) (List.replicate n true) vals x 0 a = actOf (ops.toList.take n) x 0 a := by
        refine actMix_eq _ _ _ _ fun j v hb hv => ?_
        rw [Nat.zero_add]
        obtain ⟨h1, _⟩ := List.getElem?_eq_some_iff.1 hb
        exact hh j v hv (hall j (by have : j < n := by simpa using h1
                                    omega))
      rw [he, List.drop_eq_nil_of_le (by simp; omega)] at hw
      exact hw
    · have hns : ops.size ≤ k := by
        rcases Nat.lt_or_ge k ops.size with h | h
        · have h1 := hall k h
          rw [hk3 k (Nat.le_refl _)] at h1
          cases h1
        · exact h
      rw [List.drop_eq_nil_of_le (by simpa using hns)] at hw
      exact hw
  · rw [hL]
    exact .inl ⟨fun _ _ => rfl, valsAt (ops.toList.take n) a, hself.symm, fun i v _ hl => (by cases hl), h0 _⟩
end
end Go.Proofs.YtbbphklhnngjmaaDoor

/- start: Reason, over its table of words. -/
namespace Go.Proofs.YtbbphklhnngjmaaDoor
open Go.RowKit

/-- The table's cells. -/
def reasC : List Value := [.int .i64 200, .string ⟨#[79, 75]⟩, .int .i64 400, .string ⟨#[66, 97, 100, 32, 82, 101, 113, 117, 101, 115, 116]⟩, .int .i64 413, .string ⟨#[67, 111, 110, 116, 101, 110, 116, 32, 84, 111, 111, 32, 76, 97, 114, 103, 101]⟩, .int .i64 431, .string ⟨#[82, 101, 113, 117, 101, 115, 116, 32, 72, 101, 97, 100, 101, 114, 32, 70, 105, 101, 108, 100, 115, 32, 84, 111, 111, 32, 76, 97, 114, 103, 101]⟩, .int .i64 502, .string ⟨#[66, 97, 100, 32, 71, 97, 116, 101, 119, 97, 121]⟩, .int .i64 503, .string ⟨#[83, 101, 114, 118, 105, 99, 101, 32, 85, 110, 97, 118, 97, 105, 108, 97, 98, 108, 101]⟩, .int .i64 504, .string ⟨#[71, 97, 116, 101, 119, 97, 121, 32, 84, 105, 109, 101, 111, 117, 116]⟩]
def Reas (w : World) : Prop := 0 < w.heap.size ∧ w.rangeAt 0 0 reasC
theorem Reas.below {w w' : World} (h : Reas w) (hb : Below w.heap.size w w') : Reas w' :=
  ⟨Nat.lt_of_lt_of_le h.1 hb.size, fun j v hv => by rw [(bcell hb).1 _ _ h.1]; exact h.2 j v hv⟩
theorem reas_size : (Tryd.prog.info? 64).map (·.size) = some reasC.length := by kernel_rfl
def codes : List Int := [200, 400, 413, 431, 502, 503, 504]
theorem reason_none (c : Int) (h : ∀ x ∈ codes, c ≠ x) : reasonL c = [] := by
  unfold reasonL
  rw [if_neg (h 200 (by decide))]
  rw [if_neg (h 400 (by decide))]
  rw [if_neg (h 413 (by decide))]
  rw [if_neg (h 431 (by decide))]
  rw [if_neg (h 502 (by decide))]
  rw [if_neg (h 503 (by decide))]
  rw [if_neg (h 504 (by decide))]
theorem reason_200 : reasonL 200 = [79, 75] := by rfl
theorem reason_400 : reasonL 400 = [66, 97, 100, 32, 82, 101, 113, 117, 101, 115, 116] := by rfl
theorem reason_413 : reasonL 413 = [67, 111, 110, 116, 101, 110, 116, 32, 84, 111, 111, 32, 76, 97, 114, 103, 101] := by rfl
theorem reason_431 : reasonL 431 = [82, 101, 113, 117, 101, 115, 116, 32, 72, 101, 97, 100, 101, 114, 32, 70, 105, 101, 108, 100, 115, 32, 84, 111, 111, 32, 76, 97, 114, 103, 101] := by rfl
theorem reason_502 : reasonL 502 = [66, 97, 100, 32, 71, 97, 116, 101, 119, 97, 121] := by rfl
theorem reason_503 : reasonL 503 = [83, 101, 114, 118, 105, 99, 101, 32, 85, 110, 97, 118, 97, 105, 108, 97, 98, 108, 101] := by rfl
theorem reason_504 : reasonL 504 = [71, 97, 116, 101, 119, 97, 121, 32, 84, 105, 109, 101, 111, 117, 116] := by rfl
theorem reas_ix_0 (w : World) : (Instr.index 64 (.agg reasC.toArray) (.int .i64 0)).run Tryd.prog w = .ok (.agg #[.int .i64 200, .string ⟨#[79, 75]⟩]) w := by kernel_rfl
theorem reas_ix_1 (w : World) : (Instr.index 64 (.agg reasC.toArray) (.int .i64 1)).run Tryd.prog w = .ok (.agg #[.int .i64 400, .string ⟨#[66, 97, 100, 32, 82, 101, 113, 117, 101, 115, 116]⟩]) w := by kernel_rfl
theorem reas_ix_2 (w : World) : (Instr.index 64 (.agg reasC.toArray) (.int .i64 2)).run Tryd.prog w = .ok (.agg #[.int .i64 413, .string ⟨#[67, 111, 110, 116, 101, 110, 116, 32, 84, 111, 111, 32, 76, 97, 114, 103, 101]⟩]) w := by kernel_rfl
theorem reas_ix_3 (w : World) : (Instr.index 64 (.agg reasC.toArray) (.int .i64 3)).run Tryd.prog w = .ok (.agg #[.int .i64 431, .string ⟨#[82, 101, 113, 117, 101, 115, 116, 32, 72, 101, 97, 100, 101, 114, 32, 70, 105, 101, 108, 100, 115, 32, 84, 111, 111, 32, 76, 97, 114, 103, 101]⟩]) w := by kernel_rfl
theorem reas_ix_4 (w : World) : (Instr.index 64 (.agg reasC.toArray) (.int .i64 4)).run Tryd.prog w = .ok (.agg #[.int .i64 502, .string ⟨#[66, 97, 100, 32, 71, 97, 116, 101, 119, 97, 121]⟩]) w := by kernel_rfl
theorem reas_ix_5 (w : World) : (Instr.index 64 (.agg reasC.toArray) (.int .i64 5)).run Tryd.prog w = .ok (.agg #[.int .i64 503, .string ⟨#[83, 101, 114, 118, 105, 99, 101, 32, 85, 110, 97, 118, 97, 105, 108, 97, 98, 108, 101]⟩]) w := by kernel_rfl
theorem reas_ix_6 (w : World) : (Instr.index 64 (.agg reasC.toArray) (.int .i64 6)).run Tryd.prog w = .ok (.agg #[.int .i64 504, .string ⟨#[71, 97, 116, 101, 119, 97, 121, 32, 84, 105, 109, 101, 111, 117, 116]⟩]) w := by kernel_rfl
set_option maxRecDepth 100000 in
set_option maxHeartbeats 8000000 in
theorem reason22 (c : Int) (w : World) (hr : Reas w) :
    Calls Tryd.prog 28 #[.int .i64 c] w fun e w' => e = .returned (.string (bs (reasonL c))) ∧ Below w.heap.size w w' := by
  obtain ⟨R, hR⟩ : ∃ R, reasonL c = R := ⟨_, rfl⟩
  rw [hR]
  have HR := Lib.hid hR
  have hrange := hr.2
  have HS := reas_size
  clear hR hr
  go_enter Tryd.func28, Tryd.ntmps28
  go_wp2_with (refine wpList_load_mid rfl 64 _ rfl 0 0 rfl reasC _ hrange Tryd.underlying64 rfl HS ?_)
  clear hrange HS
  go_loopw [6] (fun i wr => ∃ j : Nat, j ≤ 7 ∧ i = .int .i64 (j : Int) ∧ Hid (∀ x ∈ codes.take j, c ≠ x) ∧ Below w.heap.size w wr) (fun i _ => 7 - (intOf i).toNat)
  case atStart => exact ⟨0, Nat.zero_le _, rfl, (by simp [Hid]), Below.refl _ _⟩
  case round =>
    obtain ⟨j, hj, rfl, hn, hb⟩ := hrel
    match j, hj with
    | 0, _ =>
      by_cases hc : c = 200
      · subst hc
        have HV : Hid (R = [79, 75]) := HR.out.symm.trans reason_200
        clear hn HR
        have hx := reas_ix_0 wr
        go_wp2_with fail
        go_ret
        exact ⟨by rw [HV.out]; rfl, hb.trans ((below_alloc wr _).mono hb.size)⟩
      · have hc2 : ((200 : Int) == c) = false := beq_eq_false_iff_ne.2 (fun e => hc e.symm)
        have hn2 : Hid (∀ x ∈ codes.take 1, c ≠ x) := by
          show ∀ x ∈ codes.take 1, c ≠ x
          have h0 := hn.out
          intro x hx
          by_cases hx0 : x ∈ codes.take 0
          · exact h0 x hx0
          · have : x = 200 := by
              simp only [codes, List.take_succ_cons, List.take_zero, List.mem_cons, List.not_mem_nil, or_false] at hx hx0
              omega
            subst this
            exact hc
        clear hc hn
        have hx := reas_ix_0 wr
        go_wp2_with fail
        go_roundw
        case rel => exact ⟨1, by omega, by first | rfl | go_num, hn2, hb.trans ((below_alloc wr _).mono hb.size)⟩
        case measure => simp [intOf]
    | 1, _ =>
      by_cases hc : c = 400
      · subst hc
        have HV : Hid (R = [66, 97, 100, 32, 82, 101, 113, 117, 101, 115, 116]) := HR.out.symm.trans reason_400
        clear hn HR
        have hx := reas_ix_1 wr
        go_wp2_with fail
        go_ret
        exact ⟨by rw [HV.out]; rfl, hb.trans ((below_alloc wr _).mono hb.size)⟩
      · have hc2 : ((400 : Int) == c) = false := beq_eq_false_iff_ne.2 (fun e => hc e.symm)
        have hn2 : Hid (∀ x ∈ codes.take 2, c ≠ x) := by
          show ∀ x ∈ codes.take 2, c ≠ x
          have h0 := hn.out
          intro x hx
          by_cases hx0 : x ∈ codes.take 1
          · exact h0 x hx0
          · have : x = 400 := by
              simp only [codes, List.take_succ_cons, List.take_zero, List.mem_cons, List.not_mem_nil, or_false] at hx hx0
              omega
            subst this
            exact hc
        clear hc hn
        have hx := reas_ix_1 wr
        go_wp2_with fail
        go_roundw
        case rel => exact ⟨2, by omega, by first | rfl | go_num, hn2, hb.trans ((below_alloc wr _).mono hb.size)⟩
        case measure => simp [intOf]
    | 2, _ =>
      by_cases hc : c = 413
      · subst hc
        have HV : Hid (R = [67, 111, 110, 116, 101, 110, 116, 32, 84, 111, 111, 32, 76, 97, 114, 103, 101]) := HR.out.symm.trans reason_413
        clear hn HR
        have hx := reas_ix_2 wr
        go_wp2_with fail
        go_ret
        exact ⟨by rw [HV.out]; rfl, hb.trans ((below_alloc wr _).mono hb.size)⟩
      · have hc2 : ((413 : Int) == c) = false := beq_eq_false_iff_ne.2 (fun e => hc e.symm)
        have hn2 : Hid (∀ x ∈ codes.take 3, c ≠ x) := by
          show ∀ x ∈ codes.take 3, c ≠ x
          have h0 := hn.out
          intro x hx
          by_cases hx0 : x ∈ codes.take 2
          · exact h0 x hx0
          · have : x = 413 := by
              simp only [codes, List.take_succ_cons, List.take_zero, List.mem_cons, List.not_mem_nil, or_false] at hx hx0
              omega
            subst this
            exact hc
        clear hc hn
        have hx := reas_ix_2 wr
        go_wp2_with fail
        go_roundw
        case rel => exact ⟨3, by omega, by first | rfl | go_num, hn2, hb.trans ((below_alloc wr _).mono hb.size)⟩
        case measure => simp [intOf]
    | 3, _ =>
      by_cases hc : c = 431
      · subst hc
        have HV : Hid (R = [82, 101, 113, 117, 101, 115, 116, 32, 72, 101, 97, 100, 101, 114, 32, 70, 105, 101, 108, 100, 115, 32, 84, 111, 111, 32, 76, 97, 114, 103, 101]) := HR.out.symm.trans reason_431
        clear hn HR
        have hx := reas_ix_3 wr
        go_wp2_with fail
        go_ret
        exact ⟨by rw [HV.out]; rfl, hb.trans ((below_alloc wr _).mono hb.size)⟩
      · have hc2 : ((431 : Int) == c) = false := beq_eq_false_iff_ne.2 (fun e => hc e.symm)
        have hn2 : Hid (∀ x ∈ codes.take 4, c ≠ x) := by
          show ∀ x ∈ codes.take 4, c ≠ x
          have h0 := hn.out
          intro x hx
          by_cases hx0 : x ∈ codes.take 3
          · exact h0 x hx0
          · have : x = 431 := by
              simp only [codes, List.take_succ_cons, List.take_zero, List.mem_cons, List.not_mem_nil, or_false] at hx hx0
              omega
            subst this
            exact hc
        clear hc hn
        have hx := reas_ix_3 wr
        go_wp2_with fail
        go_roundw
        case rel => exact ⟨4, by omega, by first | rfl | go_num, hn2, hb.trans ((below_alloc wr _).mono hb.size)⟩
        case measure => simp [intOf]
    | 4, _ =>
      by_cases hc : c = 502
      · subst hc
        have HV : Hid (R = [66, 97, 100, 32, 71, 97, 116, 101, 119, 97, 121]) := HR.out.symm.trans reason_502
        clear hn HR
        have hx := reas_ix_4 wr
        go_wp2_with fail
        go_ret
        exact ⟨by rw [HV.out]; rfl, hb.trans ((below_alloc wr _).mono hb.size)⟩
      · have hc2 : ((502 : Int) == c) = false := beq_eq_false_iff_ne.2 (fun e => hc e.symm)
        have hn2 : Hid (∀ x ∈ codes.take 5, c ≠ x) := by
          show ∀ x ∈ codes.take 5, c ≠ x
          have h0 := hn.out
          intro x hx
          by_cases hx0 : x ∈ codes.take 4
          · exact h0 x hx0
          · have : x = 502 := by
              simp only [codes, List.take_succ_cons, List.take_zero, List.mem_cons, List.not_mem_nil, or_false] at hx hx0
              omega
            subst this
            exact hc
        clear hc hn
        have hx := reas_ix_4 wr
        go_wp2_with fail
        go_roundw
        case rel => exact ⟨5, by omega, by first | rfl | go_num, hn2, hb.trans ((below_alloc wr _).mono hb.size)⟩
        case measure => simp [intOf]
    | 5, _ =>
      by_cases hc : c = 503
      · subst hc
        have HV : Hid (R = [83, 101, 114, 118, 105, 99, 101, 32, 85, 110, 97, 118, 97, 105, 108, 97, 98, 108, 101]) := HR.out.symm.trans reason_503
        clear hn HR
        have hx := reas_ix_5 wr
        go_wp2_with fail
        go_ret
        exact ⟨by rw [HV.out]; rfl, hb.trans ((below_alloc wr _).mono hb.size)⟩
      · have hc2 : ((503 : Int) == c) = false := beq_eq_false_iff_ne.2 (fun e => hc e.symm)
        have hn2 : Hid (∀ x ∈ codes.take 6, c ≠ x) := by
          show ∀ x ∈ codes.take 6, c ≠ x
          have h0 := hn.out
          intro x hx
          by_cases hx0 : x ∈ codes.take 5
          · exact h0 x hx0
          · have : x = 503 := by
              simp only [codes, List.take_succ_cons, List.take_zero, List.mem_cons, List.not_mem_nil, or_false] at hx hx0
              omega
            subst this
            exact hc
        clear hc hn
        have hx := reas_ix_5 wr
        go_wp2_with fail
        go_roundw
        case rel => exact ⟨6, by omega, by first | rfl | go_num, hn2, hb.trans ((below_alloc wr _).mono hb.size)⟩
        case measure => simp [intOf]
    | 6, _ =>
      by_cases hc : c = 504
      · subst hc
        have HV : Hid (R = [71, 97, 116, 101, 119, 97, 121, 32, 84, 105, 109, 101, 111, 117, 116]) := HR.out.symm.trans reason_504
        clear hn HR
        have hx := reas_ix_6 wr
        go_wp2_with fail
        go_ret
        exact ⟨by rw [HV.out]; rfl, hb.trans ((below_alloc wr _).mono hb.size)⟩
      · have hc2 : ((504 : Int) == c) = false := beq_eq_false_iff_ne.2 (fun e => hc e.symm)
        have hn2 : Hid (∀ x ∈ codes.take 7, c ≠ x) := by
          show ∀ x ∈ codes.take 7, c ≠ x
          have h0 := hn.out
          intro x hx
          by_cases hx0 : x ∈ codes.take 6
          · exact h0 x hx0
          · have : x = 504 := by
              simp only [codes, List.take_succ_cons, List.take_zero, List.mem_cons, List.not_mem_nil, or_false] at hx hx0
              omega
            subst this
            exact hc
        clear hc hn
        have hx := reas_ix_6 wr
        go_wp2_with fail
        go_roundw
        case rel => exact ⟨7, by omega, by first | rfl | go_num, hn2, hb.trans ((below_alloc wr _).mono hb.size)⟩
        case measure => simp [intOf]
    | 7, _ =>
      have HV : Hid (R = []) := HR.out.symm.trans (reason_none c hn.out)
      clear hn HR
      go_wp2_with fail
      go_ret
      exact ⟨by rw [HV.out]; rfl, hb⟩
end Go.Proofs.YtbbphklhnngjmaaDoor

/- Records of strings and numbers that are handed in by value. -/
namespace Go.Proofs.YtbbphklhnngjmaaDoor
open Go.ChangeShapes Go.WideShapes Go.ChangeAt Go.RowKit

/-- The fields of a record: their types and offsets. -/
def fieldsOf (d : TypeDesc) : List (TypeId × Nat) := match d with
  | .struct fs => fs.toList.map fun f => (f.type, f.offset)
  | _ => []
theorem fieldsOf_struct {o : Option TypeDesc} {l : List (TypeId × Nat)} (h : o.map fieldsOf = some l) (hl : l ≠ []) : ∃ fs : Array Field, o = some (.struct fs) ∧ fs.toList.map (fun f => (f.type, f.offset)) = l := by
  cases o with
  | none => cases h
  | some d =>
    cases d with
    | struct fs => exact ⟨fs, rfl, Option.some.inj h⟩
    | _ => exact absurd (Option.some.inj h).symm hl
section
variable {H : Type} {enc : TypeId × Value → H} {P : Program} {t : TypeId} {W : World} {base : Nat} {sp : Nat → Bool} {held : Bool}
theorem rec_open {l : List (TypeId × Nat)} (hu : (P.underlying t).map fieldsOf = some l) (hl : l ≠ []) {r : Reach} {b0 : Nat} {v : Value} {d : DataW H} {ps : List MemPlace}
    (hval : Value.okWide P W r b0 t v) (hd : DataW.Trod enc P W base sp held t v d ps) :
    ∃ (cs : Array Value) (xs : List (DataW H × List MemPlace)) (n : Nat), v = .agg cs ∧ cs.toList.length = P.cellsOf t ∧ d = .agg (xs.map (·.1)) ∧ ps = xs.flatMap (·.2) ∧ xs.length = l.length ∧
      ∀ (i : Nat) (u : TypeId) (o : Nat), l[i]? = some (u, o) → DataW.trod enc P W base sp held n u ((cs.toList.drop o).take (P.cellsOf u)) = xs[i]? := by
  obtain ⟨fs, hs, rfl⟩ := fieldsOf_struct hu hl
  obtain ⟨cs, rfl, hc⟩ := okWide_struct hs hval
  obtain ⟨fuel, hf⟩ := hd
  obtain ⟨xs, n, _, hx, h1, h2, h3⟩ := DataW.trod_struct hs hf
  simp only [Prod.mk.injEq] at hx
  refine ⟨cs, xs, n, rfl, h1, hx.1, hx.2, by simpa using h2, fun i u o hi => ?_⟩
  rw [List.getElem?_map] at hi
  obtain ⟨f, hf', he⟩ := Option.map_eq_some_iff.1 hi
  simp only [Prod.mk.injEq] at he
  obtain ⟨rfl, rfl⟩ := he
  exact h3 i f (by simpa using hf')
theorem rec_shut {l : List (TypeId × Nat)} (hu : (P.underlying t).map fieldsOf = some l) (hl : l ≠ []) (cs : List Value) (xs : List (DataW H × List MemPlace)) (n : Nat) (hc : cs.length = P.cellsOf t)
    (hm : l.mapM (fun q => DataW.trod enc P W base sp held n q.1 ((cs.drop q.2).take (P.cellsOf q.1))) = some xs) : DataW.Trod enc P W base sp held t (.agg cs.toArray) (.agg (xs.map (·.1))) (xs.flatMap (·.2)) := by
  obtain ⟨fs, hs, rfl⟩ := fieldsOf_struct hu hl
  refine ⟨n + 1, ?_⟩
  have := trod_struct_mk (enc := enc) (w := W) (base := base) (spare := sp) (held := held) (n := n) (cs := cs) (xs := xs) hs hc (by rw [List.mapM_map] at hm; exact hm)
  exact this
end
theorem one_cellR {cs : List Value} {i : Nat} {v : Value} (h : (cs.drop i).take 1 = [v]) : cs[i]? = some v := by
  have h1 : ((cs.drop i).take 1)[0]? = some v := by rw [h]; rfl
  rw [List.getElem?_take, if_pos (by decide), List.getElem?_drop] at h1
  exact h1
end Go.Proofs.YtbbphklhnngjmaaDoor

