/- token: Name, digits, ticks. -/
import Derived.Test.YtllmlngfmcbaaaaGreatDoorBase
import Derived.Lib.IndexBytes
import Derived.BigQuiet
import Derived.Test.YtllmlngfmcbaaaaGreatDoorBMixAll
import Derived.Test.YtllmlngfmcbaaaaGreatDoorShelf
import Derived.Lib.AppendIntMem
import Derived.IntWalk
import Derived.Lib.ItoaLen
import Derived.Lib.AtoiAllCases
import Derived.Lib.AtoiErrMem
import Derived.Laws.OwnMore
namespace Go.Proofs.YtllmlngfmcbaaaaGreatDoor
open Go.RowKit

theorem extractL (t : ByteArray) (a b : Nat) : (t.extract a b).data.toList = (t.data.toList.drop a).take (b - a) := by
  have h : (t.extract a b).data = t.data.extract a b := ByteArray.data_extract
  rw [h]
  simp [Array.toList_extract]
theorem size_extract (t : ByteArray) (a b : Nat) (h : b ≤ t.size) : (t.extract a b).size = b - a := by
  rw [Lib.size_eq, extractL, List.length_take, List.length_drop, ← Lib.size_eq]
  omega
theorem str_eq (t : ByteArray) (l : List UInt8) (h : t.data.toList = l) : t = ⟨l.toArray⟩ := by
  cases t with
  | mk d => subst h; simp
def bs (l : List UInt8) : ByteArray := ⟨l.toArray⟩
theorem bs_list (l : List UInt8) : (bs l).data.toList = l := rfl
theorem bs_size (l : List UInt8) : (bs l).size = l.length := by rw [Lib.size_eq, bs_list]
end Go.Proofs.YtllmlngfmcbaaaaGreatDoor

namespace Go.Proofs.YtllmlngfmcbaaaaGreatDoor
open Go.RowKit

def isLet (c : UInt8) : Bool := 97 ≤ c.toNat && c.toNat ≤ 122
def isNam (c : UInt8) : Bool := isLet c || (48 ≤ c.toNat && c.toNat ≤ 57) || c.toNat == 45
def nameB (l : List UInt8) : Bool := decide (1 ≤ l.length) && decide (l.length ≤ 32) && (l.head?.any isLet) && l.all isNam

theorem byte_ltT (c : UInt8) : (c.toNat : Int) < 256 := by have := c.toNat_lt; omega
theorem toList_getT (s : ByteArray) (k : Nat) (hk : k < s.size) : s.data.toList[k]? = some s[k] := by
  rw [List.getElem?_eq_getElem (by rw [← Lib.size_eq]; exact hk)]; rfl
theorem take_snocT (s : ByteArray) (k : Nat) (hk : k < s.size) : s.data.toList.take (k + 1) = s.data.toList.take k ++ [s[k]] := by
  rw [List.take_add_one, toList_getT s k hk]; rfl
theorem all_stepT (s : ByteArray) (p : UInt8 → Bool) (k : Nat) (hk : k < s.size) (h : (s.data.toList.take k).all p = true) (hp : p s[k] = true) : (s.data.toList.take (k + 1)).all p = true := by
  rw [take_snocT s k hk, List.all_append, h]; simp [hp]
theorem all_noT (s : ByteArray) (p : UInt8 → Bool) (k : Nat) (hk : k < s.size) (hp : p s[k] = false) : s.data.toList.all p = false := by
  rw [List.all_eq_false]
  exact ⟨s[k], List.mem_of_getElem? (toList_getT s k hk), by rw [hp]; simp⟩
theorem all_fullT (s : ByteArray) (p : UInt8 → Bool) (k : Nat) (hk : ¬ k < s.size) (h : (s.data.toList.take k).all p = true) : s.data.toList.all p = true := by
  rwa [List.take_of_length_le (by rw [← Lib.size_eq]; omega)] at h

set_option maxHeartbeats 400000 in
theorem let27 (c : UInt8) (w : World) : Calls Tryz.prog 27 #[.int .u8 (c.toNat : Int)] w fun e w' => e = .returned (.bool (isLet c)) ∧ w = w' := by
  unfold isLet
  have hb := byte_ltT c
  by_cases h1 : (97 : Int) ≤ c.toNat
  · have e1 : decide (97 ≤ c.toNat) = true := decide_eq_true (by omega)
    by_cases h2 : (c.toNat : Int) ≤ 122
    · have e2 : decide (c.toNat ≤ 122) = true := decide_eq_true (by omega)
      rw [e1, e2]
      clear e1 e2
      go_enter Tryz.func27, Tryz.ntmps27
      go_wp2_with fail
      go_ret
      exact ⟨rfl, rfl⟩
    · have e2 : decide (c.toNat ≤ 122) = false := decide_eq_false (by omega)
      rw [e1, e2]
      clear e1 e2
      go_enter Tryz.func27, Tryz.ntmps27
      go_wp2_with fail
      go_ret
      exact ⟨rfl, rfl⟩
  · have e1 : decide (97 ≤ c.toNat) = false := decide_eq_false (by omega)
    rw [e1]
    clear e1
    go_enter Tryz.func27, Tryz.ntmps27
    go_wp2_with fail
    go_ret
    exact ⟨rfl, rfl⟩

/-- The function value: a letter? -/
def letV : Value := .func (.func 27) #[] #[]
def namV (b : Nat) : Value := .func (.func 28) #[] #[.pointer (some ⟨b, 0, none⟩)]
set_option maxRecDepth 100000 in
set_option maxHeartbeats 1000000 in
theorem nam28 (c : UInt8) (b : Nat) (w : World) (hc : w.cell? ⟨b, 0, none⟩ = some letV) :
    Calls Tryz.prog 28 #[.int .u8 (c.toNat : Int), .pointer (some ⟨b, 0, none⟩)] w fun e w' => e = .returned (.bool (isNam c)) ∧ w = w' := by
  unfold letV at hc
  unfold isNam
  have hb := byte_ltT c
  have HL := Lib.hid (let27 c w)
  generalize isLet c = q at *
  by_cases h1 : (48 : Int) ≤ c.toNat
  · have e1 : decide (48 ≤ c.toNat) = true := decide_eq_true (by omega)
    by_cases h2 : (c.toNat : Int) ≤ 57
    · have e2 : decide (c.toNat ≤ 57) = true := decide_eq_true (by omega)
      rw [e1, e2]
      clear e1 e2
      cases q
      all_goals
        go_enter Tryz.func28, Tryz.ntmps28
        go_wp2_with fail
        refine HL.out.mono ?_
        rintro e w' ⟨rfl, rfl⟩
        go_wp2_with fail
        go_ret
        exact ⟨rfl, rfl⟩
    · have e2 : decide (c.toNat ≤ 57) = false := decide_eq_false (by omega)
      have e3 : (c.toNat == 45) = false := by rw [beq_eq_false_iff_ne]; omega
      have e4 : ((c.toNat : Int) == 45) = false := by rw [beq_eq_false_iff_ne]; omega
      have e5 : decide ((c.toNat : Int) ≤ 57) = false := decide_eq_false (by omega)
      rw [e1, e2, e3]
      clear e1 e2 e3
      cases q
      all_goals
        go_enter Tryz.func28, Tryz.ntmps28
        go_wp2_with fail
        refine HL.out.mono ?_
        rintro e w' ⟨rfl, rfl⟩
        go_wp2_with fail
        go_ret
        exact ⟨by first | rfl | simp [e5], rfl⟩
  · have e1 : decide (48 ≤ c.toNat) = false := decide_eq_false (by omega)
    rw [e1]
    clear e1
    by_cases h3 : (c.toNat : Int) = 45
    · have e3 : (c.toNat == 45) = true := by rw [beq_iff_eq]; omega
      have e4 : ((c.toNat : Int) == 45) = true := by rw [beq_iff_eq]; omega
      rw [e3]
      have H3 := Lib.hid h3
      clear e3 h3
      cases q
      all_goals
        go_enter Tryz.func28, Tryz.ntmps28
        go_wp2_with fail
        refine HL.out.mono ?_
        rintro e w' ⟨rfl, rfl⟩
        go_wp2_with fail
        go_ret
        exact ⟨rfl, rfl⟩
    · have e3 : (c.toNat == 45) = false := by rw [beq_eq_false_iff_ne]; omega
      have e4 : ((c.toNat : Int) == 45) = false := by rw [beq_eq_false_iff_ne]; omega
      rw [e3]
      clear e3
      cases q
      all_goals
        go_enter Tryz.func28, Tryz.ntmps28
        go_wp2_with fail
        refine HL.out.mono ?_
        rintro e w' ⟨rfl, rfl⟩
        go_wp2_with fail
        go_ret
        exact ⟨rfl, rfl⟩

set_option maxHeartbeats 1000000 in
theorem all29 (s : ByteArray) (hs : s.size ≤ 4611686018427387904) (b : Nat) (w : World) (hc : w.cell? ⟨b, 0, none⟩ = some letV) :
    Calls Tryz.prog 29 #[.string s, namV b] w fun e w' => e = .returned (.bool (s.data.toList.all isNam)) ∧ w = w' := by
  obtain ⟨R, hR⟩ : ∃ R, R = s.data.toList.all isNam := ⟨_, rfl⟩
  rw [← hR]
  have HR := Lib.hid hR
  have HC := Lib.hid hc
  clear hR hc
  unfold namV
  go_enter Tryz.func29, Tryz.ntmps29
  go_wp2_with fail
  go_loop [8] (fun i => ∃ j : Nat, j ≤ s.size ∧ i = .int .i64 j ∧ Hid ((s.data.toList.take j).all isNam = true)) (fun i => s.size - (intOf i).toNat)
  case atStart => exact ⟨0, Nat.zero_le _, rfl, by simp [Hid]⟩
  case round =>
    obtain ⟨j, hj, rfl, hr⟩ := hrel
    by_cases hlt : j < s.size
    · have HN := Lib.hid (nam28 s[j] b w HC.out)
      obtain ⟨q, hq⟩ : ∃ q, q = isNam s[j] := ⟨_, rfl⟩
      rw [← hq] at HN
      have HQ := Lib.hid hq
      clear hq
      cases q
      · have hno := Lib.hid (all_noT s isNam j hlt HQ.out.symm)
        go_wp2_with fail
        refine HN.out.mono ?_
        rintro e w' ⟨rfl, rfl⟩
        go_wp2_with fail
        go_ret
        exact ⟨by rw [HR.out, hno.out]; rfl, rfl⟩
      · have hst := Lib.hid (all_stepT s isNam j hlt hr.out HQ.out.symm)
        go_wp2_with fail
        refine HN.out.mono ?_
        rintro e w' ⟨rfl, rfl⟩
        go_wp2_with fail
        go_round
        case rel => exact ⟨j + 1, by omega, by go_num, hst⟩
        case measure => simp [intOf]; omega
    · have hf := Lib.hid (all_fullT s isNam j hlt hr.out)
      go_wp2_with fail
      go_ret
      exact ⟨by rw [HR.out, hf.out]; rfl, rfl⟩
end Go.Proofs.YtllmlngfmcbaaaaGreatDoor

namespace Go.Proofs.YtllmlngfmcbaaaaGreatDoor
open Go.RowKit

theorem head_let (s : ByteArray) (h : 0 < s.size) : (s.data.toList.head?.any isLet) = isLet s[0] := by
  have := toList_getT s 0 h
  rw [List.head?_eq_getElem?, this]; rfl
set_option maxRecDepth 100000 in
set_option maxHeartbeats 2000000 in
theorem name13 (s : ByteArray) (hs : s.size ≤ 4611686018427387904) (w : World) :
    Calls Tryz.prog 13 #[.string s] w fun e w' => e = .returned (.bool (nameB s.data.toList)) ∧ Below w.heap.size w w' := by
  have hz := Lib.size_eq s
  have hst : (store ⟨w.heap.size, 0, none⟩ (Value.func (.func 27) #[] #[])).run Tryz.prog (w.alloc (.cells #[.nilFunc] 48)) = .ok () (w.alloc (.cells #[letV] 48)) := by
    rw [run_store _ _ _ _ _ rfl, show (w.alloc (.cells #[.nilFunc] 48)).cell? ⟨w.heap.size, 0, none⟩ = some .nilFunc by simp, show (w.alloc (.cells #[.nilFunc] 48)).frozen? ⟨w.heap.size, 0, none⟩ = false by simp]
    simp only [Bool.false_eq_true, if_false]
    rw [World.setCell_alloc_at _ _ _ _ _ rfl]
    rfl
  have L0 := below_alloc w (.cells #[letV] 48)
  have c0 : (w.alloc (.cells #[letV] 48)).cell? ⟨w.heap.size, 0, none⟩ = some letV := by simp
  unfold nameB
  by_cases h1 : 1 ≤ s.size
  · rw [decide_eq_true (p := 1 ≤ s.data.toList.length) (by omega)]
    have j1 : (1 : Int) ≤ s.size := by omega
    by_cases h2 : s.size ≤ 32
    · rw [decide_eq_true (p := s.data.toList.length ≤ 32) (by omega), head_let s h1]
      have j2 : (s.size : Int) ≤ 32 := by omega
      have HL := Lib.hid (fun w => calls_flip (let27 s[0] w))
      have HA := Lib.hid (fun W h => calls_flip (all29 s hs w.heap.size W h))
      generalize isLet s[0] = q at *
      generalize s.data.toList.all isNam = p at *
      clear hz
      unfold letV namV at *
      have j3 : (0 : Int) < s.size := by omega
      have j4 : 0 < s.size := h1
      cases q
      · go_enter Tryz.func13, Tryz.ntmps13
        go_wp2_with fail
        go_quiet (first | (go_at_call 27; exact Calls.quiet_of_same (HL.out _)) | (go_at_call 29; exact Calls.quiet_of_same (HA.out _ (by assumption))))
        go_wp2_with fail
        go_ret
        exact ⟨rfl, L0.trans ⟨rfl, rfl, rfl, Nat.le_refl _, fun _ _ => rfl⟩⟩
      · go_enter Tryz.func13, Tryz.ntmps13
        go_wp2_with fail
        go_quiet (first | (go_at_call 27; exact Calls.quiet_of_same (HL.out _)) | (go_at_call 29; exact Calls.quiet_of_same (HA.out _ (by assumption))))
        go_wp2_with fail
        go_ret
        exact ⟨rfl, L0.trans ⟨rfl, rfl, rfl, Nat.le_refl _, fun _ _ => rfl⟩⟩
    · rw [decide_eq_false (p := s.data.toList.length ≤ 32) (by omega)]
      have j2 : decide ((s.size : Int) ≤ 32) = false := decide_eq_false (by omega)
      clear hz
      unfold letV at *
      simp only [Bool.and_false, Bool.false_and]
      go_enter Tryz.func13, Tryz.ntmps13
      go_wp2_with fail
      go_quiet (fail)
      go_wp2_with fail
      go_ret
      exact ⟨rfl, L0.trans ⟨rfl, rfl, rfl, Nat.le_refl _, fun _ _ => rfl⟩⟩
  · rw [decide_eq_false (p := 1 ≤ s.data.toList.length) (by omega)]
    have j1 : decide ((1 : Int) ≤ s.size) = false := decide_eq_false (by omega)
    clear hz
    unfold letV at *
    simp only [Bool.false_and]
    go_enter Tryz.func13, Tryz.ntmps13
    go_wp2_with fail
    go_quiet (fail)
    go_wp2_with fail
    go_ret
    exact ⟨rfl, L0.trans ⟨rfl, rfl, rfl, Nat.le_refl _, fun _ _ => rfl⟩⟩

/-- The table of the powers of ten. -/
def Pow (w : World) : Prop := Lib.TabIs Tryz.prog w "internal/strconv.uint64pow10" .u64 Lib.pow10Tab
theorem gPow : Tryz.prog.globalNamed "internal/strconv.uint64pow10" = some 2 := by kernel_rfl
theorem Pow.below {w w' : World} (h : Pow w) (hb : Below w.heap.size w w') : Pow w' := by
  unfold Pow Lib.TabIs World.var? at h ⊢
  rw [gPow] at h ⊢
  simp only [Option.bind_some] at h ⊢
  cases ho : w.heap[2]? with
  | none => rw [ho] at h; cases h
  | some o =>
    have hlt := (Array.getElem?_eq_some_iff.1 ho).1
    rw [hb.block _ hlt]
    exact h
theorem itoa25 (n : Nat) (hn : n ≤ 9223372036854775807) (w : World) (hw : Pow w) :
    Calls Tryz.prog 25 #[.int .i64 (n : Int)] w fun e w' => e = .returned (.string ⟨(Lib.decDigits n).toArray⟩) ∧ Below w.heap.size w w' := by
  refine (Tryz.strconv_Itoa (n : Int) (by omega) (by omega) w hw).mono ?_
  rintro e w' ⟨rfl, k, os, rfl⟩
  refine ⟨?_, Lib.below_grow _ w (Nat.le_refl _) k os⟩
  rw [Lib.itoa_nonneg]
def contL (name : List UInt8) (n : Nat) : List UInt8 := name ++ 46 :: Lib.decDigits n
theorem app_dot (s t : ByteArray) : s ++ ⟨#[46]⟩ ++ t = ⟨(s.data.toList ++ 46 :: t.data.toList).toArray⟩ := by
  have : (s ++ ⟨#[46]⟩ ++ t).data.toList = s.data.toList ++ 46 :: t.data.toList := by simp
  rw [← this]
theorem itoa_t (n : Nat) (hn : n ≤ 9223372036854775807) (w : World) (hw : Pow w) : ∃ t : ByteArray, t.data.toList = Lib.decDigits n ∧ t.size ≤ 21 ∧
    Calls Tryz.prog 25 #[.int .i64 (n : Int)] w fun e w' => e = .returned (.string t) ∧ Below w.heap.size w w' := by
  refine ⟨⟨(Lib.decDigits n).toArray⟩, rfl, ?_, itoa25 n hn w hw⟩
  have := Lib.itoa_length_le (n : Int) (by omega) (by omega)
  rw [Lib.itoa_nonneg] at this
  rw [Lib.size_eq]
  exact this
set_option maxHeartbeats 1000000 in
theorem content23 (s : ByteArray) (hs : s.size ≤ 1000000) (n : Nat) (hn : n ≤ 1099511627776) (w : World) (hw : Pow w) :
    Calls Tryz.prog 23 #[.string s, .int .i64 (n : Int)] w fun e w' => e = .returned (.string ⟨(contL s.data.toList n).toArray⟩) ∧ Below w.heap.size w w' := by
  obtain ⟨t, ht, htz, hI⟩ := itoa_t n (by omega) w hw
  have HI := Lib.hid hI
  have he := Lib.hid (app_dot s t)
  have HT := Lib.hid ht
  clear ht hI
  have j1 : (s.size : Int) ≤ 1000000 := by omega
  have j2 : (t.size : Int) ≤ 21 := by omega
  go_enter Tryz.func23, Tryz.ntmps23
  go_wp2_with fail
  refine HI.out.mono ?_
  rintro e w1 ⟨rfl, hb⟩
  go_wp2_with fail
  go_ret
  exact ⟨by unfold contL; rw [he.out, HT.out]; rfl, hb⟩
end Go.Proofs.YtllmlngfmcbaaaaGreatDoor

namespace Go.Proofs.YtllmlngfmcbaaaaGreatDoor
open Go.RowKit

def dig (c : UInt8) : Bool := 48 ≤ c.toNat && c.toNat ≤ 57
/-- The number that digits spell. -/
def numT (l : List UInt8) : Nat := l.foldl (fun a c => 10 * a + (c.toNat - 48)) 0
theorem numT_snoc (l : List UInt8) (c : UInt8) : numT (l ++ [c]) = 10 * numT l + (c.toNat - 48) := by simp [numT]
theorem dch48 (k : Nat) (h : k < 10) : (UInt8.ofNat (48 + k)).toNat = 48 + k := by simp; omega
theorem decDigits_step (n : Nat) (h : ¬ n < 10) : Lib.decDigits n = Lib.decDigits (n / 10) ++ [UInt8.ofNat (48 + n % 10)] := by
  rw [Lib.decDigits, dif_neg h]
theorem dec_ind {P : Nat → Prop} (h0 : ∀ n, n < 10 → P n) (h1 : ∀ n, ¬ n < 10 → P (n / 10) → P n) (n : Nat) : P n := by
  induction n using Nat.strongRecOn with
  | ind n ih =>
    by_cases h : n < 10
    · exact h0 n h
    · exact h1 n h (ih (n / 10) (by omega))
theorem dec_all (n : Nat) : (Lib.decDigits n).all dig = true := by
  induction n using dec_ind with
  | h0 n h => rw [Lib.decDigits_one h]; simp [dig]; omega
  | h1 n h ih => rw [decDigits_step n h, List.all_append, ih]; simp [dig]; omega
theorem dec_num (n : Nat) : numT (Lib.decDigits n) = n := by
  induction n using dec_ind with
  | h0 n h => rw [Lib.decDigits_one h]; simp [numT]; omega
  | h1 n h ih => rw [decDigits_step n h, numT_snoc, ih, dch48 (n % 10) (by omega)]; omega
theorem dec_pos (n : Nat) : 1 ≤ (Lib.decDigits n).length := by
  induction n using dec_ind with
  | h0 n h => rw [Lib.decDigits_one h]; simp
  | h1 n h ih => rw [decDigits_step n h]; simp
theorem dec_len (k n : Nat) (h : n < 10 ^ (k + 1)) : (Lib.decDigits n).length ≤ k + 1 := by
  induction k generalizing n with
  | zero => rw [Lib.decDigits_one (by omega)]; simp
  | succ k ih =>
    by_cases h10 : n < 10
    · rw [Lib.decDigits_one h10]; simp
    · rw [decDigits_step n h10, List.length_append]
      have := ih (n / 10) (by rw [Nat.div_lt_iff_lt_mul (by decide)]; rw [Nat.pow_succ] at h; exact h)
      simp; omega
theorem dec_13 (n : Nat) (h : n ≤ 1099511627776) : (Lib.decDigits n).length ≤ 13 := dec_len 12 n (by omega)
theorem dig_ne {c : UInt8} (h : dig c = true) : c ≠ 46 ∧ c.toNat ≠ 43 ∧ c.toNat ≠ 45 ∧ 48 ≤ c.toNat ∧ c.toNat ≤ 57 := by
  unfold dig at h
  simp only [Bool.and_eq_true, decide_eq_true_eq] at h
  refine ⟨?_, by omega, by omega, h.1, h.2⟩
  rintro rfl
  exact absurd h.1 (by decide)
theorem numT_le : ∀ (q p : List UInt8), numT p ≤ numT (p ++ q)
  | [], p => by simp
  | c :: r, p => by
    have h := numT_le r (p ++ [c])
    rw [numT_snoc] at h
    rw [show p ++ c :: r = (p ++ [c]) ++ r by simp]
    omega
theorem parse_digits : ∀ (l pre : List UInt8), l.all dig = true → numT (pre ++ l) ≤ 1099511627776 → Lib.parseUint10 (numT pre) l = .ok (numT (pre ++ l))
  | [], pre, _, _ => by simp [Lib.parseUint10]
  | c :: r, pre, h, hm => by
    simp only [List.all_cons, Bool.and_eq_true] at h
    obtain ⟨_, _, _, h1, h2⟩ := dig_ne h.1
    have e : pre ++ c :: r = (pre ++ [c]) ++ r := by simp
    have hs := numT_snoc pre c
    have hle := numT_le r (pre ++ [c])
    rw [e] at hm ⊢
    rw [Lib.parseUint10, if_pos ⟨h1, h2⟩, if_neg (by omega), if_neg (by omega)]
    rw [show numT pre * 10 + (c.toNat - 48) = numT (pre ++ [c]) by omega]
    exact parse_digits r (pre ++ [c]) h.2 hm
theorem atoi_dec (n : Nat) (h : n ≤ 1099511627776) : Lib.atoiAll (Lib.decDigits n) = .ok (n : Int) := by
  have hn := dec_num n
  have ha := dec_all n
  have hp := dec_pos n
  cases hd : Lib.decDigits n with
  | nil => rw [hd] at hp; simp at hp
  | cons c r =>
    rw [hd] at ha hn
    have hc := dig_ne (by simpa using (List.all_eq_true.1 ha) c (List.mem_cons_self ..))
    rw [Lib.atoiAll_plain c r hc.2.1 hc.2.2.1]
    have hq := parse_digits (c :: r) [] ha (by rw [List.nil_append, hn]; exact h)
    have h0 : numT [] = 0 := rfl
    rw [h0, List.nil_append, hn] at hq
    rw [Lib.parseMag, if_neg (by simp), hq]
    simp only [Lib.signless]
    rw [if_neg (by omega)]
/-- The tick that a text spells. -/
def tickL (l : List UInt8) : Option Nat := match Lib.atoiAll l with
  | .ok v => if 0 ≤ v ∧ v ≤ 1099511627776 ∧ Lib.itoa v = l then some v.toNat else none
  | _ => none
theorem tick_iff (l : List UInt8) (n : Nat) : tickL l = some n ↔ n ≤ 1099511627776 ∧ l = Lib.decDigits n := by
  constructor
  · intro h
    unfold tickL at h
    cases ha : Lib.atoiAll l with
    | ok v =>
      rw [ha] at h
      simp only at h
      split at h
      · rename_i hc
        obtain ⟨h0, h1, h2⟩ := hc
        obtain ⟨m, rfl⟩ := Int.eq_ofNat_of_zero_le h0
        simp only [Int.toNat_natCast, Option.some.injEq] at h
        subst h
        rw [Lib.itoa_nonneg] at h2
        exact ⟨by omega, h2.symm⟩
      · cases h
    | «syntax» => rw [ha] at h; cases h
    | range => rw [ha] at h; cases h
  · rintro ⟨h, rfl⟩
    unfold tickL
    rw [atoi_dec n h]
    simp only
    rw [if_pos ⟨by omega, by omega, Lib.itoa_nonneg n⟩]
    simp
theorem tick_none (l : List UInt8) (h : ∀ n, n ≤ 1099511627776 → l ≠ Lib.decDigits n) : tickL l = none := by
  cases ht : tickL l with
  | none => rfl
  | some n => exact absurd ((tick_iff l n).1 ht).2 (h n ((tick_iff l n).1 ht).1)
end Go.Proofs.YtllmlngfmcbaaaaGreatDoor

namespace Go.Proofs.YtllmlngfmcbaaaaGreatDoor
open Go.RowKit

/-- The variables of strconv's errors hold errors. -/
def Errs (w : World) : Prop := (4 < w.heap.size ∧ ∃ te pe, w.cell? ⟨4, 0, none⟩ = some (.iface te pe)) ∧ (5 < w.heap.size ∧ ∃ te pe, w.cell? ⟨5, 0, none⟩ = some (.iface te pe))
theorem Errs.below {w w' : World} (h : Errs w) (hb : Below w.heap.size w w') : Errs w' := by
  obtain ⟨⟨h1, te, pe, h2⟩, h3, tf, pf, h4⟩ := h
  exact ⟨⟨Nat.lt_of_lt_of_le h1 hb.size, te, pe, by rw [(bcell hb).1 _ _ h1]; exact h2⟩, ⟨Nat.lt_of_lt_of_le h3 hb.size, tf, pf, by rw [(bcell hb).1 _ _ h3]; exact h4⟩⟩
theorem atoi_ok (s : ByteArray) (hs : s.size ≤ 1000000) (v : Int) (h : Lib.atoiAll s.data.toList = .ok v) (w : World) :
    Calls Tryz.prog 55 #[.string s] w fun e w' => e = .returned (.tuple #[.int .i64 v, .nilIface]) ∧ Below w.heap.size w w' := by
  refine (Tryz.strconv_Atoi_ok s (by omega) v h w).mono ?_
  rintro e w' ⟨rfl, rfl | ⟨t, rfl⟩⟩
  · exact ⟨rfl, Below.refl _ _⟩
  · exact ⟨rfl, Lib.bytesWorld_below _ _ _⟩
theorem atoi_bad (s : ByteArray) (hs : s.size ≤ 1000000) (h : ∀ v, Lib.atoiAll s.data.toList ≠ .ok v) (w : World) (hw : Errs w) :
    Calls Tryz.prog 55 #[.string s] w fun e w' => (∃ x N, e = .returned (.tuple #[.int .i64 x, .iface 131 (.pointer (some ⟨N, 0, none⟩))])) ∧ Below w.heap.size w w' := by
  obtain ⟨⟨h1, te, pe, h2⟩, h3, tf, pf, h4⟩ := hw
  cases ha : Lib.atoiAll s.data.toList with
  | ok v => exact absurd ha (h v)
  | «syntax» =>
    refine (Tryz.strconv_Atoi_syntax s (by omega) ha _ w h2 (.inr ⟨te, pe, rfl⟩)).mono ?_
    rintro e w' ⟨N, rfl, _, _, hb⟩
    exact ⟨⟨_, N, rfl⟩, hb⟩
  | range =>
    refine (Tryz.strconv_Atoi_range s (by omega) ha _ w h4 (.inr ⟨tf, pf, rfl⟩)).mono ?_
    rintro e w' ⟨N, rfl, _, _, hb⟩
    exact ⟨⟨_, N, rfl⟩, hb⟩
theorem beq_bytes (a b : ByteArray) : (a.toList == b.toList) = decide (a.data.toList = b.data.toList) := by
  rw [ByteArray.toList_eq, ByteArray.toList_eq]
  by_cases h : a.data.toList = b.data.toList
  · rw [decide_eq_true h, h]; simp
  · rw [decide_eq_false h]; exact beq_eq_false_iff_ne.2 h
def tickV (o : Option Nat) : Value := match o with
  | some n => .tuple #[.int .i64 (n : Int), .bool true]
  | none => .tuple #[.int .i64 0, .bool false]
set_option maxRecDepth 100000 in
set_option maxHeartbeats 2000000 in
theorem tick42 (s : ByteArray) (hs : s.size ≤ 1000000) (w : World) (hp : Pow w) (he : Errs w) :
    Calls Tryz.prog 42 #[.string s] w fun e w' => e = .returned (tickV (tickL s.data.toList)) ∧ Below w.heap.size w w' := by
  by_cases hok : ∃ v, Lib.atoiAll s.data.toList = .ok v
  · obtain ⟨v, hv⟩ := hok
    have hbd := Lib.atoiAll_bounds hv
    have HA := Lib.hid (atoi_ok s hs v hv w)
    by_cases h0 : v < 0
    · have ht : tickL s.data.toList = none := by unfold tickL; rw [hv]; simp only; rw [if_neg (by omega)]
      rw [ht]
      unfold tickV
      clear ht hv
      go_enter Tryz.func42, Tryz.ntmps42
      go_wp2_with fail
      refine HA.out.mono ?_
      rintro e w1 ⟨rfl, hb⟩
      go_wp2_with fail
      go_ret2
      exact ⟨rfl, hb⟩
    · by_cases h1 : 1099511627776 < v
      · have ht : tickL s.data.toList = none := by unfold tickL; rw [hv]; simp only; rw [if_neg (by omega)]
        rw [ht]
        unfold tickV
        clear ht hv
        go_enter Tryz.func42, Tryz.ntmps42
        go_wp2_with fail
        refine HA.out.mono ?_
        rintro e w1 ⟨rfl, hb⟩
        go_wp2_with fail
        go_ret2
        exact ⟨rfl, hb⟩
      · obtain ⟨n, rfl⟩ := Int.eq_ofNat_of_zero_le (show 0 ≤ v by omega)
        have hbn : n ≤ 1099511627776 := by omega
        have ht : tickL s.data.toList = if Lib.decDigits n = s.data.toList then some n else none := by
          unfold tickL; rw [hv]; simp only [Lib.itoa_nonneg, Int.toNat_natCast]
          by_cases h : Lib.decDigits n = s.data.toList
          · rw [if_pos ⟨by omega, by omega, h⟩, if_pos h]
          · rw [if_neg (fun e => h e.2.2), if_neg h]
        rw [ht]
        clear ht hv hbd
        have k0 : decide ((n : Int) < 0) = false := decide_eq_false (by omega)
        have k1 : decide ((1099511627776 : Int) < n) = false := decide_eq_false (by omega)
        by_cases hq : Lib.decDigits n = s.data.toList
        · rw [if_pos hq]
          unfold tickV
          go_enter Tryz.func42, Tryz.ntmps42
          go_wp2_with fail
          refine HA.out.mono ?_
          rintro e w1 ⟨rfl, hb⟩
          obtain ⟨t, htt, htz, hI⟩ := itoa_t n (by omega) w1 (hp.below hb)
          have HI := Lib.hid hI
          have hcmp : (t.toList == s.toList) = true := by rw [beq_bytes, htt, hq]; simp
          clear hI
          go_wp2_with fail
          refine HI.out.mono ?_
          rintro e w2 ⟨rfl, hb2⟩
          have b2 := hb.trans (hb2.mono hb.size)
          go_wp2_with fail
          go_ret2
          exact ⟨rfl, b2⟩
        · rw [if_neg hq]
          unfold tickV
          go_enter Tryz.func42, Tryz.ntmps42
          go_wp2_with fail
          refine HA.out.mono ?_
          rintro e w1 ⟨rfl, hb⟩
          obtain ⟨t, htt, htz, hI⟩ := itoa_t n (by omega) w1 (hp.below hb)
          have HI := Lib.hid hI
          have hcmp : (t.toList == s.toList) = false := by rw [beq_bytes, htt]; exact decide_eq_false hq
          clear hI
          go_wp2_with fail
          refine HI.out.mono ?_
          rintro e w2 ⟨rfl, hb2⟩
          have b2 := hb.trans (hb2.mono hb.size)
          go_wp2_with fail
          go_ret2
          exact ⟨rfl, b2⟩
  · have hbad : ∀ v, Lib.atoiAll s.data.toList ≠ .ok v := fun v hv => hok ⟨v, hv⟩
    have ht : tickL s.data.toList = none := by
      unfold tickL
      cases ha : Lib.atoiAll s.data.toList with
      | ok v => exact absurd ha (hbad v)
      | «syntax» => rfl
      | range => rfl
    have HA := Lib.hid (atoi_bad s hs hbad w he)
    rw [ht]
    unfold tickV
    clear ht hbad hok
    go_enter Tryz.func42, Tryz.ntmps42
    go_wp2_with fail
    refine HA.out.mono ?_
    rintro e w1 ⟨⟨x, N, rfl⟩, hb⟩
    go_wp2_with fail
    go_ret2
    exact ⟨rfl, hb⟩
end Go.Proofs.YtllmlngfmcbaaaaGreatDoor
