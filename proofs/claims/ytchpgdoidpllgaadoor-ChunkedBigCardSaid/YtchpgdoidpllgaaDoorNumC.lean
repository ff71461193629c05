/- Writing digits with strconv.FormatInt at the base 16; octet's HexDigits. -/
import Derived.Test.YtchpgdoidpllgaaDoorOctG
import Derived.Laws.BitsAllLaws
namespace Go.Proofs.YtchpgdoidpllgaaDoor
open Go.RowKit

/-- A digit. -/
def dch (n : Nat) : UInt8 := if n < 10 then UInt8.ofNat (48 + n) else UInt8.ofNat (87 + n)
/-- A number's digits to a base, with some fuel. -/
def prtF (b : Nat) : Nat → Nat → List UInt8
  | 0, n => [dch n]
  | k + 1, n => if n < b then [dch n] else prtF b k (n / b) ++ [dch (n % b)]
/-- A number's digits. -/
def prt (b n : Nat) : List UInt8 := prtF b 64 n
theorem prtF_small (b k n : Nat) (h : n < b) : prtF b k n = [dch n] := by
  cases k with
  | zero => rfl
  | succ k => simp [prtF, h]
theorem prtF_step (b k n : Nat) (h : b ≤ n) : prtF b (k + 1) n = prtF b k (n / b) ++ [dch (n % b)] := by
  rw [prtF, if_neg (by omega)]
/-- The cells of an array of 65 bytes. -/
def Arr65 (w : World) (b : Nat) (f : Nat → Int) : Prop := ∀ i, i < 65 → w.cell? ⟨b, i, none⟩ = some (.int .u8 (f i)) ∧ w.frozen? ⟨b, i, none⟩ = false
def updI (f : Nat → Int) (i : Nat) (x : Int) : Nat → Int := fun j => if j = i then x else f j
theorem Arr65.put {w : World} {b : Nat} {f : Nat → Int} (h : Arr65 w b f) (i : Nat) (x : Int) : Arr65 (w.setCell ⟨b, i, none⟩ (.int .u8 x)) b (updI f i x) := by
  intro j hj
  obtain ⟨hc, hf⟩ := h j hj
  refine ⟨?_, by rw [World.frozen?_setCell]; exact hf⟩
  unfold updI
  by_cases e : j = i
  · subst e
    rw [World.cell?_setCell_same _ _ _ hc, if_pos rfl]
  · rw [World.cell?_setCell_other _ _ _ _ (by simp <;> omega), hc, if_neg e]
theorem arr65_zero (w : World) (T : TypeId) : Arr65 (w.alloc (.cells (Array.replicate 65 (Value.int .u8 0)) T)) w.heap.size (fun _ => 0) := by
  intro i hi
  simp [hi, go_sem]
/-- What stands at the array's end. -/
def TailIs (f : Nat → Int) (i : Nat) (T : List UInt8) : Prop := i + T.length = 65 ∧ ∀ (j : Nat) c, T[j]? = some c → f (i + j) = (c.toNat : Int)
theorem TailIs.cons {f : Nat → Int} {i : Nat} {T : List UInt8} (h : TailIs f (i + 1) T) (c : UInt8) : TailIs (updI f i (c.toNat : Int)) i (c :: T) := by
  obtain ⟨h1, h2⟩ := h
  refine ⟨by simp; omega, fun j d hj => ?_⟩
  unfold updI
  cases j with
  | zero =>
    obtain rfl : c = d := by simpa using hj
    simp
  | succ j =>
    rw [if_neg (by omega)]
    have := h2 j d (by simpa using hj)
    rw [← this]
    congr 1
    omega
theorem tail_string (w : World) (b i n cap : Nat) (f : Nat → Int) (T : List UInt8) (h : Arr65 w b f) (ht : TailIs f i T) (hn : n = T.length) :
    (convert 43 9 (.slice (some ⟨b, i, none⟩) n cap)).run Tryd.prog w = .ok (.string ⟨T.toArray⟩) w := by
  subst hn
  refine run_convert_bytes_back w 43 9 5 ⟨b, i, none⟩ cap T Tryd.underlying43 Tryd.underlying5 Tryd.underlying9 fun j hj => ?_
  rw [Addr.add_mid]
  have h1 := ht.1
  rw [(h (i + j) (by omega)).1, ht.2 j T[j] (List.getElem?_eq_getElem hj)]
theorem dch_at (k : Nat) (h : k < 36) : ((⟨#[48, 49, 50, 51, 52, 53, 54, 55, 56, 57, 97, 98, 99, 100, 101, 102, 103, 104, 105, 106, 107, 108, 109, 110, 111, 112, 113, 114, 115, 116, 117, 118, 119, 120, 121, 122]⟩ : ByteArray)[k]'h).toNat = (dch k).toNat := by
  have : ∀ k : Fin 36, ((⟨#[48, 49, 50, 51, 52, 53, 54, 55, 56, 57, 97, 98, 99, 100, 101, 102, 103, 104, 105, 106, 107, 108, 109, 110, 111, 112, 113, 114, 115, 116, 117, 118, 119, 120, 121, 122]⟩ : ByteArray)[k.val]'k.isLt).toNat = (dch k.val).toNat := by decide +kernel
  exact this ⟨k, h⟩
theorem mask15 (u : Nat) (h : u < 18446744073709551616) : bits .and .u64 (u : Int) 15 = ((u % 16 : Nat) : Int) := by
  have := u64_and_nat u 15 h (by decide)
  rw [show ((15 : Nat) : Int) = 15 from rfl] at this
  rw [this]
  congr 1
  exact Nat.and_two_pow_sub_one_eq_mod u 4
theorem few_digits (u U t : Nat) (h1 : 1 ≤ u) (h : u * 16 ^ t ≤ U) (hU : U < 9223372036854775808) : t ≤ 15 := by
  rcases Nat.lt_or_ge t 16 with h2 | h2
  · omega
  · have h3 : 16 ^ 16 ≤ 16 ^ t := Nat.pow_le_pow_right (by decide) h2
    have h4 : 16 ^ t ≤ u * 16 ^ t := Nat.le_mul_of_pos_left _ h1
    have h5 : (16 : Nat) ^ 16 = 18446744073709551616 := by decide
    omega

set_option maxHeartbeats 1000000 in
theorem pow2_16 (w : World) : Calls Tryd.prog 44 #[.int .i64 16] w fun e w' => e = .returned (.bool true) ∧ w = w' := by
  go_enter Tryd.func44, Tryd.ntmps44
  go_wp2_with fail
  go_ret
  exact ⟨rfl, rfl⟩
/-- The table of trailing zeros says 4 of 16. -/
def Deb (w : World) : Prop := 2 < w.heap.size ∧ w.cell? ⟨2, 15, none⟩ = some (.int .u8 4)
theorem Deb.below {w w' : World} (h : Deb w) (hb : Below w.heap.size w w') : Deb w' := ⟨Nat.lt_of_lt_of_le h.1 hb.size, by rw [(bcell hb).1 _ _ h.1]; exact h.2⟩
set_option maxHeartbeats 1000000 in
theorem tz64 (w : World) (hw : Deb w) : Calls Tryd.prog 49 #[.int .u64 16] w fun e w' => e = .returned (.int .i64 4) ∧ w = w' := by
  have h2 := hw.2
  have e15 : (IntKind.u64.wrap (bits BinOp.and IntKind.u64 16 (IntKind.u64.wrap (-16)) * 285870213051353865) / 288230376151711744).toNat = 15 := by decide +kernel
  go_enter Tryd.func49, Tryd.ntmps49
  go_wp2_with fail
  go_ret
  exact ⟨rfl, rfl⟩
set_option maxHeartbeats 1000000 in
theorem tz16 (w : World) (hw : Deb w) : Calls Tryd.prog 45 #[.int .u64 16] w fun e w' => e = .returned (.int .i64 4) ∧ w = w' := by
  have HT := Lib.hid (tz64 w hw)
  go_enter Tryd.func45, Tryd.ntmps45
  go_wp2_with (go_at_call 49; refine HT.out.mono ?_; rintro e w' ⟨rfl, rfl⟩)
  go_ret
  exact ⟨rfl, rfl⟩

set_option maxRecDepth 1000000 in
set_option maxHeartbeats 4000000 in
theorem fbits (U : Nat) (hU : U < 9223372036854775808) (w : World) (hw : Deb w) :
    Calls Tryd.prog 38 #[.slice none 0 0, .int .u64 (U : Int), .int .i64 16, .bool false, .bool false] w fun e w' => e = .returned (.tuple #[.slice none 0 0, .string ⟨(prt 16 U).toArray⟩]) ∧ Below w.heap.size w w' := by
  have HD := Lib.hid hw
  obtain ⟨R, hR⟩ : ∃ R : ByteArray, R = ⟨(prt 16 U).toArray⟩ := ⟨_, rfl⟩
  rw [← hR]
  have HR := Lib.hid hR
  clear hR hw
  have hd1 := HD.out.below (below_alloc w (.cells (Array.replicate 65 (Value.int .u8 0)) 81))
  have HT := Lib.hid (tz16 _ hd1)
  clear hd1
  go_enter Tryd.func38, Tryd.ntmps38
  go_wp2_with (first | (go_at_call 44; refine (pow2_16 _).mono ?_; rintro e w' ⟨rfl, rfl⟩) | (go_at_call 45; refine HT.out.mono ?_; rintro e w' ⟨rfl, rfl⟩))
  have B0 := Lib.hid (arr65_zero w 81)
  have L0 := below_alloc w (.cells (Array.replicate 65 (Value.int .u8 0)) 81)
  clear HT HD
  generalize World.alloc w _ = w0 at *
  go_loopw [1, 13] (fun x i wr => ∃ (u k j : Nat) (T : List UInt8) (f : Nat → Int), x = .int .u64 (u : Int) ∧ i = .int .i64 (j : Int) ∧ u < 9223372036854775808 ∧ j + T.length = 65 ∧ k + T.length = 64 ∧ T.length ≤ 15 ∧ u * 16 ^ T.length ≤ U ∧ Hid (prt 16 U = prtF 16 k u ++ T) ∧ Hid (Arr65 wr w.heap.size f) ∧ Hid (TailIs f j T) ∧ Below w.heap.size w wr)
    (fun x _ _ => (intOf x).toNat)
  case atStart => exact ⟨U, 64, 65, [], fun _ => 0, rfl, rfl, hU, rfl, rfl, by simp, by simp, by simp [Hid, prt], B0, ⟨rfl, fun j c h => by simp at h⟩, L0⟩
  case round =>
    clear B0 L0
    obtain ⟨u, k, j, T, f, rfl, rfl, hu, hj, hk, ht, hpw, hp, hA, hT, hb⟩ := hrel
    have j1 : (1 : Int) ≤ j := by omega
    have j2 : (j : Int) ≤ 65 := by omega
    obtain ⟨i, rfl⟩ : ∃ i, j = i + 1 := ⟨j - 1, by omega⟩
    have e1 : ((i + 1 : Nat) : Int) - 1 = (i : Int) := by omega
    have i1 : (i : Int) < 65 := by omega
    by_cases hge : 16 ≤ u
    · have g1 : (u : Int) ≥ 16 := by omega
      have hu1 : 1 ≤ u / 16 := by omega
      have hpw2 : u / 16 * 16 ^ (T.length + 1) ≤ U := by
        have : u / 16 * 16 ≤ u := Nat.div_mul_le_self u 16
        have h3 := Nat.mul_le_mul_right (16 ^ T.length) this
        rw [Nat.pow_succ, Nat.mul_comm (16 ^ T.length) 16, ← Nat.mul_assoc]
        omega
      have ht2 := few_digits (u / 16) U (T.length + 1) hu1 hpw2 hU
      obtain ⟨k', rfl⟩ : ∃ k', k = k' + 1 := ⟨k - 1, by omega⟩
      have hp2 : Hid (prt 16 U = prtF 16 k' (u / 16) ++ (dch (u % 16) :: T)) := by
        have h := hp.out
        rw [prtF_step 16 k' u hge, List.append_assoc] at h
        exact h
      obtain ⟨ci, zi⟩ := hA.out i (by omega)
      have hA2 := Lib.hid (hA.out.put i ((dch (u % 16)).toNat : Int))
      have hT2 := Lib.hid (hT.out.cons (dch (u % 16)))
      have hb2 := hb.setCell (p := ⟨w.heap.size, i, none⟩) (Nat.le_refl _) (.int .u8 ((dch (u % 16)).toNat : Int))
      have hm := mask15 u (by omega)
      have hd := dch_at (u % 16) (by omega)
      have hm0 : (0 : Int) ≤ ((u % 16 : Nat) : Int) := by omega
      have hm1 : ((u % 16 : Nat) : Int) < 36 := by omega
      clear hp hA hT hb hpw
      go_wp2_with fail
      go_roundw
      case rel => exact ⟨u / 16, k', i, dch (u % 16) :: T, updI f i ((dch (u % 16)).toNat : Int), by simp, by first | rfl | go_num, by omega, by simp; omega, by simp; omega, by simpa using ht2, hpw2, hp2, hA2, hT2, hb2⟩
      case measure => simp [intOf]; omega
    · have g1 : ¬ (u : Int) ≥ 16 := by omega
      have hp2 : Hid (R = ⟨(dch u :: T).toArray⟩) := by
        have h := hp.out
        rw [prtF_small 16 k u (by omega)] at h
        have h2 := HR.out
        rw [h] at h2
        exact h2
      obtain ⟨ci, zi⟩ := hA.out i (by omega)
      have hA2 := hA.out.put i ((dch u).toNat : Int)
      have hT2 := hT.out.cons (dch u)
      have hb2 := hb.setCell (p := ⟨w.heap.size, i, none⟩) (Nat.le_refl _) (.int .u8 ((dch u).toNat : Int))
      have hd := dch_at u (by omega)
      have hcv := fun cap => tail_string _ w.heap.size i (65 - i) cap _ (dch u :: T) hA2 hT2 (by simp; omega)
      rw [← hp2.out] at hcv
      have hm0 : (0 : Int) ≤ (u : Int) := by omega
      have hm1 : (u : Int) < 36 := by omega
      have i0 : (0 : Int) ≤ i := by omega
      have i2 : (i : Int) ≤ 65 := by omega
      clear hp hA hT hb hpw hA2 hT2
      go_wp2_with fail
      go_ret2
      exact ⟨rfl, hb2⟩

set_option maxRecDepth 100000 in
set_option maxHeartbeats 1000000 in
theorem fint16 (U : Nat) (hU : U < 9223372036854775808) (w : World) (hw : Deb w) :
    Calls Tryd.prog 33 #[.int .i64 (U : Int), .int .i64 16] w fun e w' => e = .returned (.string ⟨(prt 16 U).toArray⟩) ∧ Below w.heap.size w w' := by
  have HF := Lib.hid (fbits U hU w hw)
  have u0 : (0 : Int) ≤ U := by omega
  have u1 : (U : Int) < 9223372036854775808 := by omega
  go_enter Tryd.func33, Tryd.ntmps33
  go_wp2_with fail
  refine HF.out.mono ?_
  rintro e w1 ⟨rfl, hb⟩
  go_wp2_with fail
  go_ret
  exact ⟨rfl, hb⟩
set_option maxHeartbeats 1000000 in
theorem fpub16 (U : Nat) (hU : U < 9223372036854775808) (w : World) (hw : Deb w) :
    Calls Tryd.prog 27 #[.int .i64 (U : Int), .int .i64 16] w fun e w' => e = .returned (.string ⟨(prt 16 U).toArray⟩) ∧ Below w.heap.size w w' := by
  have HF := Lib.hid (fint16 U hU w hw)
  go_enter Tryd.func27, Tryd.ntmps27
  go_wp2_with fail
  refine HF.out.mono ?_
  rintro e w1 ⟨rfl, hb⟩
  go_wp2_with fail
  go_ret
  exact ⟨rfl, hb⟩
/-- A number's digits, 0 where it is negative. -/
def prtI (b : Nat) (n : Int) : List UInt8 := prt b n.toNat
set_option maxHeartbeats 1000000 in
theorem hexdigits29 (n : Int) (hn : n < 9223372036854775808) (w : World) (hw : Deb w) :
    Calls Tryd.prog 21 #[.int .i64 n] w fun e w' => e = .returned (.string ⟨(prtI 16 n).toArray⟩) ∧ Below w.heap.size w w' := by
  unfold prtI
  by_cases h : 0 ≤ n
  · obtain ⟨U, rfl⟩ := Int.eq_ofNat_of_zero_le h
    have HF := Lib.hid (fpub16 U (by omega) w hw)
    rw [Int.toNat_natCast]
    have hm : max (U : Int) 0 = (U : Int) := by omega
    clear h
    go_enter Tryd.func21, Tryd.ntmps21
    go_wp2_with fail
    refine HF.out.mono ?_
    rintro e w1 ⟨rfl, hb⟩
    go_wp2_with fail
    go_ret
    exact ⟨rfl, hb⟩
  · have HF : Hid (Calls Tryd.prog 27 #[.int .i64 0, .int .i64 16] w fun e w' => e = .returned (.string ⟨(prt 16 0).toArray⟩) ∧ Below w.heap.size w w') := fpub16 0 (by omega) w hw
    have hm : max n 0 = 0 := by omega
    rw [show n.toNat = 0 by omega]
    generalize prt 16 0 = R at *
    clear h
    go_enter Tryd.func21, Tryd.ntmps21
    go_wp2_with fail
    refine HF.out.mono ?_
    rintro e w1 ⟨rfl, hb⟩
    go_wp2_with fail
    go_ret
    exact ⟨rfl, hb⟩
end Go.Proofs.YtchpgdoidpllgaaDoor
