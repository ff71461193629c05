/- Reading digits: ParseInt, octet's number, Dec, Hex. -/
import Derived.Test.YtchpgdoidpllgaaDoorNumA
namespace Go.Proofs.YtchpgdoidpllgaaDoor
open Go.RowKit

/-- What Dec and Hex return: the number, the error's number. -/
def numR (b : Int) (m : Nat) (p : UInt8 → Bool) (l : List UInt8) (most : Int) : Int × Int :=
  if l.length < 1 ∨ m < l.length ∨ l.all p = false then (0, 2) else if most < numD b l then (0, 3) else (numD b l, 0)
def numV (r : Int × Int) : Value := .tuple #[.int .i64 r.1, .int .i64 r.2]
/-- The variable of a syntax error holds an error. -/
def Syn (w : World) : Prop := 3 < w.heap.size ∧ ∃ te pe, w.cell? ⟨3, 0, none⟩ = some (.iface te pe)
theorem Syn.below {w w' : World} (h : Syn w) (hb : Below w.heap.size w w') : Syn w' := by
  obtain ⟨h1, te, pe, h2⟩ := h
  exact ⟨Nat.lt_of_lt_of_le h1 hb.size, te, pe, by rw [(bcell hb).1 _ _ h1]; exact h2⟩
theorem empty_of (s : ByteArray) (h : ¬ 0 < s.size) : s = ⟨#[]⟩ := by
  cases s with
  | mk d =>
    have : d.size = 0 := by have : d.size = (ByteArray.mk d).size := rfl; omega
    have h2 : d = #[] := Array.eq_empty_of_size_eq_zero this
    rw [h2]

theorem bound10 (s : ByteArray) (hs : s.size ≤ 10) (hd : s.data.toList.all isDec = true) : 0 ≤ numD 10 s.data.toList ∧ numD 10 s.data.toList < 10000000000 := by
  have h := numD_lt 10 isDec (fun c h => dec_dgt c h) s.data.toList hd
  have hpw : 10 ^ s.data.toList.length ≤ 10 ^ 10 := Nat.pow_le_pow_right (by decide) (by rw [← Lib.size_eq]; omega)
  have h2 : ((10 ^ s.data.toList.length : Nat) : Int) ≤ ((10 ^ 10 : Nat) : Int) := by exact_mod_cast hpw
  have h3 : ((10 ^ 10 : Nat) : Int) = 10000000000 := by decide
  have h4 : (((10 : Nat) : Int)) = 10 := rfl
  rw [h4] at h
  omega
set_option maxRecDepth 1000000 in
set_option maxHeartbeats 2000000 in
theorem pint10 (s : ByteArray) (h0 : 0 < s.size) (hs : s.size ≤ 10) (hd : s.data.toList.all isDec = true) (w : World) :
    Calls Tryd.prog 51 #[.string s, .int .i64 10, .int .i64 64] w fun e w' => e = .returned (.tuple #[.int .i64 (numD 10 s.data.toList), .nilIface]) ∧ Below w.heap.size w w' := by
  obtain ⟨n0, n1⟩ := bound10 s hs hd
  have HU := Lib.hid (puint10 s h0 hs hd)
  have he := emp_false' s h0
  have hok := all_at s _ hd 0 h0
  have hne : ((s[0].toNat : Int) == 43) = false ∧ ((s[0].toNat : Int) == 45) = false := by
    have : ∀ c : UInt8, isDec c = true → ((c.toNat : Int) == 43) = false ∧ ((c.toNat : Int) == 45) = false := by apply all256; decide +kernel
    exact this _ hok
  obtain ⟨e1, e2⟩ := hne
  clear hok hd
  generalize numD 10 s.data.toList = n at *
  have m0 : (0 : Int) < s.size := by omega
  go_enter Tryd.func51, Tryd.ntmps51
  go_wp2_with fail
  refine (HU.out _).mono ?_
  rintro e w1 ⟨rfl, hb⟩
  go_wp2_with fail
  go_ret2
  exact ⟨rfl, hb⟩
set_option maxRecDepth 100000 in
set_option maxHeartbeats 1000000 in
theorem ppub10 (s : ByteArray) (h0 : 0 < s.size) (hs : s.size ≤ 10) (hd : s.data.toList.all isDec = true) (w : World) :
    Calls Tryd.prog 47 #[.string s, .int .i64 10, .int .i64 64] w fun e w' => e = .returned (.tuple #[.int .i64 (numD 10 s.data.toList), .nilIface]) ∧ Below w.heap.size w w' := by
  have HU := Lib.hid (pint10 s h0 hs hd)
  clear hd
  generalize numD 10 s.data.toList = n at *
  go_enter Tryd.func47, Tryd.ntmps47
  go_wp2_with fail
  refine (HU.out _).mono ?_
  rintro e w1 ⟨rfl, hb⟩
  go_wp2_with fail
  go_ret2
  exact ⟨rfl, hb⟩
set_option maxRecDepth 100000 in
set_option maxHeartbeats 1000000 in
theorem pempty10 (w : World) (hw : Syn w) :
    Calls Tryd.prog 47 #[.string ⟨#[]⟩, .int .i64 10, .int .i64 64] w fun e w' => (∃ N, e = .returned (.tuple #[.int .i64 0, .iface 96 (.pointer (some ⟨N, 0, none⟩))])) ∧ Below w.heap.size w w' := by
  have HU := Lib.hid (fun W => Tryd.internal_strconv_ParseInt_empty 10 64 W)
  obtain ⟨_, te, pe, hc⟩ := hw
  have HE := Lib.hid (Tryd.strconv_toError_syntax ⟨#[80, 97, 114, 115, 101, 73, 110, 116]⟩ ⟨#[]⟩ 10 64 (.iface te pe) w (by decide) hc (.inr ⟨te, pe, rfl⟩))
  clear hc
  go_enter Tryd.func47, Tryd.ntmps47
  go_wp2_with fail
  refine (HU.out _).mono ?_
  rintro e w1 ⟨rfl, rfl⟩
  go_wp2_with fail
  refine HE.out.mono ?_
  rintro e w2 ⟨N, rfl, _, _, hb⟩
  go_wp2_with fail
  go_ret2
  exact ⟨⟨N, rfl⟩, hb⟩
set_option maxRecDepth 100000 in
set_option maxHeartbeats 1000000 in
theorem number10 (s : ByteArray) (hs : s.size ≤ 10) (hd : s.data.toList.all isDec = true) (most : Int) (w : World) (hw : Syn w) :
    Calls Tryd.prog 40 #[.string s, .int .i64 10, .int .i64 most] w fun e w' => e = .returned (numV (numR 10 10 isDec s.data.toList most)) ∧ Below w.heap.size w w' := by
  have hz := Lib.size_eq s
  by_cases h0 : 0 < s.size
  · have HU := Lib.hid (ppub10 s h0 hs hd)
    have hb := bound10 s hs hd
    have hv : numR 10 10 isDec s.data.toList most = if most < numD 10 s.data.toList then (0, 3) else (numD 10 s.data.toList, 0) := by
      unfold numR
      rw [if_neg (by rintro (h | h | h); (· omega); (· omega); (· rw [hd] at h; cases h))]
    rw [hv]
    clear hv hd hz
    generalize numD 10 s.data.toList = n at *
    obtain ⟨n0, n1⟩ := hb
    by_cases hm : most < n
    · rw [if_pos hm]
      have : n > most := hm
      go_enter Tryd.func40, Tryd.ntmps40
      go_wp2_with fail
      refine (HU.out _).mono ?_
      rintro e w1 ⟨rfl, hb⟩
      go_wp2_with fail
      go_ret2
      exact ⟨rfl, hb⟩
    · rw [if_neg hm]
      have : ¬ n > most := hm
      go_enter Tryd.func40, Tryd.ntmps40
      go_wp2_with fail
      refine (HU.out _).mono ?_
      rintro e w1 ⟨rfl, hb⟩
      go_wp2_with fail
      go_ret2
      exact ⟨rfl, hb⟩
  · have hv : numR 10 10 isDec s.data.toList most = (0, 2) := by
      unfold numR
      rw [if_pos (by omega)]
    rw [hv]
    obtain rfl := empty_of s h0
    have HU := Lib.hid (pempty10 w hw)
    clear hv hd hz hs h0
    go_enter Tryd.func40, Tryd.ntmps40
    go_wp2_with fail
    refine HU.out.mono ?_
    rintro e w1 ⟨⟨N, rfl⟩, hb⟩
    go_wp2_with fail
    go_ret2
    exact ⟨rfl, hb⟩

theorem bound16 (s : ByteArray) (hs : s.size ≤ 8) (hd : s.data.toList.all isHex = true) : 0 ≤ numD 16 s.data.toList ∧ numD 16 s.data.toList < 4294967296 := by
  have h := numD_lt 16 isHex (fun c h => hex_dgt c h) s.data.toList hd
  have hpw : 16 ^ s.data.toList.length ≤ 16 ^ 8 := Nat.pow_le_pow_right (by decide) (by rw [← Lib.size_eq]; omega)
  have h2 : ((16 ^ s.data.toList.length : Nat) : Int) ≤ ((16 ^ 8 : Nat) : Int) := by exact_mod_cast hpw
  have h3 : ((16 ^ 8 : Nat) : Int) = 4294967296 := by decide
  have h4 : (((16 : Nat) : Int)) = 16 := rfl
  rw [h4] at h
  omega
set_option maxRecDepth 1000000 in
set_option maxHeartbeats 2000000 in
theorem pint16 (s : ByteArray) (h0 : 0 < s.size) (hs : s.size ≤ 8) (hd : s.data.toList.all isHex = true) (w : World) :
    Calls Tryd.prog 51 #[.string s, .int .i64 16, .int .i64 64] w fun e w' => e = .returned (.tuple #[.int .i64 (numD 16 s.data.toList), .nilIface]) ∧ Below w.heap.size w w' := by
  obtain ⟨n0, n1⟩ := bound16 s hs hd
  have HU := Lib.hid (puint16 s h0 hs hd)
  have he := emp_false' s h0
  have hok := all_at s _ hd 0 h0
  have hne : ((s[0].toNat : Int) == 43) = false ∧ ((s[0].toNat : Int) == 45) = false := by
    have : ∀ c : UInt8, isHex c = true → ((c.toNat : Int) == 43) = false ∧ ((c.toNat : Int) == 45) = false := by apply all256; decide +kernel
    exact this _ hok
  obtain ⟨e1, e2⟩ := hne
  clear hok hd
  generalize numD 16 s.data.toList = n at *
  have m0 : (0 : Int) < s.size := by omega
  go_enter Tryd.func51, Tryd.ntmps51
  go_wp2_with fail
  refine (HU.out _).mono ?_
  rintro e w1 ⟨rfl, hb⟩
  go_wp2_with fail
  go_ret2
  exact ⟨rfl, hb⟩
set_option maxRecDepth 100000 in
set_option maxHeartbeats 1000000 in
theorem ppub16 (s : ByteArray) (h0 : 0 < s.size) (hs : s.size ≤ 8) (hd : s.data.toList.all isHex = true) (w : World) :
    Calls Tryd.prog 47 #[.string s, .int .i64 16, .int .i64 64] w fun e w' => e = .returned (.tuple #[.int .i64 (numD 16 s.data.toList), .nilIface]) ∧ Below w.heap.size w w' := by
  have HU := Lib.hid (pint16 s h0 hs hd)
  clear hd
  generalize numD 16 s.data.toList = n at *
  go_enter Tryd.func47, Tryd.ntmps47
  go_wp2_with fail
  refine (HU.out _).mono ?_
  rintro e w1 ⟨rfl, hb⟩
  go_wp2_with fail
  go_ret2
  exact ⟨rfl, hb⟩
set_option maxRecDepth 100000 in
set_option maxHeartbeats 1000000 in
theorem pempty16 (w : World) (hw : Syn w) :
    Calls Tryd.prog 47 #[.string ⟨#[]⟩, .int .i64 16, .int .i64 64] w fun e w' => (∃ N, e = .returned (.tuple #[.int .i64 0, .iface 96 (.pointer (some ⟨N, 0, none⟩))])) ∧ Below w.heap.size w w' := by
  have HU := Lib.hid (fun W => Tryd.internal_strconv_ParseInt_empty 16 64 W)
  obtain ⟨_, te, pe, hc⟩ := hw
  have HE := Lib.hid (Tryd.strconv_toError_syntax ⟨#[80, 97, 114, 115, 101, 73, 110, 116]⟩ ⟨#[]⟩ 16 64 (.iface te pe) w (by decide) hc (.inr ⟨te, pe, rfl⟩))
  clear hc
  go_enter Tryd.func47, Tryd.ntmps47
  go_wp2_with fail
  refine (HU.out _).mono ?_
  rintro e w1 ⟨rfl, rfl⟩
  go_wp2_with fail
  refine HE.out.mono ?_
  rintro e w2 ⟨N, rfl, _, _, hb⟩
  go_wp2_with fail
  go_ret2
  exact ⟨⟨N, rfl⟩, hb⟩
set_option maxRecDepth 100000 in
set_option maxHeartbeats 1000000 in
theorem number16 (s : ByteArray) (hs : s.size ≤ 8) (hd : s.data.toList.all isHex = true) (most : Int) (w : World) (hw : Syn w) :
    Calls Tryd.prog 40 #[.string s, .int .i64 16, .int .i64 most] w fun e w' => e = .returned (numV (numR 16 8 isHex s.data.toList most)) ∧ Below w.heap.size w w' := by
  have hz := Lib.size_eq s
  by_cases h0 : 0 < s.size
  · have HU := Lib.hid (ppub16 s h0 hs hd)
    have hb := bound16 s hs hd
    have hv : numR 16 8 isHex s.data.toList most = if most < numD 16 s.data.toList then (0, 3) else (numD 16 s.data.toList, 0) := by
      unfold numR
      rw [if_neg (by rintro (h | h | h); (· omega); (· omega); (· rw [hd] at h; cases h))]
    rw [hv]
    clear hv hd hz
    generalize numD 16 s.data.toList = n at *
    obtain ⟨n0, n1⟩ := hb
    by_cases hm : most < n
    · rw [if_pos hm]
      have : n > most := hm
      go_enter Tryd.func40, Tryd.ntmps40
      go_wp2_with fail
      refine (HU.out _).mono ?_
      rintro e w1 ⟨rfl, hb⟩
      go_wp2_with fail
      go_ret2
      exact ⟨rfl, hb⟩
    · rw [if_neg hm]
      have : ¬ n > most := hm
      go_enter Tryd.func40, Tryd.ntmps40
      go_wp2_with fail
      refine (HU.out _).mono ?_
      rintro e w1 ⟨rfl, hb⟩
      go_wp2_with fail
      go_ret2
      exact ⟨rfl, hb⟩
  · have hv : numR 16 8 isHex s.data.toList most = (0, 2) := by
      unfold numR
      rw [if_pos (by omega)]
    rw [hv]
    obtain rfl := empty_of s h0
    have HU := Lib.hid (pempty16 w hw)
    clear hv hd hz hs h0
    go_enter Tryd.func40, Tryd.ntmps40
    go_wp2_with fail
    refine HU.out.mono ?_
    rintro e w1 ⟨⟨N, rfl⟩, hb⟩
    go_wp2_with fail
    go_ret2
    exact ⟨rfl, hb⟩

set_option maxRecDepth 100000 in
set_option maxHeartbeats 1000000 in
theorem hex_any (s : ByteArray) (hs : s.size ≤ 4611686018427387904) (most : Int) (w : World) (hw : Syn w) :
    Calls Tryd.prog 34 #[.string s, .int .i64 most] w fun e w' => e = .returned (numV (numR 16 8 isHex s.data.toList most)) ∧ Below w.heap.size w w' := by
  have hz := Lib.size_eq s
  obtain ⟨r, hr⟩ : ∃ r, r = numR 16 8 isHex s.data.toList most := ⟨_, rfl⟩
  rw [← hr]
  by_cases h1 : s.size ≤ 8
  · have j1 : ¬ (s.size : Int) > 8 := by omega
    obtain ⟨q, hq⟩ : ∃ q, s.data.toList.all isHex = q := ⟨_, rfl⟩
    have HA := Lib.hid (all_true s hs 2 isHex cls_hex q hq)
    cases q
    · have h2 : r = (0, 2) := by rw [hr]; unfold numR; rw [if_pos (.inr (.inr hq))]
      subst h2
      clear hr hq hz h1
      go_enter Tryd.func34, Tryd.ntmps34
      go_wp2_with (go_at_call 39; refine (HA.out _).mono ?_; rintro e w' ⟨rfl, rfl⟩)
      go_ret2
      exact ⟨rfl, Below.refl _ _⟩
    · have HN := Lib.hid (number16 s h1 hq most w hw)
      rw [← hr] at HN
      clear hr hq hz h1
      obtain ⟨r1, r2⟩ := r
      have HM : Hid (Calls Tryd.prog 40 #[.string s, .int .i64 16, .int .i64 most] w fun e w' => e = .returned (.tuple #[.int .i64 r1, .int .i64 r2]) ∧ Below w.heap.size w w') := HN.out
      clear HN
      go_enter Tryd.func34, Tryd.ntmps34
      go_wp2_with (go_at_call 39; refine (HA.out _).mono ?_; rintro e w' ⟨rfl, rfl⟩)
      refine HM.out.mono ?_
      rintro e w1 ⟨rfl, hb⟩
      go_wp2_with fail
      go_ret2
      exact ⟨rfl, hb⟩
  · have j1 : (s.size : Int) > 8 := by omega
    have h2 : r = (0, 2) := by rw [hr]; unfold numR; rw [if_pos (.inr (.inl (by omega)))]
    subst h2
    clear hr hz h1
    go_enter Tryd.func34, Tryd.ntmps34
    go_wp2_with fail
    go_ret2
    exact ⟨rfl, Below.refl _ _⟩
end Go.Proofs.YtchpgdoidpllgaaDoor
