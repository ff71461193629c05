/- mac: byteAt and Same. -/
import Derived.Test.YtllmlngfmcbaaaaGreatDoorBAwake
import Derived.WalkLawsBesides
namespace Go.Proofs.YtllmlngfmcbaaaaGreatDoor
open Go.RowKit

theorem ofInt_i64' (a : Nat) (ha : a < 9223372036854775808) : (BitVec.ofInt 64 (a : Int)).toNat = a := by
  rw [BitVec.ofInt_natCast, BitVec.toNat_ofNat]; exact Nat.mod_eq_of_lt (by omega)
theorem i64_or' (a b : Nat) (ha : a < 9223372036854775808) (hb : b < 9223372036854775808) : bits .or .i64 (a : Int) (b : Int) = ((a ||| b : Nat) : Int) := by
  have hx : a ||| b < 2 ^ 63 := Nat.or_lt_two_pow (by omega) (by omega)
  show IntKind.i64.wrap ((BitVec.ofInt 64 (a : Int) ||| BitVec.ofInt 64 (b : Int)).toNat : Int) = _
  rw [BitVec.toNat_or, ofInt_i64' a ha, ofInt_i64' b hb, IntKind.wrap_i64]
  omega
theorem i64_xor' (a b : Nat) (ha : a < 9223372036854775808) (hb : b < 9223372036854775808) : bits .xor .i64 (a : Int) (b : Int) = ((a ^^^ b : Nat) : Int) := by
  have hx : a ^^^ b < 2 ^ 63 := Nat.xor_lt_two_pow (by omega) (by omega)
  show IntKind.i64.wrap ((BitVec.ofInt 64 (a : Int) ^^^ BitVec.ofInt 64 (b : Int)).toNat : Int) = _
  rw [BitVec.toNat_xor, ofInt_i64' a ha, ofInt_i64' b hb, IntKind.wrap_i64]
  omega
theorem u8_xor (x m : UInt8) : bits .xor .u8 (x.toNat : Int) (m.toNat : Int) = (((x ^^^ m).toNat : Nat) : Int) := by
  have hx := x.toNat_lt
  have hm := m.toNat_lt
  have hb : x.toNat ^^^ m.toNat < 2 ^ 8 := Nat.xor_lt_two_pow (by omega) (by omega)
  show IntKind.u8.wrap ((BitVec.ofInt 8 (x.toNat : Int) ^^^ BitVec.ofInt 8 (m.toNat : Int)).toNat : Int) = _
  rw [BitVec.toNat_xor, BitVec.ofInt_natCast, BitVec.ofInt_natCast, BitVec.toNat_ofNat, BitVec.toNat_ofNat, UInt8.toNat_xor, Nat.mod_eq_of_lt (by omega), Nat.mod_eq_of_lt (by omega)]
  have : IntKind.u8.wrap (((x.toNat ^^^ m.toNat : Nat)) : Int) = (((x.toNat ^^^ m.toNat : Nat)) : Int) := by
    rw [IntKind.wrap_u8']; omega
  exact this

set_option maxHeartbeats 400000 in
theorem byteAt37 (s : ByteArray) (i : Nat) (w : World) :
    Calls Tryz.prog 35 #[.string s, .int .i64 (i : Int)] w fun e w' => e = .returned (.int .u8 (byteAt s.data.toList i)) ∧ w = w' := by
  by_cases h : i < s.size
  · have hb : byteAt s.data.toList i = (s[i].toNat : Int) := by
      unfold byteAt
      have : s.data.toList[i]? = some s[i] := by
        rw [List.getElem?_eq_getElem (by rw [← Lib.size_eq]; exact h)]
        rfl
      rw [List.getD_eq_getElem?_getD, this]
      rfl
    have HB := Lib.hid hb
    have j1 : (i : Int) < s.size := by omega
    clear hb
    go_enter Tryz.func35, Tryz.ntmps35
    go_wp2_with fail
    go_ret
    exact ⟨by rw [HB.out]; rfl, rfl⟩
  · have hb : byteAt s.data.toList i = 0 := by
      unfold byteAt
      rw [List.getD_eq_getElem?_getD, List.getElem?_eq_none (by rw [← Lib.size_eq]; omega)]
      rfl
    have HB := Lib.hid hb
    have j1 : ¬ (i : Int) < s.size := by omega
    clear hb
    go_enter Tryz.func35, Tryz.ntmps35
    go_wp2_with fail
    go_ret
    exact ⟨by rw [HB.out]; rfl, rfl⟩

theorem nat_xor_zero {a b : Nat} : a ^^^ b = 0 ↔ a = b := by
  constructor
  · intro h
    have := congrArg (· ^^^ b) h
    simpa [Nat.xor_assoc] using this
  · rintro rfl
    simp
/-- Alike in length, and in the first bytes. -/
def AlikeTo (a b : List UInt8) (n : Nat) : Prop := a.length = b.length ∧ ∀ i, i < n → a.getD i 0 = b.getD i 0
theorem alike_all {a b : List UInt8} {n : Nat} (ha : a.length ≤ n) : AlikeTo a b n ↔ a = b := by
  constructor
  · rintro ⟨hl, h⟩
    apply List.ext_getElem hl
    intro i h1 h2
    have := h i (by omega)
    simpa [List.getD, h1, h2] using this
  · rintro rfl
    exact ⟨rfl, fun _ _ => rfl⟩

set_option maxHeartbeats 400000 in
theorem same25 (a b : ByteArray) (ha : a.size ≤ 9223372036854775807) (hb : b.size ≤ 9223372036854775807) (w : World) :
    Calls Tryz.prog 20 #[.string a, .string b] w fun e w' => e = .returned (.bool (decide (a = b))) ∧ w = w' := by
  have hx0 := i64_xor' a.size b.size (by omega) (by omega)
  have hlt0 : a.size ^^^ b.size < 2 ^ 63 := Nat.xor_lt_two_pow (by omega) (by omega)
  have hz0 : a.size ^^^ b.size = 0 ↔ AlikeTo a.data.toList b.data.toList 0 := by
    unfold AlikeTo
    rw [nat_xor_zero, Lib.size_eq, Lib.size_eq]
    exact ⟨fun h => ⟨h, fun i hi => by omega⟩, fun h => h.1⟩
  have HZ0 := Lib.hid hz0
  have hm : (max (a.size : Int) (b.size : Int)) = ((max a.size b.size : Nat) : Int) := by omega
  obtain ⟨M, hM⟩ : ∃ M, M = max a.size b.size := ⟨_, rfl⟩
  have hM1 : a.size ≤ M := by omega
  have hM2 : b.size ≤ M := by omega
  have hM3 : M ≤ 9223372036854775807 := by omega
  rw [← hM] at hm
  have HM := Lib.hid hm
  clear hz0 hM
  go_enter Tryz.func20, Tryz.ntmps20
  go_wp2_with fail
  clear hx0 hm
  generalize a.size ^^^ b.size = d0 at *
  go_loop [5, 6, 17] (fun dv _ i => ∃ k d : Nat, k ≤ M ∧ i = .int .i64 (k : Int) ∧ dv = .int .i64 (d : Int) ∧ d < 2 ^ 63 ∧ Hid (d = 0 ↔ AlikeTo a.data.toList b.data.toList k)) (fun _ _ i => M - (intOf i).toNat)
  case atStart => exact ⟨0, d0, by omega, rfl, rfl, hlt0, HZ0⟩
  case round =>
    clear hlt0 HZ0
    obtain ⟨k, d, hk, rfl, rfl, hd, hz⟩ := hrel
    by_cases hlt : k < M
    · have j1 : (k : Int) < M := by omega
      have hx := u8_xor (a.data.toList.getD k 0) (b.data.toList.getD k 0)
      have hxe : (a.data.toList.getD k 0) ^^^ (b.data.toList.getD k 0) = 0 ↔ a.data.toList.getD k 0 = b.data.toList.getD k 0 := UInt8.xor_eq_zero_iff
      have HXE := Lib.hid hxe
      obtain ⟨x, hxx⟩ : ∃ x, x = (a.data.toList.getD k 0) ^^^ (b.data.toList.getD k 0) := ⟨_, rfl⟩
      rw [← hxx] at hx
      have hxl := x.toNat_lt
      have ho := i64_or' d x.toNat (by omega) (by omega)
      have hol : d ||| x.toNat < 2 ^ 63 := Nat.or_lt_two_pow hd (by omega)
      have hnew : d ||| x.toNat = 0 ↔ AlikeTo a.data.toList b.data.toList (k + 1) := by
        rw [Nat.or_eq_zero_iff, hz.out]
        have h1 : x.toNat = 0 ↔ a.data.toList.getD k 0 = b.data.toList.getD k 0 := by
          rw [← HXE.out, ← hxx]
          exact ⟨fun h => UInt8.toNat_inj.1 (by rw [h]; rfl), fun h => by rw [h]; rfl⟩
        rw [h1]
        unfold AlikeTo
        constructor
        · rintro ⟨⟨hl, h⟩, h2⟩
          refine ⟨hl, fun i hi => ?_⟩
          rcases Nat.lt_or_ge i k with h3 | h3
          · exact h i h3
          · obtain rfl : i = k := by omega
            exact h2
        · rintro ⟨hl, h⟩
          exact ⟨⟨hl, fun i hi => h i (by omega)⟩, h k (by omega)⟩
      have HNEW := Lib.hid hnew
      have h64 : IntKind.i64.wrap (x.toNat : Int) = (x.toNat : Int) := IntWalk.i64_in _ (by omega)
      have hba : bits .xor .u8 (byteAt a.data.toList k) (byteAt b.data.toList k) = (x.toNat : Int) := hx
      clear hnew hxx hxe hx
      go_wp2_with (go_at_call 35; refine (byteAt37 _ k _).mono ?_; rintro e w' ⟨rfl, rfl⟩)
      go_round
      case rel => exact ⟨k + 1, d ||| x.toNat, hlt, by go_num, rfl, hol, HNEW⟩
      case measure => simp [intOf]; omega
    · obtain rfl : k = M := by omega
      have hfin : (d = 0) ↔ a = b := by
        rw [hz.out, alike_all (by rw [← Lib.size_eq]; exact hM1)]
        exact ⟨fun h => ByteArray.ext (Array.toList_inj.1 h), fun h => by rw [h]⟩
      have hfd : ((d : Int) == 0) = decide (a = b) := by
        by_cases h : a = b
        · have := hfin.2 h; subst this; simp [h]
        · have : ¬ d = 0 := fun h2 => h (hfin.1 h2)
          simp [h]; omega
      have HFD := Lib.hid hfd
      clear hfin hfd hz
      go_wp2_with fail
      go_ret
      exact ⟨congrArg (fun q => Ending.returned (.bool q)) HFD.out, rfl⟩
end Go.Proofs.YtllmlngfmcbaaaaGreatDoor
