/- Reading digits: digit, Unhex of the program. -/
import Derived.Test.YtfelkdghjbecpaaDoorMacF
namespace Go.Proofs.YtfelkdghjbecpaaDoor
open Go.RowKit

/-- A digit's number; -1: it is none. -/
def digI (c : UInt8) : Int := if 48 ≤ c.toNat ∧ c.toNat ≤ 57 then (c.toNat : Int) - 48 else if 97 ≤ c.toNat ∧ c.toNat ≤ 102 then (c.toNat : Int) - 87 else -1
theorem digI_bd (c : UInt8) : -1 ≤ digI c ∧ digI c < 16 := by unfold digI; split <;> (try split) <;> omega
theorem all256 {P : UInt8 → Prop} (h : ∀ n : Fin 256, P (UInt8.ofNat n)) (c : UInt8) : P c := by
  have := h ⟨c.toNat, c.toNat_lt⟩
  simpa using this
theorem index_dig (c : UInt8) : Lib.indexByte [48, 49, 50, 51, 52, 53, 54, 55, 56, 57, 97, 98, 99, 100, 101, 102] c = digI c := by
  revert c
  apply all256
  decide +kernel
theorem dig_hd (n : Nat) (h : n < 16) : digI (hd n) = n := by
  have : ∀ n : Fin 16, digI (hd n) = (n : Nat) := by decide +kernel
  exact this ⟨n, h⟩
theorem hd_dig (c : UInt8) (h : 0 ≤ digI c) : hd (digI c).toNat = c := by
  revert h
  revert c
  apply all256
  decide +kernel
/-- Bytes of which these are the digits. -/
def unhexP : List UInt8 → Option (List UInt8)
  | [] => some []
  | [_] => none
  | a :: b :: r => if 0 ≤ digI a ∧ 0 ≤ digI b then (unhexP r).map (UInt8.ofNat (16 * digI a + digI b).toNat :: ·) else none
theorem unhex_hex : ∀ l : List UInt8, unhexP (hexL l) = some l
  | [] => rfl
  | c :: r => by
    have hc := c.toNat_lt
    have h1 := dig_hd (c.toNat / 16) (by omega)
    have h2 := dig_hd (c.toNat % 16) (by omega)
    simp only [hexL, unhexP, h1, h2, unhex_hex r]
    rw [if_pos ⟨by omega, by omega⟩]
    have : UInt8.ofNat (16 * ((c.toNat / 16 : Nat) : Int) + ((c.toNat % 16 : Nat) : Int)).toNat = c := by
      rw [show (16 * ((c.toNat / 16 : Nat) : Int) + ((c.toNat % 16 : Nat) : Int)).toNat = c.toNat by omega]
      simp
    rw [this]; rfl
theorem hex_unhex : ∀ (l y : List UInt8), unhexP l = some y → hexL y = l
  | [], y, h => by simp [unhexP] at h; subst h; rfl
  | [_], _, h => by simp [unhexP] at h
  | a :: b :: r, y, h => by
    simp only [unhexP] at h
    split at h
    · rename_i hab
      obtain ⟨z, hz, rfl⟩ := Option.map_eq_some_iff.1 h
      have ha := digI_bd a
      have hb := digI_bd b
      have h1 : (UInt8.ofNat (16 * digI a + digI b).toNat).toNat = (16 * digI a + digI b).toNat := by
        rw [UInt8.toNat_ofNat']; omega
      simp only [hexL, h1, hex_unhex r z hz]
      rw [show (16 * digI a + digI b).toNat / 16 = (digI a).toNat by omega, show (16 * digI a + digI b).toNat % 16 = (digI b).toNat by omega, hd_dig a hab.1, hd_dig b hab.2]
    · cases h
set_option maxHeartbeats 400000 in
theorem digit33 (c : UInt8) (w : World) :
    Calls Tryd.prog 33 #[.int .u8 (c.toNat : Int)] w fun e w' => e = .returned (.int .i64 (digI c)) ∧ w' = w := by
  have hc := c.toNat_lt
  unfold digI
  by_cases h1 : 48 ≤ c.toNat
  · by_cases h2 : c.toNat ≤ 57
    · rw [if_pos ⟨h1, h2⟩]
      have j1 : (48 : Int) ≤ c.toNat := by omega
      have j2 : (c.toNat : Int) ≤ 57 := by omega
      go_enter Tryd.func33, Tryd.ntmps33
      go_wp2_with fail
      go_ret
      exact ⟨rfl, rfl⟩
    · rw [if_neg (by omega)]
      by_cases h3 : 97 ≤ c.toNat
      · by_cases h4 : c.toNat ≤ 102
        · rw [if_pos ⟨h3, h4⟩]
          have j1 : (48 : Int) ≤ c.toNat := by omega
          have j2 : ¬ (c.toNat : Int) ≤ 57 := by omega
          have j3 : (97 : Int) ≤ c.toNat := by omega
          have j4 : (c.toNat : Int) ≤ 102 := by omega
          go_enter Tryd.func33, Tryd.ntmps33
          go_wp2_with fail
          go_ret
          exact ⟨rfl, rfl⟩
        · rw [if_neg (by omega)]
          have j1 : (48 : Int) ≤ c.toNat := by omega
          have j2 : ¬ (c.toNat : Int) ≤ 57 := by omega
          have j3 : (97 : Int) ≤ c.toNat := by omega
          have j4 : ¬ (c.toNat : Int) ≤ 102 := by omega
          go_enter Tryd.func33, Tryd.ntmps33
          go_wp2_with fail
          go_ret
          exact ⟨rfl, rfl⟩
      · rw [if_neg (by omega)]
        have j1 : (48 : Int) ≤ c.toNat := by omega
        have j2 : ¬ (c.toNat : Int) ≤ 57 := by omega
        have j3 : ¬ (97 : Int) ≤ c.toNat := by omega
        go_enter Tryd.func33, Tryd.ntmps33
        go_wp2_with fail
        go_ret
        exact ⟨rfl, rfl⟩
  · rw [if_neg (by omega), if_neg (by omega)]
    have j1 : ¬ (48 : Int) ≤ c.toNat := by omega
    have j3 : ¬ (97 : Int) ≤ c.toNat := by omega
    go_enter Tryd.func33, Tryd.ntmps33
    go_wp2_with fail
    go_ret
    exact ⟨rfl, rfl⟩
end Go.Proofs.YtfelkdghjbecpaaDoor
