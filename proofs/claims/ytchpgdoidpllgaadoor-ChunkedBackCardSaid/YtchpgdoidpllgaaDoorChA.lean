/- chunked's reference: crlf. -/
import Derived.Test.YtchpgdoidpllgaaDoorChN
import Derived.Test.YtchpgdoidpllgaaDoorDecH
import Derived.RegionTactic
import Derived.ChangeAlike
namespace Go.Proofs.YtchpgdoidpllgaaDoor
open Go.RowKit

theorem crlf_take2 {l : List UInt8} (h : l.take 2 = [13, 10]) (h2 : 2 ≤ l.length) : crlfL l = 2 := by
  match l, h2 with
  | a :: b :: t, _ =>
    injection h with h1 h2
    injection h2 with h2 _
    subst h1 h2
    rfl
theorem crlf_end1 {l : List UInt8} (h : l.take 1 = [13]) (h2 : l.length = 1) : crlfL l = 1 := by
  match l, h2 with
  | [a], _ =>
    injection h with h1 _
    subst h1
    rfl
theorem crlf_bad0 {l : List UInt8} (h0 : 0 < l.length) (h : l[0] ≠ 13) : crlfL l = -1 := by
  match l, h0, h with
  | [a], _, h => simp only [crlfL]; exact if_neg h
  | a :: b :: t, _, h => simp only [crlfL]; exact if_neg h
theorem crlf_bad1 {l : List UInt8} (h0 : 1 < l.length) (h : l[1] ≠ 10) : crlfL l = -1 := by
  match l, h0, h with
  | a :: b :: t, _, h =>
    simp only [crlfL]
    by_cases ha : a = 13
    · rw [if_pos ha]; exact if_neg h
    · rw [if_neg ha]
theorem take1_of {l : List UInt8} (h0 : 0 < l.length) (h : l[0] = 13) : l.take 1 = [13] := by
  match l, h0, h with
  | a :: t, _, h => simp at h; simp [h]
theorem take2_of {l : List UInt8} (h0 : 1 < l.length) (h : l.take 1 = [13]) (h1 : l[1] = 10) : l.take 2 = [13, 10] := by
  match l, h0, h, h1 with
  | a :: b :: t, _, h, h1 => simp at h h1; simp [h, h1]
set_option maxRecDepth 100000 in
set_option maxHeartbeats 2000000 in
theorem crlf18 (s : ByteArray) (hs : s.size ≤ 1000000) (w : World) :
    Calls Tryd.prog 18 #[.string s] w fun e w' => e = .returned (.int .i64 (crlfL s.data.toList)) ∧ Below w.heap.size w w' := by
  have hz := Lib.size_eq s
  obtain ⟨R, hR⟩ : ∃ R, R = crlfL s.data.toList := ⟨_, rfl⟩
  rw [← hR]
  have HR := Lib.hid hR
  have HZ := Lib.hid hz
  clear hR hz
  go_enter Tryd.func18, Tryd.ntmps18
  go_wp2_with fail
  go_loopw [3] (fun i wr => ∃ j : Nat, j ≤ 2 ∧ j ≤ s.size ∧ i = .int .i64 (j : Int) ∧ Hid (s.data.toList.take j = [13, 10].take j) ∧ Below w.heap.size w wr) (fun i _ => 2 - (intOf i).toNat)
  case atStart => exact ⟨0, by omega, Nat.zero_le _, rfl, rfl, Below.refl _ _⟩
  case round =>
    obtain ⟨j, hj, hjs, rfl, ht, hb⟩ := hrel
    by_cases h2 : j = 2
    · subst h2
      have hr : R = 2 := by rw [HR.out]; exact crlf_take2 ht.out (by rw [← HZ.out]; exact hjs)
      subst hr
      go_wp2_with fail
      go_ret
      exact ⟨rfl, hb⟩
    · by_cases he : j = s.size
      · have hr : R = j := by
          rw [HR.out]
          obtain rfl | rfl : j = 0 ∨ j = 1 := by omega
          · have : s.data.toList = [] := List.eq_nil_of_length_eq_zero (by rw [← HZ.out]; exact he.symm)
            rw [this]; rfl
          · exact crlf_end1 ht.out (by rw [← HZ.out]; exact he.symm)
        subst hr
        go_wp2_with fail
        go_ret
        exact ⟨rfl, hb⟩
      · have hlt : j < s.size := by omega
        have hll : j < s.data.toList.length := by rw [← HZ.out]; exact hlt
        obtain ⟨c, hc⟩ : ∃ c, c = s[j] := ⟨_, rfl⟩
        have hcl : s.data.toList[j] = c := by rw [hc]; rfl
        have hc8 := byte_lt c
        have hbs := hb.size
        obtain rfl | rfl : j = 0 ∨ j = 1 := by omega
        · by_cases h13 : c = 13
          · have HT := Lib.hid (take1_of hll (hcl.trans h13))
            subst h13
            have g2 : (0 : Int) < s.size := by omega
            have gx : s[0] = 13 := hc.symm
            clear hcl hc hc8
            go_wp2_with fail
            go_region
            go_wp2_with fail
            go_roundw
            case rel => exact ⟨1, by omega, by omega, rfl, HT.out, (hb.alloc hbs _).drew⟩
            case measure => simp [intOf]
          · have hr : R = -1 := by rw [HR.out]; exact crlf_bad0 hll (by rw [hcl]; exact h13)
            subst hr
            have g2 : (0 : Int) < s.size := by omega
            have gx : ((s[0].toNat : Int) != 13) = true := by
              rw [← hc]
              exact bne_iff_ne.2 (fun e => h13 (UInt8.toNat_inj.1 (by have : (13 : UInt8).toNat = 13 := rfl; omega)))
            clear hcl hc8
            go_wp2_with fail
            go_region
            go_wp2_with fail
            go_ret
            exact ⟨rfl, (hb.alloc hbs _).drew⟩
        · by_cases h13 : c = 10
          · have HT := Lib.hid (take2_of hll ht.out (hcl.trans h13))
            subst h13
            have g2 : (1 : Int) < s.size := by omega
            have gx : s[1] = 10 := hc.symm
            clear hcl hc hc8
            go_wp2_with fail
            go_region
            go_wp2_with fail
            go_roundw
            case rel => exact ⟨2, by omega, by omega, rfl, HT.out, (hb.alloc hbs _).drew⟩
            case measure => simp [intOf]
          · have hr : R = -1 := by rw [HR.out]; exact crlf_bad1 hll (by rw [hcl]; exact h13)
            subst hr
            have g2 : (1 : Int) < s.size := by omega
            have gx : ((s[1].toNat : Int) != 10) = true := by
              rw [← hc]
              exact bne_iff_ne.2 (fun e => h13 (UInt8.toNat_inj.1 (by have : (10 : UInt8).toNat = 10 := rfl; omega)))
            clear hcl hc8
            go_wp2_with fail
            go_region
            go_wp2_with fail
            go_ret
            exact ⟨rfl, (hb.alloc hbs _).drew⟩
end Go.Proofs.YtchpgdoidpllgaaDoor
