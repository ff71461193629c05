/- octet: all, Token, Target, Trim, Value. -/
import Derived.Test.YtchpgdoidpllgaaDoorOctB
import Derived.Shelf.Strings.SlTrimAscii
namespace Go.Proofs.YtchpgdoidpllgaaDoor
open Go.RowKit

set_option maxHeartbeats 1000000 in
theorem all57 (s : ByteArray) (hs : s.size ≤ 4611686018427387904) (k : Int) (p : UInt8 → Bool) (hp : ∀ c, (bits .and .i64 (clsI c) k == 0) = !p c) (w : World) :
    Calls Tryd.prog 39 #[.string s, .int .i64 k] w fun e w' => e = .returned (.bool (s.data.toList.all p)) ∧ w = w' := by
  have HP := Lib.hid hp
  clear hp
  obtain ⟨R, hR⟩ : ∃ R, R = s.data.toList.all p := ⟨_, rfl⟩
  rw [← hR]
  have HR := Lib.hid hR
  clear hR
  go_enter Tryd.func39, Tryd.ntmps39
  go_wp2_with fail
  go_loop [8] (fun i => ∃ j : Nat, j ≤ s.size ∧ i = .int .i64 j ∧ Hid ((s.data.toList.take j).all p = true)) (fun i => s.size - (intOf i).toNat)
  case atStart => exact ⟨0, Nat.zero_le _, rfl, by simp [Hid]⟩
  case round =>
    obtain ⟨j, hj, rfl, hr⟩ := hrel
    by_cases hlt : j < s.size
    · have hpc := HP.out s[j]
      obtain ⟨q, hq⟩ : ∃ q, q = p s[j] := ⟨_, rfl⟩
      rw [← hq] at hpc
      have HQ := Lib.hid hq
      clear hq
      cases q
      · have hno := Lib.hid (all_no s p j hlt HQ.out.symm)
        have hpc2 : (bits .and .i64 (clsI s[j]) k == 0) = true := hpc
        clear hpc
        go_wp2_with (go_at_call 46; refine (cls79 _ _).mono ?_; rintro e w' ⟨rfl, rfl⟩)
        go_ret
        exact ⟨by rw [HR.out, hno.out]; rfl, rfl⟩
      · have hst := Lib.hid (all_step s p j hlt hr.out HQ.out.symm)
        have hpc2 : (bits .and .i64 (clsI s[j]) k == 0) = false := hpc
        clear hpc
        go_wp2_with (go_at_call 46; refine (cls79 _ _).mono ?_; rintro e w' ⟨rfl, rfl⟩)
        go_round
        case rel => exact ⟨j + 1, by omega, by go_num, hst⟩
        case measure => simp [intOf]; omega
    · have hf := Lib.hid (all_full s p j hlt hr.out)
      go_wp2_with fail
      go_ret
      exact ⟨by rw [HR.out, hf.out]; rfl, rfl⟩

theorem all_true (s : ByteArray) (hs : s.size ≤ 4611686018427387904) (k : Int) (p : UInt8 → Bool) (hp : ∀ c, (bits .and .i64 (clsI c) k == 0) = !p c) (b : Bool) (h : s.data.toList.all p = b) (w : World) :
    Calls Tryd.prog 39 #[.string s, .int .i64 k] w fun e w' => e = .returned (.bool b) ∧ w = w' := by
  subst h; exact all57 s hs k p hp w

theorem prefix_slash (l : List UInt8) : Lib.hasPrefix l [47] = decide (l.head? = some 47) := by
  cases l with
  | nil => rfl
  | cons a r =>
    have : Lib.hasPrefix (a :: r) [47] = true ↔ a = 47 := by
      unfold Lib.hasPrefix
      rw [List.isPrefixOf_iff_prefix, List.cons_prefix_cons]
      exact ⟨fun h => h.1.symm, fun h => ⟨h.symm, List.nil_prefix⟩⟩
    by_cases h : a = 47
    · rw [this.2 h]; simp [h]
    · have h2 : ¬ Lib.hasPrefix (a :: r) [47] = true := fun e => h (this.1 e)
      simp only [Bool.not_eq_true] at h2
      rw [h2]; simp [h]
theorem bytes_beq (a b : ByteArray) : (a.toList == b.toList) = decide (a.data.toList = b.data.toList) := by
  rw [ByteArray.toList_eq, ByteArray.toList_eq]
  by_cases h : a.data.toList = b.data.toList
  · rw [decide_eq_true h, h]; simp
  · rw [decide_eq_false h]; simp only [beq_eq_false_iff_ne, ne_eq]; exact h

end Go.Proofs.YtchpgdoidpllgaaDoor
