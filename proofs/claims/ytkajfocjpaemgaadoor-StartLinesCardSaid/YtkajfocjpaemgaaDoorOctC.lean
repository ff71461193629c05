/- octet: all, Token, Target, Trim, Value. -/
import Derived.Test.YtkajfocjpaemgaaDoorOctB
import Derived.Shelf.Strings.SlTrimAscii
namespace Go.Proofs.YtkajfocjpaemgaaDoor
open Go.RowKit

set_option maxHeartbeats 1000000 in
theorem all57 (s : ByteArray) (hs : s.size ≤ 4611686018427387904) (k : Int) (p : UInt8 → Bool) (hp : ∀ c, (bits .and .i64 (clsI c) k == 0) = !p c) (w : World) :
    Calls Tryd.prog 45 #[.string s, .int .i64 k] w fun e w' => e = .returned (.bool (s.data.toList.all p)) ∧ w = w' := by
  have HP := Lib.hid hp
  clear hp
  obtain ⟨R, hR⟩ : ∃ R, R = s.data.toList.all p := ⟨_, rfl⟩
  rw [← hR]
  have HR := Lib.hid hR
  clear hR
  go_enter Tryd.func45, Tryd.ntmps45
  go_wp2_with fail
  go_loop [8] (fun i => ∃ j : Nat, j ≤ s.size ∧ i = .int .i64 j ∧ Hid ((s.data.toList.take j).all p = true)) (fun i => s.size - (intOf i).toNat)
  case atStart => exact ⟨0, Nat.zero_le _, rfl, by simp [Hid]⟩
  case round =>
    obtain ⟨j, hj, rfl, hr⟩ := hrel
    by_cases hlt : j < s.size
    · have hpc := HP.out s[j]
      obtain ⟨q, hq⟩ : ∃ q, q = p s[j] := ⟨_, rfl⟩
      rw [← hq] at hpc
      have HQ := Lib.hid hq
      clear hq
      cases q
      · have hno := Lib.hid (all_no s p j hlt HQ.out.symm)
        have hpc2 : (bits .and .i64 (clsI s[j]) k == 0) = true := hpc
        clear hpc
        go_wp2_with (go_at_call 54; refine (cls79 _ _).mono ?_; rintro e w' ⟨rfl, rfl⟩)
        go_ret
        exact ⟨by rw [HR.out, hno.out]; rfl, rfl⟩
      · have hst := Lib.hid (all_step s p j hlt hr.out HQ.out.symm)
        have hpc2 : (bits .and .i64 (clsI s[j]) k == 0) = false := hpc
        clear hpc
        go_wp2_with (go_at_call 54; refine (cls79 _ _).mono ?_; rintro e w' ⟨rfl, rfl⟩)
        go_round
        case rel => exact ⟨j + 1, by omega, by go_num, hst⟩
        case measure => simp [intOf]; omega
    · have hf := Lib.hid (all_full s p j hlt hr.out)
      go_wp2_with fail
      go_ret
      exact ⟨by rw [HR.out, hf.out]; rfl, rfl⟩

theorem all_true (s : ByteArray) (hs : s.size ≤ 4611686018427387904) (k : Int) (p : UInt8 → Bool) (hp : ∀ c, (bits .and .i64 (clsI c) k == 0) = !p c) (b : Bool) (h : s.data.toList.all p = b) (w : World) :
    Calls Tryd.prog 45 #[.string s, .int .i64 k] w fun e w' => e = .returned (.bool b) ∧ w = w' := by
  subst h; exact all57 s hs k p hp w

set_option maxHeartbeats 400000 in
theorem token14 (s : ByteArray) (hs : s.size ≤ 4611686018427387904) (w : World) :
    Calls Tryd.prog 31 #[.string s] w fun e w' => e = .returned (.bool (tokB s.data.toList)) ∧ w = w' := by
  unfold tokB
  have hl := Lib.size_eq s
  have HA := Lib.hid (all57 s hs 4 isTok cls_tok)
  generalize s.data.toList.all isTok = q at *
  by_cases h1 : 1 ≤ s.size
  · by_cases h2 : s.size ≤ 64
    · have hv : (decide (1 ≤ s.data.toList.length) && decide (s.data.toList.length ≤ 64) && q) = q := by
        rw [decide_eq_true (by omega), decide_eq_true (by omega)]; rfl
      rw [hv]
      have j1 : (1 : Int) ≤ s.size := by omega
      have j2 : (s.size : Int) ≤ 64 := by omega
      clear hv hl
      go_enter Tryd.func31, Tryd.ntmps31
      go_wp2_with (go_at_call 45; refine (HA.out _).mono ?_; rintro e w' ⟨rfl, rfl⟩)
      go_ret
      exact ⟨rfl, rfl⟩
    · have hv : (decide (1 ≤ s.data.toList.length) && decide (s.data.toList.length ≤ 64) && q) = false := by
        rw [decide_eq_false (p := s.data.toList.length ≤ 64) (by omega)]; simp
      rw [hv]
      have j1 : (1 : Int) ≤ s.size := by omega
      have j2 : ¬ (s.size : Int) ≤ 64 := by omega
      clear hv hl
      go_enter Tryd.func31, Tryd.ntmps31
      go_wp2_with fail
      go_ret
      exact ⟨rfl, rfl⟩
  · have hv : (decide (1 ≤ s.data.toList.length) && decide (s.data.toList.length ≤ 64) && q) = false := by
      rw [decide_eq_false (p := 1 ≤ s.data.toList.length) (by omega)]; simp
    rw [hv]
    have j1 : ¬ (1 : Int) ≤ s.size := by omega
    clear hv hl
    go_enter Tryd.func31, Tryd.ntmps31
    go_wp2_with fail
    go_ret
    exact ⟨rfl, rfl⟩

theorem prefix_slash (l : List UInt8) : Lib.hasPrefix l [47] = decide (l.head? = some 47) := by
  cases l with
  | nil => rfl
  | cons a r =>
    have : Lib.hasPrefix (a :: r) [47] = true ↔ a = 47 := by
      unfold Lib.hasPrefix
      rw [List.isPrefixOf_iff_prefix, List.cons_prefix_cons]
      exact ⟨fun h => h.1.symm, fun h => ⟨h.symm, List.nil_prefix⟩⟩
    by_cases h : a = 47
    · rw [this.2 h]; simp [h]
    · have h2 : ¬ Lib.hasPrefix (a :: r) [47] = true := fun e => h (this.1 e)
      simp only [Bool.not_eq_true] at h2
      rw [h2]; simp [h]
theorem slash61 (s : ByteArray) (b : Bool) (h : decide (s.data.toList.head? = some 47) = b) (w : World) :
    Calls Tryd.prog 46 #[.string s, .string ⟨#[47]⟩] w fun e w' => e = .returned (.bool b) ∧ w = w' := by
  refine (Tryd.strings_HasPrefix s ⟨#[47]⟩ w).mono fun e w' ⟨he, hw⟩ => ⟨?_, hw.symm⟩
  rw [he, ← h]
  have := prefix_slash s.data.toList
  rw [← this]

set_option maxHeartbeats 400000 in
theorem target16 (s : ByteArray) (hs : s.size ≤ 4611686018427387904) (w : World) :
    Calls Tryd.prog 32 #[.string s] w fun e w' => e = .returned (.bool (tgtB s.data.toList)) ∧ w = w' := by
  unfold tgtB
  have HA := Lib.hid (all57 s hs 8 isVis cls_vis)
  generalize s.data.toList.all isVis = q at *
  obtain ⟨b, hb⟩ : ∃ b, decide (s.data.toList.head? = some 47) = b := ⟨_, rfl⟩
  have HB := Lib.hid (slash61 s b hb)
  rw [hb]
  clear hb
  cases b
  · rw [Bool.false_and]
    go_enter Tryd.func32, Tryd.ntmps32
    go_wp2_with (go_at_call 46; refine (HB.out _).mono ?_; rintro e w' ⟨rfl, rfl⟩)
    go_ret
    exact ⟨rfl, rfl⟩
  · rw [Bool.true_and]
    go_enter Tryd.func32, Tryd.ntmps32
    go_wp2_with (first | (go_at_call 46; refine (HB.out _).mono ?_; rintro e w' ⟨rfl, rfl⟩) | (go_at_call 45; refine (HA.out _).mono ?_; rintro e w' ⟨rfl, rfl⟩))
    go_ret
    exact ⟨rfl, rfl⟩

set_option maxHeartbeats 400000 in
theorem trim23 (s : ByteArray) (hs : s.size ≤ 4611686018427387904) (w : World) :
    Calls Tryd.prog 49 #[.string s] w fun e w' => e = .returned (.string ⟨(trimB s.data.toList).toArray⟩) ∧ Below w.heap.size w w' := by
  have hcon := Any.strings_Trim_laid Tryd.lays160 (by kernel_rfl) s ⟨#[32, 9]⟩ w (by omega) (by decide) (ascii_of_all (by decide))
  have HC := Lib.hid hcon
  clear hcon
  go_enter Tryd.func49, Tryd.ntmps49
  go_wp2_with fail
  refine HC.out.mono ?_
  rintro e w1 ⟨rfl, hb⟩
  go_wp2_with fail
  go_ret
  exact ⟨rfl, hb⟩
theorem bytes_beq (a b : ByteArray) : (a.toList == b.toList) = decide (a.data.toList = b.data.toList) := by
  rw [ByteArray.toList_eq, ByteArray.toList_eq]
  by_cases h : a.data.toList = b.data.toList
  · rw [decide_eq_true h, h]; simp
  · rw [decide_eq_false h]; simp only [beq_eq_false_iff_ne, ne_eq]; exact h

set_option maxHeartbeats 400000 in
theorem value18 (s : ByteArray) (hs : s.size ≤ 4611686018427387904) (w : World) :
    Calls Tryd.prog 35 #[.string s] w fun e w' => e = .returned (.bool (valB s.data.toList)) ∧ Below w.heap.size w w' := by
  unfold valB
  have HA := Lib.hid (all57 s hs 16 isVal cls_val)
  generalize s.data.toList.all isVal = q at *
  have HT := Lib.hid (trim23 s hs w)
  have hq : ((⟨(trimB s.data.toList).toArray⟩ : ByteArray).toList == s.toList) = decide (trimB s.data.toList = s.data.toList) := bytes_beq _ _
  obtain ⟨t, ht⟩ : ∃ t : ByteArray, t = ⟨(trimB s.data.toList).toArray⟩ := ⟨_, rfl⟩
  obtain ⟨b, hb⟩ : ∃ b, b = decide (trimB s.data.toList = s.data.toList) := ⟨_, rfl⟩
  rw [← ht, ← hb] at hq
  rw [← ht] at HT
  rw [← hb]
  clear ht hb
  cases b
  · rw [Bool.false_and]
    go_enter Tryd.func35, Tryd.ntmps35
    go_wp2_with fail
    refine HT.out.mono ?_
    rintro e w1 ⟨rfl, hb⟩
    go_wp2_with fail
    go_ret
    exact ⟨rfl, hb⟩
  · rw [Bool.true_and]
    go_enter Tryd.func35, Tryd.ntmps35
    go_wp2_with fail
    refine HT.out.mono ?_
    rintro e w1 ⟨rfl, hb⟩
    go_wp2_with (go_at_call 45; refine (HA.out _).mono ?_; rintro e w' ⟨rfl, rfl⟩)
    go_ret
    exact ⟨rfl, hb⟩
end Go.Proofs.YtkajfocjpaemgaaDoor
