/- The reference of octet: letter, digit, blank, In, Token, Target. -/
import Derived.Test.YtkajfocjpaemgaaDoorOctC
namespace Go.Proofs.YtkajfocjpaemgaaDoor
open Go.RowKit

set_option maxHeartbeats 400000 in
theorem letter58 (c : UInt8) (r : Bool) (hr : isAZ c = r) (w : World) :
    Calls Tryd.prog 42 #[.int .u8 (c.toNat : Int)] w fun e w' => e = .returned (.bool r) ∧ w = w' := by
  have hc := byte_lt c
  have H : (c.toNat < 65 ∧ r = false) ∨ (65 ≤ c.toNat ∧ c.toNat ≤ 90 ∧ r = true) ∨ (90 < c.toNat ∧ c.toNat < 97 ∧ r = false) ∨ (97 ≤ c.toNat ∧ c.toNat ≤ 122 ∧ r = true) ∨ (122 < c.toNat ∧ r = false) := by
    rw [← hr]; clear hc hr r w; revert c; apply all256; decide +kernel
  clear hr
  rcases H with ⟨h1, rfl⟩ | ⟨h1, h2, rfl⟩ | ⟨h1, h2, rfl⟩ | ⟨h1, h2, rfl⟩ | ⟨h1, rfl⟩
  · have : ¬ (c.toNat : Int) ≥ 65 := by omega
    have : ¬ (c.toNat : Int) ≥ 97 := by omega
    go_enter Tryd.func42, Tryd.ntmps42
    go_wp2_with fail
    go_ret
    exact ⟨rfl, rfl⟩
  · have : (c.toNat : Int) ≥ 65 := by omega
    have : (c.toNat : Int) ≤ 90 := by omega
    go_enter Tryd.func42, Tryd.ntmps42
    go_wp2_with fail
    go_ret
    exact ⟨rfl, rfl⟩
  · have : (c.toNat : Int) ≥ 65 := by omega
    have : ¬ (c.toNat : Int) ≤ 90 := by omega
    have : ¬ (c.toNat : Int) ≥ 97 := by omega
    go_enter Tryd.func42, Tryd.ntmps42
    go_wp2_with fail
    go_ret
    exact ⟨rfl, rfl⟩
  · have : (c.toNat : Int) ≥ 65 := by omega
    have : ¬ (c.toNat : Int) ≤ 90 := by omega
    have : (c.toNat : Int) ≥ 97 := by omega
    have : (c.toNat : Int) ≤ 122 := by omega
    go_enter Tryd.func42, Tryd.ntmps42
    go_wp2_with fail
    go_ret
    exact ⟨rfl, rfl⟩
  · have : (c.toNat : Int) ≥ 65 := by omega
    have : ¬ (c.toNat : Int) ≤ 90 := by omega
    have : (c.toNat : Int) ≥ 97 := by omega
    have : ¬ (c.toNat : Int) ≤ 122 := by omega
    go_enter Tryd.func42, Tryd.ntmps42
    go_wp2_with fail
    go_ret
    exact ⟨rfl, rfl⟩
set_option maxHeartbeats 400000 in
theorem digit59 (c : UInt8) (r : Bool) (hr : isDec c = r) (w : World) :
    Calls Tryd.prog 43 #[.int .u8 (c.toNat : Int)] w fun e w' => e = .returned (.bool r) ∧ w = w' := by
  have hc := byte_lt c
  have H : (c.toNat < 48 ∧ r = false) ∨ (48 ≤ c.toNat ∧ c.toNat ≤ 57 ∧ r = true) ∨ (57 < c.toNat ∧ r = false) := by
    rw [← hr]; clear hc hr r w; revert c; apply all256; decide +kernel
  clear hr
  rcases H with ⟨h1, rfl⟩ | ⟨h1, h2, rfl⟩ | ⟨h1, rfl⟩
  · have : ¬ (c.toNat : Int) ≥ 48 := by omega
    go_enter Tryd.func43, Tryd.ntmps43
    go_wp2_with fail
    go_ret
    exact ⟨rfl, rfl⟩
  · have : (c.toNat : Int) ≥ 48 := by omega
    have : (c.toNat : Int) ≤ 57 := by omega
    go_enter Tryd.func43, Tryd.ntmps43
    go_wp2_with fail
    go_ret
    exact ⟨rfl, rfl⟩
  · have : (c.toNat : Int) ≥ 48 := by omega
    have : ¬ (c.toNat : Int) ≤ 57 := by omega
    go_enter Tryd.func43, Tryd.ntmps43
    go_wp2_with fail
    go_ret
    exact ⟨rfl, rfl⟩
set_option maxHeartbeats 400000 in
theorem blank62 (c : UInt8) (r : Bool) (hr : isBlk c = r) (w : World) :
    Calls Tryd.prog 50 #[.int .u8 (c.toNat : Int)] w fun e w' => e = .returned (.bool r) ∧ w = w' := by
  have hc := byte_lt c
  have H : (((c.toNat : Int) == 32) = true ∧ r = true) ∨ (((c.toNat : Int) == 32) = false ∧ ((c.toNat : Int) == 9) = true ∧ r = true) ∨ (((c.toNat : Int) == 32) = false ∧ ((c.toNat : Int) == 9) = false ∧ r = false) := by
    rw [← hr]; clear hc hr r w; revert c; apply all256; decide +kernel
  clear hr
  rcases H with ⟨h1, rfl⟩ | ⟨h1, h2, rfl⟩ | ⟨h1, h2, rfl⟩
  all_goals
    go_enter Tryd.func50, Tryd.ntmps50
    go_wp2_with fail
    go_ret
    exact ⟨rfl, rfl⟩
theorem byte_eq (c d : UInt8) : ((c.toNat : Int) == (d.toNat : Int)) = (c == d) := by
  by_cases h : c = d
  · subst h; simp
  · have : ¬ (c.toNat : Int) = (d.toNat : Int) := fun e => h (UInt8.toNat_inj.1 (by omega))
    rw [beq_eq_false_iff_ne.2 this, beq_eq_false_iff_ne.2 h]
theorem contains_take_no {s : ByteArray} {b : UInt8} {j : Nat} (hj : j < s.size) (h : (s.data.toList.take j).contains b = false) (hb : (s[j] == b) = false) : (s.data.toList.take (j + 1)).contains b = false := by
  rw [take_snoc s j hj]
  have h' : ¬ b ∈ s.data.toList.take j := fun hm => by rw [List.contains_iff_mem.2 hm] at h; cases h
  rw [Bool.eq_false_iff]
  intro hc
  have hc' := List.contains_iff_mem.1 hc
  rw [List.mem_append] at hc'
  rcases hc' with hc' | hc'
  · exact h' hc'
  · rw [List.mem_singleton] at hc'
    exact (beq_eq_false_iff_ne.1 hb) hc'.symm
theorem contains_yes {s : ByteArray} {b : UInt8} {j : Nat} (hj : j < s.size) (hb : (s[j] == b) = true) : s.data.toList.contains b = true := by
  have : s[j] = b := by simpa using hb
  rw [List.contains_iff_mem, ← this]
  exact List.mem_of_getElem? (toList_get s j hj)
set_option maxHeartbeats 400000 in
theorem in60 (s : ByteArray) (hs : s.size ≤ 4611686018427387904) (b : UInt8) (R : Bool) (hR : s.data.toList.contains b = R) (w : World) :
    Calls Tryd.prog 44 #[.string s, .int .u8 (b.toNat : Int)] w fun e w' => e = .returned (.bool R) ∧ w = w' := by
  have HR := Lib.hid hR
  clear hR
  go_enter Tryd.func44, Tryd.ntmps44
  go_wp2_with fail
  go_loop [5] (fun i => ∃ j : Nat, j ≤ s.size ∧ i = .int .i64 j ∧ Hid ((s.data.toList.take j).contains b = false)) (fun i => s.size - (intOf i).toNat)
  case atStart => exact ⟨0, Nat.zero_le _, rfl, by simp [Hid]⟩
  case round =>
    obtain ⟨j, hj, rfl, hr⟩ := hrel
    by_cases hlt : j < s.size
    · by_cases hq : (s[j] == b) = true
      · have hy := Lib.hid (contains_yes hlt hq)
        have ht : ((s[j].toNat : Int) == (b.toNat : Int)) = true := by rw [byte_eq]; exact hq
        clear hq
        go_wp2_with fail
        go_ret
        exact ⟨by rw [← HR.out, hy.out]; rfl, rfl⟩
      · have hq' : (s[j] == b) = false := by simpa using hq
        have hst := Lib.hid (contains_take_no hlt hr.out hq')
        have ht : ((s[j].toNat : Int) == (b.toNat : Int)) = false := by rw [byte_eq]; exact hq'
        clear hq hq'
        go_wp2_with fail
        go_round
        case rel => exact ⟨j + 1, by omega, by go_num, hst⟩
        case measure => simp [intOf]; omega
    · have h1 := hr.out
      have h2 := Lib.size_eq s
      rw [List.take_of_length_le (by omega)] at h1
      have H1 := Lib.hid h1
      clear h1 h2
      go_wp2_with fail
      go_ret
      exact ⟨by rw [← HR.out, H1.out]; rfl, rfl⟩
theorem marks60 (c : UInt8) (r : Bool) (hr : marksL.contains c = r) (w : World) : Calls Tryd.prog 44 #[.string ⟨#[33, 35, 36, 37, 38, 39, 42, 43, 45, 46, 94, 95, 96, 124, 126]⟩, .int .u8 (c.toNat : Int)] w fun e w' => e = .returned (.bool r) ∧ w = w' :=
  in60 ⟨#[33, 35, 36, 37, 38, 39, 42, 43, 45, 46, 94, 95, 96, 124, 126]⟩ (by decide) c r hr w

set_option maxRecDepth 100000 in
set_option maxHeartbeats 1000000 in
theorem token15 (s : ByteArray) (hs : s.size ≤ 4611686018427387904) (R : Bool) (hR : tokB s.data.toList = R) (w : World) :
    Calls Tryd.prog 29 #[.string s] w fun e w' => e = .returned (.bool R) ∧ w = w' := by
  have HR := Lib.hid hR
  clear hR
  go_enter Tryd.func29, Tryd.ntmps29
  go_wp2_with fail
  go_loop [3] (fun i => ∃ j : Nat, j ≤ s.size ∧ i = .int .i64 j ∧ Hid ((s.data.toList.take j).all isTok = true)) (fun i => s.size - (intOf i).toNat)
  case atStart => exact ⟨0, Nat.zero_le _, rfl, by simp [Hid]⟩
  case round =>
    obtain ⟨j, hj, rfl, hr⟩ := hrel
    by_cases hlt : j < s.size
    · obtain ⟨q1, h1⟩ : ∃ q, isAZ s[j] = q := ⟨_, rfl⟩
      obtain ⟨q2, h2⟩ : ∃ q, isDec s[j] = q := ⟨_, rfl⟩
      obtain ⟨q3, h3⟩ : ∃ q, marksL.contains s[j] = q := ⟨_, rfl⟩
      have ht : isTok s[j] = (q2 || q1 || q3) := by unfold isTok; rw [h1, h2, h3]
      have C1 := Lib.hid (letter58 s[j] q1 h1)
      have C2 := Lib.hid (digit59 s[j] q2 h2)
      have C3 := Lib.hid (marks60 s[j] q3 h3)
      clear h1 h2 h3
      by_cases hq : (q2 || q1 || q3) = true
      · have hst := Lib.hid (all_step s isTok j hlt hr.out (ht.trans hq))
        clear ht
        have hc : (q1 = true) ∨ (q1 = false ∧ q2 = true) ∨ (q1 = false ∧ q2 = false ∧ q3 = true) := by
          clear C1 C2 C3; revert hq; cases q1 <;> cases q2 <;> cases q3 <;> decide
        clear hq
        rcases hc with rfl | ⟨rfl, rfl⟩ | ⟨rfl, rfl, rfl⟩
        all_goals
          go_wp2_with (first | (go_at_call 42; refine (C1.out _).mono ?_; rintro e w' ⟨rfl, rfl⟩) | (go_at_call 43; refine (C2.out _).mono ?_; rintro e w' ⟨rfl, rfl⟩) | (go_at_call 44; refine (C3.out _).mono ?_; rintro e w' ⟨rfl, rfl⟩))
          go_round
          case rel => exact ⟨j + 1, by omega, by go_num, hst⟩
          case measure => simp [intOf]; omega
      · have hno := all_no s isTok j hlt (ht.trans (by simpa using hq))
        have HN : Hid (R = false) := by have e := HR.out; unfold tokB at e; rw [hno, Bool.and_false] at e; exact e.symm
        obtain ⟨rfl, rfl, rfl⟩ : q1 = false ∧ q2 = false ∧ q3 = false := by
          clear C1 C2 C3 ht; revert hq; cases q1 <;> cases q2 <;> cases q3 <;> decide
        clear hno ht hq
        go_wp2_with (first | (go_at_call 42; refine (C1.out _).mono ?_; rintro e w' ⟨rfl, rfl⟩) | (go_at_call 43; refine (C2.out _).mono ?_; rintro e w' ⟨rfl, rfl⟩) | (go_at_call 44; refine (C3.out _).mono ?_; rintro e w' ⟨rfl, rfl⟩))
        go_ret
        exact ⟨by rw [HN.out]; rfl, rfl⟩
    · have hf := all_full s isTok j hlt hr.out
      have hl := Lib.size_eq s
      have HN : Hid (R = (decide (1 ≤ s.size) && decide (s.size ≤ 64))) := by
        have e := HR.out; unfold tokB at e; rw [hf, Bool.and_true, ← hl] at e; exact e.symm
      clear hf hl
      by_cases h1 : 1 ≤ s.size
      · by_cases h2 : s.size ≤ 64
        · have : (s.size : Int) ≥ 1 := by omega
          have : (s.size : Int) ≤ 64 := by omega
          go_wp2_with fail
          go_ret
          exact ⟨by rw [HN.out, decide_eq_true h1, decide_eq_true h2]; rfl, rfl⟩
        · have : (s.size : Int) ≥ 1 := by omega
          have : ¬ (s.size : Int) ≤ 64 := by omega
          go_wp2_with fail
          go_ret
          exact ⟨by rw [HN.out, decide_eq_false h2, Bool.and_false]; rfl, rfl⟩
      · have : ¬ (s.size : Int) ≥ 1 := by omega
        go_wp2_with fail
        go_ret
        exact ⟨by rw [HN.out, decide_eq_false h1, Bool.false_and]; rfl, rfl⟩

set_option maxRecDepth 100000 in
set_option maxHeartbeats 1000000 in
theorem target17 (s : ByteArray) (hs : s.size ≤ 4611686018427387904) (R : Bool) (hR : tgtB s.data.toList = R) (w : World) :
    Calls Tryd.prog 30 #[.string s] w fun e w' => e = .returned (.bool R) ∧ w = w' := by
  have HR := Lib.hid hR
  clear hR
  go_enter Tryd.func30, Tryd.ntmps30
  go_wp2_with fail
  go_loop [3] (fun i => ∃ j : Nat, j ≤ s.size ∧ i = .int .i64 j ∧ Hid ((s.data.toList.take j).all isVis = true)) (fun i => s.size - (intOf i).toNat)
  case atStart => exact ⟨0, Nat.zero_le _, rfl, by simp [Hid]⟩
  case round =>
    obtain ⟨j, hj, rfl, hr⟩ := hrel
    by_cases hlt : j < s.size
    · have ht : isVis s[j] = (decide (33 ≤ s[j].toNat) && decide (s[j].toNat ≤ 126)) := rfl
      by_cases h1 : 33 ≤ s[j].toNat
      · by_cases h2 : s[j].toNat ≤ 126
        · have hst := Lib.hid (all_step s isVis j hlt hr.out (by rw [ht, decide_eq_true h1, decide_eq_true h2]; rfl))
          have : ¬ (s[j].toNat : Int) < 33 := by omega
          have : ¬ (s[j].toNat : Int) > 126 := by omega
          clear ht
          go_wp2_with fail
          go_round
          case rel => exact ⟨j + 1, by omega, by go_num, hst⟩
          case measure => simp [intOf]; omega
        · have hno := all_no s isVis j hlt (by rw [ht, decide_eq_false h2, Bool.and_false])
          have HN : Hid (R = false) := by have e := HR.out; unfold tgtB at e; rw [hno, Bool.and_false] at e; exact e.symm
          have : ¬ (s[j].toNat : Int) < 33 := by omega
          have : (s[j].toNat : Int) > 126 := by omega
          clear ht hno
          go_wp2_with fail
          go_ret
          exact ⟨by rw [HN.out]; rfl, rfl⟩
      · have hno := all_no s isVis j hlt (by rw [ht, decide_eq_false h1, Bool.false_and])
        have HN : Hid (R = false) := by have e := HR.out; unfold tgtB at e; rw [hno, Bool.and_false] at e; exact e.symm
        have : (s[j].toNat : Int) < 33 := by omega
        clear ht hno
        go_wp2_with fail
        go_ret
        exact ⟨by rw [HN.out]; rfl, rfl⟩
    · have hf := all_full s isVis j hlt hr.out
      have HN : Hid (R = decide (s.data.toList.head? = some 47)) := by
        have e := HR.out; unfold tgtB at e; rw [hf, Bool.and_true] at e; exact e.symm
      clear hf
      by_cases h1 : 1 ≤ s.size
      · have : (s.size : Int) ≥ 1 := by omega
        have h0 : 0 < s.size := by omega
        have hh : s.data.toList.head? = some s[0] := by rw [List.head?_eq_getElem?]; exact toList_get s 0 h0
        by_cases hq : s[0] = 47
        · have H2 : Hid (R = true) := by
            have e := HN.out
            rw [hh, hq] at e
            exact e.trans rfl
          have : ((s[0].toNat : Int) == 47) = true := by rw [hq]; rfl
          clear hq hh HN
          go_wp2_with fail
          go_ret
          exact ⟨by rw [H2.out]; rfl, rfl⟩
        · have H2 : Hid (R = false) := by
            have e := HN.out
            rw [hh] at e
            exact e.trans (decide_eq_false (fun e => hq (Option.some.inj e)))
          have : ((s[0].toNat : Int) == 47) = false := by
            have := byte_eq s[0] 47
            have e47 : ((47 : UInt8).toNat : Int) = 47 := rfl
            rw [e47] at this
            rw [this]; simpa using hq
          clear hq hh HN
          go_wp2_with fail
          go_ret
          exact ⟨by rw [H2.out]; rfl, rfl⟩
      · have : ¬ (s.size : Int) ≥ 1 := by omega
        have hl := Lib.size_eq s
        have hnil : s.data.toList = [] := List.eq_nil_of_length_eq_zero (by omega)
        have H2 : Hid (R = false) := by
          have e := HN.out
          rw [hnil] at e
          exact e.trans rfl
        clear HN hl hnil
        go_wp2_with fail
        go_ret
        exact ⟨by rw [H2.out]; rfl, rfl⟩
end Go.Proofs.YtkajfocjpaemgaaDoor
