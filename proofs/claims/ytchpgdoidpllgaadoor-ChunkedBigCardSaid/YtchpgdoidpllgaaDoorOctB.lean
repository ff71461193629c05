/- octet: lower, classesOf, all. -/
import Derived.Test.YtchpgdoidpllgaaDoorOctM
import Derived.Test.YtchpgdoidpllgaaDoorShelf
namespace Go.Proofs.YtchpgdoidpllgaaDoor
open Go.RowKit

theorem mark_ix (c : UInt8) (i : Int) (hi : Lib.indexByte marksL c = i) (w : World) : Calls Tryd.prog 50 #[.string ⟨#[33, 35, 36, 37, 38, 39, 42, 43, 45, 46, 94, 95, 96, 124, 126]⟩, .int .u8 (c.toNat : Int)] w fun e w' => e = .returned (.int .i64 i) ∧ w = w' := by
  have h := Tryd.strings_IndexByte ⟨#[33, 35, 36, 37, 38, 39, 42, 43, 45, 46, 94, 95, 96, 124, 126]⟩ (c.toNat : Int) w
  have e : ((c.toNat : Int)).toNat.toUInt8 = c := by simp
  rw [e] at h
  exact h.mono fun _ _ ⟨x, y⟩ => ⟨x.trans (by rw [← hi]; rfl), y.symm⟩
theorem blank_ix (c : UInt8) (i : Int) (hi : Lib.indexByte [32, 9] c = i) (w : World) : Calls Tryd.prog 50 #[.string ⟨#[32, 9]⟩, .int .u8 (c.toNat : Int)] w fun e w' => e = .returned (.int .i64 i) ∧ w = w' := by
  have h := Tryd.strings_IndexByte ⟨#[32, 9]⟩ (c.toNat : Int) w
  have e : ((c.toNat : Int)).toNat.toUInt8 = c := by simp
  rw [e] at h
  exact h.mono fun _ _ ⟨x, y⟩ => ⟨x.trans (by rw [← hi]), y.symm⟩

set_option maxRecDepth 100000 in
set_option maxHeartbeats 4000000 in
theorem cls79 (c : UInt8) (w : World) :
    Calls Tryd.prog 46 #[.int .u8 (c.toNat : Int)] w fun e w' => e = .returned (.int .i64 (clsI c)) ∧ w = w' := by
  have hc := byte_lt c
  obtain ⟨r, hr⟩ : ∃ r, r = clsI c := ⟨_, rfl⟩
  rw [← hr]
  obtain ⟨i, hi⟩ : ∃ i, Lib.indexByte marksL c = i := ⟨_, rfl⟩
  obtain ⟨k, hk⟩ : ∃ k, Lib.indexByte [32, 9] c = k := ⟨_, rfl⟩
  have H : (48 ≤ c.toNat ∧ c.toNat ≤ 57 ∧ r = 31) ∨ (97 ≤ c.toNat ∧ c.toNat ≤ 102 ∧ r = 30) ∨ (65 ≤ c.toNat ∧ c.toNat ≤ 70 ∧ r = 30) ∨ (103 ≤ c.toNat ∧ c.toNat ≤ 122 ∧ r = 28) ∨ (71 ≤ c.toNat ∧ c.toNat ≤ 90 ∧ r = 28)
     ∨ ((c.toNat < 48 ∨ (57 < c.toNat ∧ c.toNat < 65) ∨ (90 < c.toNat ∧ c.toNat < 97) ∨ 122 < c.toNat) ∧ ((0 ≤ i ∧ r = 28) ∨ (i < 0 ∧ 33 ≤ c.toNat ∧ c.toNat ≤ 126 ∧ r = 24) ∨ (i < 0 ∧ (c.toNat < 33 ∨ 126 < c.toNat) ∧ 0 ≤ k ∧ r = 16) ∨ (i < 0 ∧ (c.toNat < 33 ∨ 126 < c.toNat) ∧ k < 0 ∧ r = 0))) := by
    rw [hr, ← hi, ← hk]; clear hc hr hi hk i k r w; revert c; apply all256; decide +kernel
  clear hr
  have HI := Lib.hid hi
  have HK := Lib.hid hk
  clear hi hk
  rcases H with ⟨h1, h2, rfl⟩ | ⟨h1, h2, rfl⟩ | ⟨h1, h2, rfl⟩ | ⟨h1, h2, rfl⟩ | ⟨h1, h2, rfl⟩ | ⟨ha, hb⟩
  · have : (48 : Int) ≤ c.toNat := by omega
    have : (c.toNat : Int) ≤ 57 := by omega
    go_enter Tryd.func46, Tryd.ntmps46
    go_wp2_with (first | (go_at_call 50; refine (mark_ix c i HI.out _).mono ?_; rintro e w' ⟨rfl, rfl⟩) | (go_at_call 50; refine (blank_ix c k HK.out _).mono ?_; rintro e w' ⟨rfl, rfl⟩))
    go_ret
    exact ⟨rfl, rfl⟩
  · have : (48 : Int) ≤ c.toNat := by omega
    have : ¬ (c.toNat : Int) ≤ 57 := by omega
    have : (97 : Int) ≤ c.toNat := by omega
    have : (c.toNat : Int) ≤ 102 := by omega
    go_enter Tryd.func46, Tryd.ntmps46
    go_wp2_with (first | (go_at_call 50; refine (mark_ix c i HI.out _).mono ?_; rintro e w' ⟨rfl, rfl⟩) | (go_at_call 50; refine (blank_ix c k HK.out _).mono ?_; rintro e w' ⟨rfl, rfl⟩))
    go_ret
    exact ⟨rfl, rfl⟩
  · have : (48 : Int) ≤ c.toNat := by omega
    have : ¬ (c.toNat : Int) ≤ 57 := by omega
    have : ¬ (97 : Int) ≤ c.toNat := by omega
    have : (65 : Int) ≤ c.toNat := by omega
    have : (c.toNat : Int) ≤ 70 := by omega
    go_enter Tryd.func46, Tryd.ntmps46
    go_wp2_with (first | (go_at_call 50; refine (mark_ix c i HI.out _).mono ?_; rintro e w' ⟨rfl, rfl⟩) | (go_at_call 50; refine (blank_ix c k HK.out _).mono ?_; rintro e w' ⟨rfl, rfl⟩))
    go_ret
    exact ⟨rfl, rfl⟩
  · have : (48 : Int) ≤ c.toNat := by omega
    have : ¬ (c.toNat : Int) ≤ 57 := by omega
    have : (97 : Int) ≤ c.toNat := by omega
    have : ¬ (c.toNat : Int) ≤ 102 := by omega
    have : (c.toNat : Int) ≤ 122 := by omega
    go_enter Tryd.func46, Tryd.ntmps46
    go_wp2_with (first | (go_at_call 50; refine (mark_ix c i HI.out _).mono ?_; rintro e w' ⟨rfl, rfl⟩) | (go_at_call 50; refine (blank_ix c k HK.out _).mono ?_; rintro e w' ⟨rfl, rfl⟩))
    go_ret
    exact ⟨rfl, rfl⟩
  · have : (48 : Int) ≤ c.toNat := by omega
    have : ¬ (c.toNat : Int) ≤ 57 := by omega
    have : ¬ (97 : Int) ≤ c.toNat := by omega
    have : (65 : Int) ≤ c.toNat := by omega
    have : ¬ (c.toNat : Int) ≤ 70 := by omega
    have : (c.toNat : Int) ≤ 90 := by omega
    go_enter Tryd.func46, Tryd.ntmps46
    go_wp2_with (first | (go_at_call 50; refine (mark_ix c i HI.out _).mono ?_; rintro e w' ⟨rfl, rfl⟩) | (go_at_call 50; refine (blank_ix c k HK.out _).mono ?_; rintro e w' ⟨rfl, rfl⟩))
    go_ret
    exact ⟨rfl, rfl⟩
  · rcases ha with ha | ha | ha | ha
    · have : ¬ (48 : Int) ≤ c.toNat := by omega
      have : ¬ (97 : Int) ≤ c.toNat := by omega
      have : ¬ (65 : Int) ≤ c.toNat := by omega
      rcases hb with ⟨hi, rfl⟩ | ⟨hi, h3, h4, rfl⟩ | ⟨hi, h3, hk, rfl⟩ | ⟨hi, h3, hk, rfl⟩
      · have : decide (i ≥ 0) = true := decide_eq_true hi
        go_enter Tryd.func46, Tryd.ntmps46
        go_wp2_with (first | (go_at_call 50; refine (mark_ix c i HI.out _).mono ?_; rintro e w' ⟨rfl, rfl⟩) | (go_at_call 50; refine (blank_ix c k HK.out _).mono ?_; rintro e w' ⟨rfl, rfl⟩))
        go_ret
        exact ⟨rfl, rfl⟩
      · have : ¬ i ≥ 0 := by omega
        have : (33 : Int) ≤ c.toNat := by omega
        have : (c.toNat : Int) ≤ 126 := by omega
        go_enter Tryd.func46, Tryd.ntmps46
        go_wp2_with (first | (go_at_call 50; refine (mark_ix c i HI.out _).mono ?_; rintro e w' ⟨rfl, rfl⟩) | (go_at_call 50; refine (blank_ix c k HK.out _).mono ?_; rintro e w' ⟨rfl, rfl⟩))
        go_ret
        exact ⟨rfl, rfl⟩
      · have : ¬ i ≥ 0 := by omega
        have : 0 ≤ k := by omega
        rcases h3 with h3 | h3
        · first
          | (exfalso; omega)
          | (have : ¬ (33 : Int) ≤ c.toNat := by omega
             go_enter Tryd.func46, Tryd.ntmps46
             go_wp2_with (first | (go_at_call 50; refine (mark_ix c i HI.out _).mono ?_; rintro e w' ⟨rfl, rfl⟩) | (go_at_call 50; refine (blank_ix c k HK.out _).mono ?_; rintro e w' ⟨rfl, rfl⟩))
             go_ret
             exact ⟨rfl, rfl⟩)
        · first
          | (exfalso; omega)
          | (have : (33 : Int) ≤ c.toNat := by omega
             have : ¬ (c.toNat : Int) ≤ 126 := by omega
             go_enter Tryd.func46, Tryd.ntmps46
             go_wp2_with (first | (go_at_call 50; refine (mark_ix c i HI.out _).mono ?_; rintro e w' ⟨rfl, rfl⟩) | (go_at_call 50; refine (blank_ix c k HK.out _).mono ?_; rintro e w' ⟨rfl, rfl⟩))
             go_ret
             exact ⟨rfl, rfl⟩)
      · have : ¬ i ≥ 0 := by omega
        have : ¬ k ≥ 0 := by omega
        rcases h3 with h3 | h3
        · first
          | (exfalso; omega)
          | (have : ¬ (33 : Int) ≤ c.toNat := by omega
             go_enter Tryd.func46, Tryd.ntmps46
             go_wp2_with (first | (go_at_call 50; refine (mark_ix c i HI.out _).mono ?_; rintro e w' ⟨rfl, rfl⟩) | (go_at_call 50; refine (blank_ix c k HK.out _).mono ?_; rintro e w' ⟨rfl, rfl⟩))
             go_ret
             exact ⟨rfl, rfl⟩)
        · first
          | (exfalso; omega)
          | (have : (33 : Int) ≤ c.toNat := by omega
             have : ¬ (c.toNat : Int) ≤ 126 := by omega
             go_enter Tryd.func46, Tryd.ntmps46
             go_wp2_with (first | (go_at_call 50; refine (mark_ix c i HI.out _).mono ?_; rintro e w' ⟨rfl, rfl⟩) | (go_at_call 50; refine (blank_ix c k HK.out _).mono ?_; rintro e w' ⟨rfl, rfl⟩))
             go_ret
             exact ⟨rfl, rfl⟩)
    · have : (48 : Int) ≤ c.toNat := by omega
      have : ¬ (c.toNat : Int) ≤ 57 := by omega
      have : ¬ (97 : Int) ≤ c.toNat := by omega
      have : ¬ (65 : Int) ≤ c.toNat := by omega
      rcases hb with ⟨hi, rfl⟩ | ⟨hi, h3, h4, rfl⟩ | ⟨hi, h3, hk, rfl⟩ | ⟨hi, h3, hk, rfl⟩
      · have : decide (i ≥ 0) = true := decide_eq_true hi
        go_enter Tryd.func46, Tryd.ntmps46
        go_wp2_with (first | (go_at_call 50; refine (mark_ix c i HI.out _).mono ?_; rintro e w' ⟨rfl, rfl⟩) | (go_at_call 50; refine (blank_ix c k HK.out _).mono ?_; rintro e w' ⟨rfl, rfl⟩))
        go_ret
        exact ⟨rfl, rfl⟩
      · have : ¬ i ≥ 0 := by omega
        have : (33 : Int) ≤ c.toNat := by omega
        have : (c.toNat : Int) ≤ 126 := by omega
        go_enter Tryd.func46, Tryd.ntmps46
        go_wp2_with (first | (go_at_call 50; refine (mark_ix c i HI.out _).mono ?_; rintro e w' ⟨rfl, rfl⟩) | (go_at_call 50; refine (blank_ix c k HK.out _).mono ?_; rintro e w' ⟨rfl, rfl⟩))
        go_ret
        exact ⟨rfl, rfl⟩
      · have : ¬ i ≥ 0 := by omega
        have : 0 ≤ k := by omega
        rcases h3 with h3 | h3
        · first
          | (exfalso; omega)
          | (have : ¬ (33 : Int) ≤ c.toNat := by omega
             go_enter Tryd.func46, Tryd.ntmps46
             go_wp2_with (first | (go_at_call 50; refine (mark_ix c i HI.out _).mono ?_; rintro e w' ⟨rfl, rfl⟩) | (go_at_call 50; refine (blank_ix c k HK.out _).mono ?_; rintro e w' ⟨rfl, rfl⟩))
             go_ret
             exact ⟨rfl, rfl⟩)
        · first
          | (exfalso; omega)
          | (have : (33 : Int) ≤ c.toNat := by omega
             have : ¬ (c.toNat : Int) ≤ 126 := by omega
             go_enter Tryd.func46, Tryd.ntmps46
             go_wp2_with (first | (go_at_call 50; refine (mark_ix c i HI.out _).mono ?_; rintro e w' ⟨rfl, rfl⟩) | (go_at_call 50; refine (blank_ix c k HK.out _).mono ?_; rintro e w' ⟨rfl, rfl⟩))
             go_ret
             exact ⟨rfl, rfl⟩)
      · have : ¬ i ≥ 0 := by omega
        have : ¬ k ≥ 0 := by omega
        rcases h3 with h3 | h3
        · first
          | (exfalso; omega)
          | (have : ¬ (33 : Int) ≤ c.toNat := by omega
             go_enter Tryd.func46, Tryd.ntmps46
             go_wp2_with (first | (go_at_call 50; refine (mark_ix c i HI.out _).mono ?_; rintro e w' ⟨rfl, rfl⟩) | (go_at_call 50; refine (blank_ix c k HK.out _).mono ?_; rintro e w' ⟨rfl, rfl⟩))
             go_ret
             exact ⟨rfl, rfl⟩)
        · first
          | (exfalso; omega)
          | (have : (33 : Int) ≤ c.toNat := by omega
             have : ¬ (c.toNat : Int) ≤ 126 := by omega
             go_enter Tryd.func46, Tryd.ntmps46
             go_wp2_with (first | (go_at_call 50; refine (mark_ix c i HI.out _).mono ?_; rintro e w' ⟨rfl, rfl⟩) | (go_at_call 50; refine (blank_ix c k HK.out _).mono ?_; rintro e w' ⟨rfl, rfl⟩))
             go_ret
             exact ⟨rfl, rfl⟩)
    · have : (48 : Int) ≤ c.toNat := by omega
      have : ¬ (c.toNat : Int) ≤ 57 := by omega
      have : ¬ (97 : Int) ≤ c.toNat := by omega
      have : (65 : Int) ≤ c.toNat := by omega
      have : ¬ (c.toNat : Int) ≤ 70 := by omega
      have : ¬ (c.toNat : Int) ≤ 90 := by omega
      rcases hb with ⟨hi, rfl⟩ | ⟨hi, h3, h4, rfl⟩ | ⟨hi, h3, hk, rfl⟩ | ⟨hi, h3, hk, rfl⟩
      · have : decide (i ≥ 0) = true := decide_eq_true hi
        go_enter Tryd.func46, Tryd.ntmps46
        go_wp2_with (first | (go_at_call 50; refine (mark_ix c i HI.out _).mono ?_; rintro e w' ⟨rfl, rfl⟩) | (go_at_call 50; refine (blank_ix c k HK.out _).mono ?_; rintro e w' ⟨rfl, rfl⟩))
        go_ret
        exact ⟨rfl, rfl⟩
      · have : ¬ i ≥ 0 := by omega
        have : (33 : Int) ≤ c.toNat := by omega
        have : (c.toNat : Int) ≤ 126 := by omega
        go_enter Tryd.func46, Tryd.ntmps46
        go_wp2_with (first | (go_at_call 50; refine (mark_ix c i HI.out _).mono ?_; rintro e w' ⟨rfl, rfl⟩) | (go_at_call 50; refine (blank_ix c k HK.out _).mono ?_; rintro e w' ⟨rfl, rfl⟩))
        go_ret
        exact ⟨rfl, rfl⟩
      · have : ¬ i ≥ 0 := by omega
        have : 0 ≤ k := by omega
        rcases h3 with h3 | h3
        · first
          | (exfalso; omega)
          | (have : ¬ (33 : Int) ≤ c.toNat := by omega
             go_enter Tryd.func46, Tryd.ntmps46
             go_wp2_with (first | (go_at_call 50; refine (mark_ix c i HI.out _).mono ?_; rintro e w' ⟨rfl, rfl⟩) | (go_at_call 50; refine (blank_ix c k HK.out _).mono ?_; rintro e w' ⟨rfl, rfl⟩))
             go_ret
             exact ⟨rfl, rfl⟩)
        · first
          | (exfalso; omega)
          | (have : (33 : Int) ≤ c.toNat := by omega
             have : ¬ (c.toNat : Int) ≤ 126 := by omega
             go_enter Tryd.func46, Tryd.ntmps46
             go_wp2_with (first | (go_at_call 50; refine (mark_ix c i HI.out _).mono ?_; rintro e w' ⟨rfl, rfl⟩) | (go_at_call 50; refine (blank_ix c k HK.out _).mono ?_; rintro e w' ⟨rfl, rfl⟩))
             go_ret
             exact ⟨rfl, rfl⟩)
      · have : ¬ i ≥ 0 := by omega
        have : ¬ k ≥ 0 := by omega
        rcases h3 with h3 | h3
        · first
          | (exfalso; omega)
          | (have : ¬ (33 : Int) ≤ c.toNat := by omega
             go_enter Tryd.func46, Tryd.ntmps46
             go_wp2_with (first | (go_at_call 50; refine (mark_ix c i HI.out _).mono ?_; rintro e w' ⟨rfl, rfl⟩) | (go_at_call 50; refine (blank_ix c k HK.out _).mono ?_; rintro e w' ⟨rfl, rfl⟩))
             go_ret
             exact ⟨rfl, rfl⟩)
        · first
          | (exfalso; omega)
          | (have : (33 : Int) ≤ c.toNat := by omega
             have : ¬ (c.toNat : Int) ≤ 126 := by omega
             go_enter Tryd.func46, Tryd.ntmps46
             go_wp2_with (first | (go_at_call 50; refine (mark_ix c i HI.out _).mono ?_; rintro e w' ⟨rfl, rfl⟩) | (go_at_call 50; refine (blank_ix c k HK.out _).mono ?_; rintro e w' ⟨rfl, rfl⟩))
             go_ret
             exact ⟨rfl, rfl⟩)
    · have : (48 : Int) ≤ c.toNat := by omega
      have : ¬ (c.toNat : Int) ≤ 57 := by omega
      have : (97 : Int) ≤ c.toNat := by omega
      have : ¬ (c.toNat : Int) ≤ 102 := by omega
      have : ¬ (c.toNat : Int) ≤ 122 := by omega
      rcases hb with ⟨hi, rfl⟩ | ⟨hi, h3, h4, rfl⟩ | ⟨hi, h3, hk, rfl⟩ | ⟨hi, h3, hk, rfl⟩
      · have : decide (i ≥ 0) = true := decide_eq_true hi
        go_enter Tryd.func46, Tryd.ntmps46
        go_wp2_with (first | (go_at_call 50; refine (mark_ix c i HI.out _).mono ?_; rintro e w' ⟨rfl, rfl⟩) | (go_at_call 50; refine (blank_ix c k HK.out _).mono ?_; rintro e w' ⟨rfl, rfl⟩))
        go_ret
        exact ⟨rfl, rfl⟩
      · have : ¬ i ≥ 0 := by omega
        have : (33 : Int) ≤ c.toNat := by omega
        have : (c.toNat : Int) ≤ 126 := by omega
        go_enter Tryd.func46, Tryd.ntmps46
        go_wp2_with (first | (go_at_call 50; refine (mark_ix c i HI.out _).mono ?_; rintro e w' ⟨rfl, rfl⟩) | (go_at_call 50; refine (blank_ix c k HK.out _).mono ?_; rintro e w' ⟨rfl, rfl⟩))
        go_ret
        exact ⟨rfl, rfl⟩
      · have : ¬ i ≥ 0 := by omega
        have : 0 ≤ k := by omega
        rcases h3 with h3 | h3
        · first
          | (exfalso; omega)
          | (have : ¬ (33 : Int) ≤ c.toNat := by omega
             go_enter Tryd.func46, Tryd.ntmps46
             go_wp2_with (first | (go_at_call 50; refine (mark_ix c i HI.out _).mono ?_; rintro e w' ⟨rfl, rfl⟩) | (go_at_call 50; refine (blank_ix c k HK.out _).mono ?_; rintro e w' ⟨rfl, rfl⟩))
             go_ret
             exact ⟨rfl, rfl⟩)
        · first
          | (exfalso; omega)
          | (have : (33 : Int) ≤ c.toNat := by omega
             have : ¬ (c.toNat : Int) ≤ 126 := by omega
             go_enter Tryd.func46, Tryd.ntmps46
             go_wp2_with (first | (go_at_call 50; refine (mark_ix c i HI.out _).mono ?_; rintro e w' ⟨rfl, rfl⟩) | (go_at_call 50; refine (blank_ix c k HK.out _).mono ?_; rintro e w' ⟨rfl, rfl⟩))
             go_ret
             exact ⟨rfl, rfl⟩)
      · have : ¬ i ≥ 0 := by omega
        have : ¬ k ≥ 0 := by omega
        rcases h3 with h3 | h3
        · first
          | (exfalso; omega)
          | (have : ¬ (33 : Int) ≤ c.toNat := by omega
             go_enter Tryd.func46, Tryd.ntmps46
             go_wp2_with (first | (go_at_call 50; refine (mark_ix c i HI.out _).mono ?_; rintro e w' ⟨rfl, rfl⟩) | (go_at_call 50; refine (blank_ix c k HK.out _).mono ?_; rintro e w' ⟨rfl, rfl⟩))
             go_ret
             exact ⟨rfl, rfl⟩)
        · first
          | (exfalso; omega)
          | (have : (33 : Int) ≤ c.toNat := by omega
             have : ¬ (c.toNat : Int) ≤ 126 := by omega
             go_enter Tryd.func46, Tryd.ntmps46
             go_wp2_with (first | (go_at_call 50; refine (mark_ix c i HI.out _).mono ?_; rintro e w' ⟨rfl, rfl⟩) | (go_at_call 50; refine (blank_ix c k HK.out _).mono ?_; rintro e w' ⟨rfl, rfl⟩))
             go_ret
             exact ⟨rfl, rfl⟩)
end Go.Proofs.YtchpgdoidpllgaaDoor
