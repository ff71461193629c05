/- Packed: OctB, OctC, OctD, NumA, NumB, OctE. -/
import Derived.Shelf.Strings.SlTrimAscii
import Derived.Lib.ConvBytes
import Derived.Laws.IdiomStrings
import Derived.Laws.OwnMore
import Derived.IntWalk
import Derived.Test.YtbbphklhnngjmaaGreatDoorS00
import Derived.Test.YtbbphklhnngjmaaGreatDoorShelf
/- octet: lower, classesOf, all. -/
namespace Go.Proofs.YtbbphklhnngjmaaGreatDoor
open Go.RowKit

set_option maxHeartbeats 400000 in
theorem lower63 (c : UInt8) (w : World) :
    Calls Tryz.prog 124 #[.int .u8 (c.toNat : Int)] w fun e w' => e = .returned (.int .u8 ((lowC c).toNat : Int)) ∧ w = w' := by
  have hc := byte_lt c
  by_cases h1 : 65 ≤ c.toNat
  · by_cases h2 : c.toNat ≤ 90
    · have hl := Lib.hid (lowC_up c h1 h2)
      have j1 : (65 : Int) ≤ c.toNat := by omega
      have j2 : (c.toNat : Int) ≤ 90 := by omega
      go_enter Tryz.func124, Tryz.ntmps124
      go_wp2_with fail
      go_ret
      exact ⟨by rw [hl.out]; simp; omega, rfl⟩
    · have hl := Lib.hid (lowC_no c (by omega))
      have j1 : (65 : Int) ≤ c.toNat := by omega
      have j2 : ¬ (c.toNat : Int) ≤ 90 := by omega
      go_enter Tryz.func124, Tryz.ntmps124
      go_wp2_with fail
      go_ret
      exact ⟨by rw [hl.out]; rfl, rfl⟩
  · have hl := Lib.hid (lowC_no c (by omega))
    have j1 : ¬ (65 : Int) ≤ c.toNat := by omega
    go_enter Tryz.func124, Tryz.ntmps124
    go_wp2_with fail
    go_ret
    exact ⟨by rw [hl.out]; rfl, rfl⟩

theorem mark_ix (c : UInt8) (i : Int) (hi : Lib.indexByte marksL c = i) (w : World) : Calls Tryz.prog 111 #[.string ⟨#[33, 35, 36, 37, 38, 39, 42, 43, 45, 46, 94, 95, 96, 124, 126]⟩, .int .u8 (c.toNat : Int)] w fun e w' => e = .returned (.int .i64 i) ∧ w = w' := by
  have h := Tryz.strings_IndexByte ⟨#[33, 35, 36, 37, 38, 39, 42, 43, 45, 46, 94, 95, 96, 124, 126]⟩ (c.toNat : Int) w
  have e : ((c.toNat : Int)).toNat.toUInt8 = c := by simp
  rw [e] at h
  exact h.mono fun _ _ ⟨x, y⟩ => ⟨x.trans (by rw [← hi]; rfl), y.symm⟩
theorem blank_ix (c : UInt8) (i : Int) (hi : Lib.indexByte [32, 9] c = i) (w : World) : Calls Tryz.prog 111 #[.string ⟨#[32, 9]⟩, .int .u8 (c.toNat : Int)] w fun e w' => e = .returned (.int .i64 i) ∧ w = w' := by
  have h := Tryz.strings_IndexByte ⟨#[32, 9]⟩ (c.toNat : Int) w
  have e : ((c.toNat : Int)).toNat.toUInt8 = c := by simp
  rw [e] at h
  exact h.mono fun _ _ ⟨x, y⟩ => ⟨x.trans (by rw [← hi]), y.symm⟩

set_option maxRecDepth 100000 in
set_option maxHeartbeats 4000000 in
theorem cls79 (c : UInt8) (w : World) :
    Calls Tryz.prog 177 #[.int .u8 (c.toNat : Int)] w fun e w' => e = .returned (.int .i64 (clsI c)) ∧ w = w' := by
  have hc := byte_lt c
  obtain ⟨r, hr⟩ : ∃ r, r = clsI c := ⟨_, rfl⟩
  rw [← hr]
  obtain ⟨i, hi⟩ : ∃ i, Lib.indexByte marksL c = i := ⟨_, rfl⟩
  obtain ⟨k, hk⟩ : ∃ k, Lib.indexByte [32, 9] c = k := ⟨_, rfl⟩
  have H : (48 ≤ c.toNat ∧ c.toNat ≤ 57 ∧ r = 31) ∨ (97 ≤ c.toNat ∧ c.toNat ≤ 102 ∧ r = 30) ∨ (65 ≤ c.toNat ∧ c.toNat ≤ 70 ∧ r = 30) ∨ (103 ≤ c.toNat ∧ c.toNat ≤ 122 ∧ r = 28) ∨ (71 ≤ c.toNat ∧ c.toNat ≤ 90 ∧ r = 28)
     ∨ ((c.toNat < 48 ∨ (57 < c.toNat ∧ c.toNat < 65) ∨ (90 < c.toNat ∧ c.toNat < 97) ∨ 122 < c.toNat) ∧ ((0 ≤ i ∧ r = 28) ∨ (i < 0 ∧ 33 ≤ c.toNat ∧ c.toNat ≤ 126 ∧ r = 24) ∨ (i < 0 ∧ (c.toNat < 33 ∨ 126 < c.toNat) ∧ 0 ≤ k ∧ r = 16) ∨ (i < 0 ∧ (c.toNat < 33 ∨ 126 < c.toNat) ∧ k < 0 ∧ r = 0))) := by
    rw [hr, ← hi, ← hk]; clear hc hr hi hk i k r w; revert c; apply all256; decide +kernel
  clear hr
  have HI := Lib.hid hi
  have HK := Lib.hid hk
  clear hi hk
  rcases H with ⟨h1, h2, rfl⟩ | ⟨h1, h2, rfl⟩ | ⟨h1, h2, rfl⟩ | ⟨h1, h2, rfl⟩ | ⟨h1, h2, rfl⟩ | ⟨ha, hb⟩
  · have : (48 : Int) ≤ c.toNat := by omega
    have : (c.toNat : Int) ≤ 57 := by omega
    go_enter Tryz.func177, Tryz.ntmps177
    go_wp2_with (first | (go_at_call 111; refine (mark_ix c i HI.out _).mono ?_; rintro e w' ⟨rfl, rfl⟩) | (go_at_call 111; refine (blank_ix c k HK.out _).mono ?_; rintro e w' ⟨rfl, rfl⟩))
    go_ret
    exact ⟨rfl, rfl⟩
  · have : (48 : Int) ≤ c.toNat := by omega
    have : ¬ (c.toNat : Int) ≤ 57 := by omega
    have : (97 : Int) ≤ c.toNat := by omega
    have : (c.toNat : Int) ≤ 102 := by omega
    go_enter Tryz.func177, Tryz.ntmps177
    go_wp2_with (first | (go_at_call 111; refine (mark_ix c i HI.out _).mono ?_; rintro e w' ⟨rfl, rfl⟩) | (go_at_call 111; refine (blank_ix c k HK.out _).mono ?_; rintro e w' ⟨rfl, rfl⟩))
    go_ret
    exact ⟨rfl, rfl⟩
  · have : (48 : Int) ≤ c.toNat := by omega
    have : ¬ (c.toNat : Int) ≤ 57 := by omega
    have : ¬ (97 : Int) ≤ c.toNat := by omega
    have : (65 : Int) ≤ c.toNat := by omega
    have : (c.toNat : Int) ≤ 70 := by omega
    go_enter Tryz.func177, Tryz.ntmps177
    go_wp2_with (first | (go_at_call 111; refine (mark_ix c i HI.out _).mono ?_; rintro e w' ⟨rfl, rfl⟩) | (go_at_call 111; refine (blank_ix c k HK.out _).mono ?_; rintro e w' ⟨rfl, rfl⟩))
    go_ret
    exact ⟨rfl, rfl⟩
  · have : (48 : Int) ≤ c.toNat := by omega
    have : ¬ (c.toNat : Int) ≤ 57 := by omega
    have : (97 : Int) ≤ c.toNat := by omega
    have : ¬ (c.toNat : Int) ≤ 102 := by omega
    have : (c.toNat : Int) ≤ 122 := by omega
    go_enter Tryz.func177, Tryz.ntmps177
    go_wp2_with (first | (go_at_call 111; refine (mark_ix c i HI.out _).mono ?_; rintro e w' ⟨rfl, rfl⟩) | (go_at_call 111; refine (blank_ix c k HK.out _).mono ?_; rintro e w' ⟨rfl, rfl⟩))
    go_ret
    exact ⟨rfl, rfl⟩
  · have : (48 : Int) ≤ c.toNat := by omega
    have : ¬ (c.toNat : Int) ≤ 57 := by omega
    have : ¬ (97 : Int) ≤ c.toNat := by omega
    have : (65 : Int) ≤ c.toNat := by omega
    have : ¬ (c.toNat : Int) ≤ 70 := by omega
    have : (c.toNat : Int) ≤ 90 := by omega
    go_enter Tryz.func177, Tryz.ntmps177
    go_wp2_with (first | (go_at_call 111; refine (mark_ix c i HI.out _).mono ?_; rintro e w' ⟨rfl, rfl⟩) | (go_at_call 111; refine (blank_ix c k HK.out _).mono ?_; rintro e w' ⟨rfl, rfl⟩))
    go_ret
    exact ⟨rfl, rfl⟩
  · rcases ha with ha | ha | ha | ha
    · have : ¬ (48 : Int) ≤ c.toNat := by omega
      have : ¬ (97 : Int) ≤ c.toNat := by omega
      have : ¬ (65 : Int) ≤ c.toNat := by omega
      rcases hb with ⟨hi, rfl⟩ | ⟨hi, h3, h4, rfl⟩ | ⟨hi, h3, hk, rfl⟩ | ⟨hi, h3, hk, rfl⟩
      · have : decide (i ≥ 0) = true := decide_eq_true hi
        go_enter Tryz.func177, Tryz.ntmps177
        go_wp2_with (first | (go_at_call 111; refine (mark_ix c i HI.out _).mono ?_; rintro e w' ⟨rfl, rfl⟩) | (go_at_call 111; refine (blank_ix c k HK.out _).mono ?_; rintro e w' ⟨rfl, rfl⟩))
        go_ret
        exact ⟨rfl, rfl⟩
      · have : ¬ i ≥ 0 := by omega
        have : (33 : Int) ≤ c.toNat := by omega
        have : (c.toNat : Int) ≤ 126 := by omega
        go_enter Tryz.func177, Tryz.ntmps177
        go_wp2_with (first | (go_at_call 111; refine (mark_ix c i HI.out _).mono ?_; rintro e w' ⟨rfl, rfl⟩) | (go_at_call 111; refine (blank_ix c k HK.out _).mono ?_; rintro e w' ⟨rfl, rfl⟩))
        go_ret
        exact ⟨rfl, rfl⟩
      · have : ¬ i ≥ 0 := by omega
        have : 0 ≤ k := by omega
        rcases h3 with h3 | h3
        · first
          | (exfalso; omega)
          | (have : ¬ (33 : Int) ≤ c.toNat := by omega
             go_enter Tryz.func177, Tryz.ntmps177
             go_wp2_with (first | (go_at_call 111; refine (mark_ix c i HI.out _).mono ?_; rintro e w' ⟨rfl, rfl⟩) | (go_at_call 111; refine (blank_ix c k HK.out _).mono ?_; rintro e w' ⟨rfl, rfl⟩))
             go_ret
             exact ⟨rfl, rfl⟩)
        · first
          | (exfalso; omega)
          | (have : (33 : Int) ≤ c.toNat := by omega
             have : ¬ (c.toNat : Int) ≤ 126 := by omega
             go_enter Tryz.func177, Tryz.ntmps177
             go_wp2_with (first | (go_at_call 111; refine (mark_ix c i HI.out _).mono ?_; rintro e w' ⟨rfl, rfl⟩) | (go_at_call 111; refine (blank_ix c k HK.out _).mono ?_; rintro e w' ⟨rfl, rfl⟩))
             go_ret
             exact ⟨rfl, rfl⟩)
      · have : ¬ i ≥ 0 := by omega
        have : ¬ k ≥ 0 := by omega
        rcases h3 with h3 | h3
        · first
          | (exfalso; omega)
          | (have : ¬ (33 : Int) ≤ c.toNat := by omega
             go_enter Tryz.func177, Tryz.ntmps177
             go_wp2_with (first | (go_at_call 111; refine (mark_ix c i HI.out _).mono ?_; rintro e w' ⟨rfl, rfl⟩) | (go_at_call 111; refine (blank_ix c k HK.out _).mono ?_; rintro e w' ⟨rfl, rfl⟩))
             go_ret
             exact ⟨rfl, rfl⟩)
        · first
          | (exfalso; omega)
          | (have : (33 : Int) ≤ c.toNat := by omega
             have : ¬ (c.toNat : Int) ≤ 126 := by omega
             go_enter Tryz.func177, Tryz.ntmps177
             go_wp2_with (first | (go_at_call 111; refine (mark_ix c i HI.out _).mono ?_; rintro e w' ⟨rfl, rfl⟩) | (go_at_call 111; refine (blank_ix c k HK.out _).mono ?_; rintro e w' ⟨rfl, rfl⟩))
             go_ret
             exact ⟨rfl, rfl⟩)
    · have : (48 : Int) ≤ c.toNat := by omega
      have : ¬ (c.toNat : Int) ≤ 57 := by omega
      have : ¬ (97 : Int) ≤ c.toNat := by omega
      have : ¬ (65 : Int) ≤ c.toNat := by omega
      rcases hb with ⟨hi, rfl⟩ | ⟨hi, h3, h4, rfl⟩ | ⟨hi, h3, hk, rfl⟩ | ⟨hi, h3, hk, rfl⟩
      · have : decide (i ≥ 0) = true := decide_eq_true hi
        go_enter Tryz.func177, Tryz.ntmps177
        go_wp2_with (first | (go_at_call 111; refine (mark_ix c i HI.out _).mono ?_; rintro e w' ⟨rfl, rfl⟩) | (go_at_call 111; refine (blank_ix c k HK.out _).mono ?_; rintro e w' ⟨rfl, rfl⟩))
        go_ret
        exact ⟨rfl, rfl⟩
      · have : ¬ i ≥ 0 := by omega
        have : (33 : Int) ≤ c.toNat := by omega
        have : (c.toNat : Int) ≤ 126 := by omega
        go_enter Tryz.func177, Tryz.ntmps177
        go_wp2_with (first | (go_at_call 111; refine (mark_ix c i HI.out _).mono ?_; rintro e w' ⟨rfl, rfl⟩) | (go_at_call 111; refine (blank_ix c k HK.out _).mono ?_; rintro e w' ⟨rfl, rfl⟩))
        go_ret
        exact ⟨rfl, rfl⟩
      · have : ¬ i ≥ 0 := by omega
        have : 0 ≤ k := by omega
        rcases h3 with h3 | h3
        · first
          | (exfalso; omega)
          | (have : ¬ (33 : Int) ≤ c.toNat := by omega
             go_enter Tryz.func177, Tryz.ntmps177
             go_wp2_with (first | (go_at_call 111; refine (mark_ix c i HI.out _).mono ?_; rintro e w' ⟨rfl, rfl⟩) | (go_at_call 111; refine (blank_ix c k HK.out _).mono ?_; rintro e w' ⟨rfl, rfl⟩))
             go_ret
             exact ⟨rfl, rfl⟩)
        · first
          | (exfalso; omega)
          | (have : (33 : Int) ≤ c.toNat := by omega
             have : ¬ (c.toNat : Int) ≤ 126 := by omega
             go_enter Tryz.func177, Tryz.ntmps177
             go_wp2_with (first | (go_at_call 111; refine (mark_ix c i HI.out _).mono ?_; rintro e w' ⟨rfl, rfl⟩) | (go_at_call 111; refine (blank_ix c k HK.out _).mono ?_; rintro e w' ⟨rfl, rfl⟩))
             go_ret
             exact ⟨rfl, rfl⟩)
      · have : ¬ i ≥ 0 := by omega
        have : ¬ k ≥ 0 := by omega
        rcases h3 with h3 | h3
        · first
          | (exfalso; omega)
          | (have : ¬ (33 : Int) ≤ c.toNat := by omega
             go_enter Tryz.func177, Tryz.ntmps177
             go_wp2_with (first | (go_at_call 111; refine (mark_ix c i HI.out _).mono ?_; rintro e w' ⟨rfl, rfl⟩) | (go_at_call 111; refine (blank_ix c k HK.out _).mono ?_; rintro e w' ⟨rfl, rfl⟩))
             go_ret
             exact ⟨rfl, rfl⟩)
        · first
          | (exfalso; omega)
          | (have : (33 : Int) ≤ c.toNat := by omega
             have : ¬ (c.toNat : Int) ≤ 126 := by omega
             go_enter Tryz.func177, Tryz.ntmps177
             go_wp2_with (first | (go_at_call 111; refine (mark_ix c i HI.out _).mono ?_; rintro e w' ⟨rfl, rfl⟩) | (go_at_call 111; refine (blank_ix c k HK.out _).mono ?_; rintro e w' ⟨rfl, rfl⟩))
             go_ret
             exact ⟨rfl, rfl⟩)
    · have : (48 : Int) ≤ c.toNat := by omega
      have : ¬ (c.toNat : Int) ≤ 57 := by omega
      have : ¬ (97 : Int) ≤ c.toNat := by omega
      have : (65 : Int) ≤ c.toNat := by omega
      have : ¬ (c.toNat : Int) ≤ 70 := by omega
      have : ¬ (c.toNat : Int) ≤ 90 := by omega
      rcases hb with ⟨hi, rfl⟩ | ⟨hi, h3, h4, rfl⟩ | ⟨hi, h3, hk, rfl⟩ | ⟨hi, h3, hk, rfl⟩
      · have : decide (i ≥ 0) = true := decide_eq_true hi
        go_enter Tryz.func177, Tryz.ntmps177
        go_wp2_with (first | (go_at_call 111; refine (mark_ix c i HI.out _).mono ?_; rintro e w' ⟨rfl, rfl⟩) | (go_at_call 111; refine (blank_ix c k HK.out _).mono ?_; rintro e w' ⟨rfl, rfl⟩))
        go_ret
        exact ⟨rfl, rfl⟩
      · have : ¬ i ≥ 0 := by omega
        have : (33 : Int) ≤ c.toNat := by omega
        have : (c.toNat : Int) ≤ 126 := by omega
        go_enter Tryz.func177, Tryz.ntmps177
        go_wp2_with (first | (go_at_call 111; refine (mark_ix c i HI.out _).mono ?_; rintro e w' ⟨rfl, rfl⟩) | (go_at_call 111; refine (blank_ix c k HK.out _).mono ?_; rintro e w' ⟨rfl, rfl⟩))
        go_ret
        exact ⟨rfl, rfl⟩
      · have : ¬ i ≥ 0 := by omega
        have : 0 ≤ k := by omega
        rcases h3 with h3 | h3
        · first
          | (exfalso; omega)
          | (have : ¬ (33 : Int) ≤ c.toNat := by omega
             go_enter Tryz.func177, Tryz.ntmps177
             go_wp2_with (first | (go_at_call 111; refine (mark_ix c i HI.out _).mono ?_; rintro e w' ⟨rfl, rfl⟩) | (go_at_call 111; refine (blank_ix c k HK.out _).mono ?_; rintro e w' ⟨rfl, rfl⟩))
             go_ret
             exact ⟨rfl, rfl⟩)
        · first
          | (exfalso; omega)
          | (have : (33 : Int) ≤ c.toNat := by omega
             have : ¬ (c.toNat : Int) ≤ 126 := by omega
             go_enter Tryz.func177, Tryz.ntmps177
             go_wp2_with (first | (go_at_call 111; refine (mark_ix c i HI.out _).mono ?_; rintro e w' ⟨rfl, rfl⟩) | (go_at_call 111; refine (blank_ix c k HK.out _).mono ?_; rintro e w' ⟨rfl, rfl⟩))
             go_ret
             exact ⟨rfl, rfl⟩)
      · have : ¬ i ≥ 0 := by omega
        have : ¬ k ≥ 0 := by omega
        rcases h3 with h3 | h3
        · first
          | (exfalso; omega)
          | (have : ¬ (33 : Int) ≤ c.toNat := by omega
             go_enter Tryz.func177, Tryz.ntmps177
             go_wp2_with (first | (go_at_call 111; refine (mark_ix c i HI.out _).mono ?_; rintro e w' ⟨rfl, rfl⟩) | (go_at_call 111; refine (blank_ix c k HK.out _).mono ?_; rintro e w' ⟨rfl, rfl⟩))
             go_ret
             exact ⟨rfl, rfl⟩)
        · first
          | (exfalso; omega)
          | (have : (33 : Int) ≤ c.toNat := by omega
             have : ¬ (c.toNat : Int) ≤ 126 := by omega
             go_enter Tryz.func177, Tryz.ntmps177
             go_wp2_with (first | (go_at_call 111; refine (mark_ix c i HI.out _).mono ?_; rintro e w' ⟨rfl, rfl⟩) | (go_at_call 111; refine (blank_ix c k HK.out _).mono ?_; rintro e w' ⟨rfl, rfl⟩))
             go_ret
             exact ⟨rfl, rfl⟩)
    · have : (48 : Int) ≤ c.toNat := by omega
      have : ¬ (c.toNat : Int) ≤ 57 := by omega
      have : (97 : Int) ≤ c.toNat := by omega
      have : ¬ (c.toNat : Int) ≤ 102 := by omega
      have : ¬ (c.toNat : Int) ≤ 122 := by omega
      rcases hb with ⟨hi, rfl⟩ | ⟨hi, h3, h4, rfl⟩ | ⟨hi, h3, hk, rfl⟩ | ⟨hi, h3, hk, rfl⟩
      · have : decide (i ≥ 0) = true := decide_eq_true hi
        go_enter Tryz.func177, Tryz.ntmps177
        go_wp2_with (first | (go_at_call 111; refine (mark_ix c i HI.out _).mono ?_; rintro e w' ⟨rfl, rfl⟩) | (go_at_call 111; refine (blank_ix c k HK.out _).mono ?_; rintro e w' ⟨rfl, rfl⟩))
        go_ret
        exact ⟨rfl, rfl⟩
      · have : ¬ i ≥ 0 := by omega
        have : (33 : Int) ≤ c.toNat := by omega
        have : (c.toNat : Int) ≤ 126 := by omega
        go_enter Tryz.func177, Tryz.ntmps177
        go_wp2_with (first | (go_at_call 111; refine (mark_ix c i HI.out _).mono ?_; rintro e w' ⟨rfl, rfl⟩) | (go_at_call 111; refine (blank_ix c k HK.out _).mono ?_; rintro e w' ⟨rfl, rfl⟩))
        go_ret
        exact ⟨rfl, rfl⟩
      · have : ¬ i ≥ 0 := by omega
        have : 0 ≤ k := by omega
        rcases h3 with h3 | h3
        · first
          | (exfalso; omega)
          | (have : ¬ (33 : Int) ≤ c.toNat := by omega
             go_enter Tryz.func177, Tryz.ntmps177
             go_wp2_with (first | (go_at_call 111; refine (mark_ix c i HI.out _).mono ?_; rintro e w' ⟨rfl, rfl⟩) | (go_at_call 111; refine (blank_ix c k HK.out _).mono ?_; rintro e w' ⟨rfl, rfl⟩))
             go_ret
             exact ⟨rfl, rfl⟩)
        · first
          | (exfalso; omega)
          | (have : (33 : Int) ≤ c.toNat := by omega
             have : ¬ (c.toNat : Int) ≤ 126 := by omega
             go_enter Tryz.func177, Tryz.ntmps177
             go_wp2_with (first | (go_at_call 111; refine (mark_ix c i HI.out _).mono ?_; rintro e w' ⟨rfl, rfl⟩) | (go_at_call 111; refine (blank_ix c k HK.out _).mono ?_; rintro e w' ⟨rfl, rfl⟩))
             go_ret
             exact ⟨rfl, rfl⟩)
      · have : ¬ i ≥ 0 := by omega
        have : ¬ k ≥ 0 := by omega
        rcases h3 with h3 | h3
        · first
          | (exfalso; omega)
          | (have : ¬ (33 : Int) ≤ c.toNat := by omega
             go_enter Tryz.func177, Tryz.ntmps177
             go_wp2_with (first | (go_at_call 111; refine (mark_ix c i HI.out _).mono ?_; rintro e w' ⟨rfl, rfl⟩) | (go_at_call 111; refine (blank_ix c k HK.out _).mono ?_; rintro e w' ⟨rfl, rfl⟩))
             go_ret
             exact ⟨rfl, rfl⟩)
        · first
          | (exfalso; omega)
          | (have : (33 : Int) ≤ c.toNat := by omega
             have : ¬ (c.toNat : Int) ≤ 126 := by omega
             go_enter Tryz.func177, Tryz.ntmps177
             go_wp2_with (first | (go_at_call 111; refine (mark_ix c i HI.out _).mono ?_; rintro e w' ⟨rfl, rfl⟩) | (go_at_call 111; refine (blank_ix c k HK.out _).mono ?_; rintro e w' ⟨rfl, rfl⟩))
             go_ret
             exact ⟨rfl, rfl⟩)
end Go.Proofs.YtbbphklhnngjmaaGreatDoor

/- octet: all, Token, Target, Trim, Value. -/
namespace Go.Proofs.YtbbphklhnngjmaaGreatDoor
open Go.RowKit

set_option maxHeartbeats 1000000 in
theorem all57 (s : ByteArray) (hs : s.size ≤ 4611686018427387904) (k : Int) (p : UInt8 → Bool) (hp : ∀ c, (bits .and .i64 (clsI c) k == 0) = !p c) (w : World) :
    Calls Tryz.prog 157 #[.string s, .int .i64 k] w fun e w' => e = .returned (.bool (s.data.toList.all p)) ∧ w = w' := by
  have HP := Lib.hid hp
  clear hp
  obtain ⟨R, hR⟩ : ∃ R, R = s.data.toList.all p := ⟨_, rfl⟩
  rw [← hR]
  have HR := Lib.hid hR
  clear hR
  go_enter Tryz.func157, Tryz.ntmps157
  go_wp2_with fail
  go_loop [8] (fun i => ∃ j : Nat, j ≤ s.size ∧ i = .int .i64 j ∧ Hid ((s.data.toList.take j).all p = true)) (fun i => s.size - (intOf i).toNat)
  case atStart => exact ⟨0, Nat.zero_le _, rfl, by simp [Hid]⟩
  case round =>
    obtain ⟨j, hj, rfl, hr⟩ := hrel
    by_cases hlt : j < s.size
    · have hpc := HP.out s[j]
      obtain ⟨q, hq⟩ : ∃ q, q = p s[j] := ⟨_, rfl⟩
      rw [← hq] at hpc
      have HQ := Lib.hid hq
      clear hq
      cases q
      · have hno := Lib.hid (all_no s p j hlt HQ.out.symm)
        have hpc2 : (bits .and .i64 (clsI s[j]) k == 0) = true := hpc
        clear hpc
        go_wp2_with (go_at_call 177; refine (cls79 _ _).mono ?_; rintro e w' ⟨rfl, rfl⟩)
        go_ret
        exact ⟨by rw [HR.out, hno.out]; rfl, rfl⟩
      · have hst := Lib.hid (all_step s p j hlt hr.out HQ.out.symm)
        have hpc2 : (bits .and .i64 (clsI s[j]) k == 0) = false := hpc
        clear hpc
        go_wp2_with (go_at_call 177; refine (cls79 _ _).mono ?_; rintro e w' ⟨rfl, rfl⟩)
        go_round
        case rel => exact ⟨j + 1, by omega, by go_num, hst⟩
        case measure => simp [intOf]; omega
    · have hf := Lib.hid (all_full s p j hlt hr.out)
      go_wp2_with fail
      go_ret
      exact ⟨by rw [HR.out, hf.out]; rfl, rfl⟩

theorem all_true (s : ByteArray) (hs : s.size ≤ 4611686018427387904) (k : Int) (p : UInt8 → Bool) (hp : ∀ c, (bits .and .i64 (clsI c) k == 0) = !p c) (b : Bool) (h : s.data.toList.all p = b) (w : World) :
    Calls Tryz.prog 157 #[.string s, .int .i64 k] w fun e w' => e = .returned (.bool b) ∧ w = w' := by
  subst h; exact all57 s hs k p hp w

set_option maxHeartbeats 400000 in
theorem token14 (s : ByteArray) (hs : s.size ≤ 4611686018427387904) (w : World) :
    Calls Tryz.prog 151 #[.string s] w fun e w' => e = .returned (.bool (tokB s.data.toList)) ∧ w = w' := by
  unfold tokB
  have hl := Lib.size_eq s
  have HA := Lib.hid (all57 s hs 4 isTok cls_tok)
  generalize s.data.toList.all isTok = q at *
  by_cases h1 : 1 ≤ s.size
  · by_cases h2 : s.size ≤ 64
    · have hv : (decide (1 ≤ s.data.toList.length) && decide (s.data.toList.length ≤ 64) && q) = q := by
        rw [decide_eq_true (by omega), decide_eq_true (by omega)]; rfl
      rw [hv]
      have j1 : (1 : Int) ≤ s.size := by omega
      have j2 : (s.size : Int) ≤ 64 := by omega
      clear hv hl
      go_enter Tryz.func151, Tryz.ntmps151
      go_wp2_with (go_at_call 157; refine (HA.out _).mono ?_; rintro e w' ⟨rfl, rfl⟩)
      go_ret
      exact ⟨rfl, rfl⟩
    · have hv : (decide (1 ≤ s.data.toList.length) && decide (s.data.toList.length ≤ 64) && q) = false := by
        rw [decide_eq_false (p := s.data.toList.length ≤ 64) (by omega)]; simp
      rw [hv]
      have j1 : (1 : Int) ≤ s.size := by omega
      have j2 : ¬ (s.size : Int) ≤ 64 := by omega
      clear hv hl
      go_enter Tryz.func151, Tryz.ntmps151
      go_wp2_with fail
      go_ret
      exact ⟨rfl, rfl⟩
  · have hv : (decide (1 ≤ s.data.toList.length) && decide (s.data.toList.length ≤ 64) && q) = false := by
      rw [decide_eq_false (p := 1 ≤ s.data.toList.length) (by omega)]; simp
    rw [hv]
    have j1 : ¬ (1 : Int) ≤ s.size := by omega
    clear hv hl
    go_enter Tryz.func151, Tryz.ntmps151
    go_wp2_with fail
    go_ret
    exact ⟨rfl, rfl⟩

theorem prefix_slash (l : List UInt8) : Lib.hasPrefix l [47] = decide (l.head? = some 47) := by
  cases l with
  | nil => rfl
  | cons a r =>
    have : Lib.hasPrefix (a :: r) [47] = true ↔ a = 47 := by
      unfold Lib.hasPrefix
      rw [List.isPrefixOf_iff_prefix, List.cons_prefix_cons]
      exact ⟨fun h => h.1.symm, fun h => ⟨h.symm, List.nil_prefix⟩⟩
    by_cases h : a = 47
    · rw [this.2 h]; simp [h]
    · have h2 : ¬ Lib.hasPrefix (a :: r) [47] = true := fun e => h (this.1 e)
      simp only [Bool.not_eq_true] at h2
      rw [h2]; simp [h]
theorem slash61 (s : ByteArray) (b : Bool) (h : decide (s.data.toList.head? = some 47) = b) (w : World) :
    Calls Tryz.prog 169 #[.string s, .string ⟨#[47]⟩] w fun e w' => e = .returned (.bool b) ∧ w = w' := by
  refine (Tryz.strings_HasPrefix s ⟨#[47]⟩ w).mono fun e w' ⟨he, hw⟩ => ⟨?_, hw.symm⟩
  rw [he, ← h]
  have := prefix_slash s.data.toList
  rw [← this]

set_option maxHeartbeats 400000 in
theorem target16 (s : ByteArray) (hs : s.size ≤ 4611686018427387904) (w : World) :
    Calls Tryz.prog 152 #[.string s] w fun e w' => e = .returned (.bool (tgtB s.data.toList)) ∧ w = w' := by
  unfold tgtB
  have HA := Lib.hid (all57 s hs 8 isVis cls_vis)
  generalize s.data.toList.all isVis = q at *
  obtain ⟨b, hb⟩ : ∃ b, decide (s.data.toList.head? = some 47) = b := ⟨_, rfl⟩
  have HB := Lib.hid (slash61 s b hb)
  rw [hb]
  clear hb
  cases b
  · rw [Bool.false_and]
    go_enter Tryz.func152, Tryz.ntmps152
    go_wp2_with (go_at_call 169; refine (HB.out _).mono ?_; rintro e w' ⟨rfl, rfl⟩)
    go_ret
    exact ⟨rfl, rfl⟩
  · rw [Bool.true_and]
    go_enter Tryz.func152, Tryz.ntmps152
    go_wp2_with (first | (go_at_call 169; refine (HB.out _).mono ?_; rintro e w' ⟨rfl, rfl⟩) | (go_at_call 157; refine (HA.out _).mono ?_; rintro e w' ⟨rfl, rfl⟩))
    go_ret
    exact ⟨rfl, rfl⟩

set_option maxHeartbeats 400000 in
theorem trim23 (s : ByteArray) (hs : s.size ≤ 4611686018427387904) (w : World) :
    Calls Tryz.prog 140 #[.string s] w fun e w' => e = .returned (.string ⟨(trimB s.data.toList).toArray⟩) ∧ Below w.heap.size w w' := by
  have hcon := Any.strings_Trim_laid Tryz.lays160 (by kernel_rfl) s ⟨#[32, 9]⟩ w (by omega) (by decide) (ascii_of_all (by decide))
  have HC := Lib.hid hcon
  clear hcon
  go_enter Tryz.func140, Tryz.ntmps140
  go_wp2_with fail
  refine HC.out.mono ?_
  rintro e w1 ⟨rfl, hb⟩
  go_wp2_with fail
  go_ret
  exact ⟨rfl, hb⟩
theorem bytes_beq (a b : ByteArray) : (a.toList == b.toList) = decide (a.data.toList = b.data.toList) := by
  rw [ByteArray.toList_eq, ByteArray.toList_eq]
  by_cases h : a.data.toList = b.data.toList
  · rw [decide_eq_true h, h]; simp
  · rw [decide_eq_false h]; simp only [beq_eq_false_iff_ne, ne_eq]; exact h

set_option maxHeartbeats 400000 in
theorem value18 (s : ByteArray) (hs : s.size ≤ 4611686018427387904) (w : World) :
    Calls Tryz.prog 137 #[.string s] w fun e w' => e = .returned (.bool (valB s.data.toList)) ∧ Below w.heap.size w w' := by
  unfold valB
  have HA := Lib.hid (all57 s hs 16 isVal cls_val)
  generalize s.data.toList.all isVal = q at *
  have HT := Lib.hid (trim23 s hs w)
  have hq : ((⟨(trimB s.data.toList).toArray⟩ : ByteArray).toList == s.toList) = decide (trimB s.data.toList = s.data.toList) := bytes_beq _ _
  obtain ⟨t, ht⟩ : ∃ t : ByteArray, t = ⟨(trimB s.data.toList).toArray⟩ := ⟨_, rfl⟩
  obtain ⟨b, hb⟩ : ∃ b, b = decide (trimB s.data.toList = s.data.toList) := ⟨_, rfl⟩
  rw [← ht, ← hb] at hq
  rw [← ht] at HT
  rw [← hb]
  clear ht hb
  cases b
  · rw [Bool.false_and]
    go_enter Tryz.func137, Tryz.ntmps137
    go_wp2_with fail
    refine HT.out.mono ?_
    rintro e w1 ⟨rfl, hb⟩
    go_wp2_with fail
    go_ret
    exact ⟨rfl, hb⟩
  · rw [Bool.true_and]
    go_enter Tryz.func137, Tryz.ntmps137
    go_wp2_with fail
    refine HT.out.mono ?_
    rintro e w1 ⟨rfl, hb⟩
    go_wp2_with (go_at_call 157; refine (HA.out _).mono ?_; rintro e w' ⟨rfl, rfl⟩)
    go_ret
    exact ⟨rfl, hb⟩
end Go.Proofs.YtbbphklhnngjmaaGreatDoor

/- octet: Lower, Fold; the reference's Lower. -/
namespace Go.Proofs.YtbbphklhnngjmaaGreatDoor
open Go.RowKit

/-- A block's cells, from its first on, are these bytes, and may be written. -/
def BytesAre (w : World) (b : Nat) (l : List UInt8) : Prop := ∀ (i : Nat) (c : UInt8), l[i]? = some c → w.cell? ⟨b, i, none⟩ = some (.int .u8 (c.toNat : Int)) ∧ w.frozen? ⟨b, i, none⟩ = false
theorem BytesAre.put {w : World} {b : Nat} {l : List UInt8} (h : BytesAre w b l) (j : Nat) (x : UInt8) : BytesAre (w.setCell ⟨b, j, none⟩ (.int .u8 (x.toNat : Int))) b (l.set j x) := by
  intro i c hi
  rw [List.getElem?_set] at hi
  by_cases e : j = i
  · subst e
    rw [if_pos rfl] at hi
    split at hi
    · rename_i hlt
      injection hi with hi
      subst hi
      obtain ⟨h1, h2⟩ := h j l[j] (List.getElem?_eq_getElem hlt)
      exact ⟨World.cell?_setCell_same _ _ _ h1, by rw [World.frozen?_setCell]; exact h2⟩
    · cases hi
  · rw [if_neg e] at hi
    obtain ⟨h1, h2⟩ := h i c hi
    exact ⟨by rw [World.cell?_setCell_other _ _ _ _ (by simp <;> omega), h1], by rw [World.frozen?_setCell]; exact h2⟩
theorem BytesAre.below {w w' : World} {b : Nat} {l : List UInt8} (h : BytesAre w b l) (hb : Below w.heap.size w w') (hlt : b < w.heap.size) : BytesAre w' b l := fun i c hi => by
  obtain ⟨hc, hf⟩ := bcell hb
  exact ⟨(hc _ _ hlt).trans (h i c hi).1, (hf _ _ hlt).trans (h i c hi).2⟩
theorem below_bytesWorld (w : World) (e : TypeId) (s : ByteArray) : Below w.heap.size w (Lib.bytesWorld w e s) :=
  ⟨rfl, rfl, rfl, by rw [Lib.bytesWorld_size]; omega, fun j hj => Lib.bytesWorld_at_old w e s j hj⟩
theorem bytesAre_bytesWorld (w : World) (e : TypeId) (s : ByteArray) : BytesAre (Lib.bytesWorld w e s) w.heap.size s.data.toList := by
  intro i c hi
  have hlt : i < s.size := by
    have := (List.getElem?_eq_some_iff.1 hi).1
    rw [Lib.size_eq]; exact this
  refine ⟨?_, ?_⟩
  · rw [Lib.bytesWorld_cell w e s i hlt, List.getD_eq_getElem?_getD, hi]; rfl
  · have hz : s.size ≤ (Lib.bytesCells w e s).size := by
      simp only [Lib.bytesCells, Array.size_append, Array.size_map]
      show s.size ≤ s.size + _
      omega
    simp only [World.frozen?, Lib.bytesWorld_at_new]
    simp
    omega
/-- The bytes as they stand when j of them are small. -/
def lowTo (l : List UInt8) (j : Nat) : List UInt8 := (l.take j).map lowC ++ l.drop j
theorem lowTo_zero (l : List UInt8) : lowTo l 0 = l := by simp [lowTo]
theorem lowTo_at (l : List UInt8) (j : Nat) (c : UInt8) (h : l[j]? = some c) : (lowTo l j)[j]? = some c := by
  have hlt := (List.getElem?_eq_some_iff.1 h).1
  unfold lowTo
  rw [List.getElem?_append_right (by simp; omega)]
  simp
  rw [show j - min j l.length = 0 by omega, Nat.add_zero, h]
theorem lowTo_step (l : List UInt8) (j : Nat) (c : UInt8) (h : l[j]? = some c) : (lowTo l j).set j (lowC c) = lowTo l (j + 1) := by
  obtain ⟨hlt, rfl⟩ := List.getElem?_eq_some_iff.1 h
  unfold lowTo
  have hm : ((l.take j).map lowC).length = j := by rw [List.length_map, List.length_take]; omega
  rw [List.set_append_right _ _ (by omega), hm, Nat.sub_self, List.drop_eq_getElem_cons hlt, List.set_cons_zero, List.take_add_one, List.getElem?_eq_getElem hlt, Option.toList_some, List.map_append, List.append_assoc]
  rfl
theorem lowTo_full (l : List UInt8) (j : Nat) (h : l.length ≤ j) : lowTo l j = l.map lowC := by
  unfold lowTo
  rw [List.take_of_length_le h, List.drop_of_length_le h, List.append_nil]
theorem back_string (w : World) (src dst e : TypeId) (b : Nat) (cap n : Nat) (l : List UInt8) (hs : Tryz.prog.underlying src = some (.slice e)) (he : Tryz.prog.underlying e = some (.int .u8)) (hd : Tryz.prog.underlying dst = some .string)
    (hn : n = l.length) (h : BytesAre w b l) : (convert src dst (.slice (some ⟨b, 0, none⟩) n cap)).run Tryz.prog w = .ok (.string ⟨l.toArray⟩) w := by
  subst hn
  refine run_convert_bytes_back w src dst e ⟨b, 0, none⟩ cap l hs he hd fun j hj => ?_
  have := (h j l[j] (List.getElem?_eq_getElem hj)).1
  unfold Addr.add
  by_cases e0 : j = 0
  · subst e0; simpa using this
  · simp [e0]; exact this

set_option maxRecDepth 100000 in
set_option maxHeartbeats 1000000 in
theorem lower20 (s : ByteArray) (hs : s.size ≤ 4611686018427387904) (w : World) :
    Calls Tryz.prog 121 #[.string s] w fun e w' => e = .returned (.string ⟨(s.data.toList.map lowC).toArray⟩) ∧ Below w.heap.size w w' := by
  have hcv := Lib.run_convert_string_bytes (P := Tryz.prog) w 9 101 5 s Tryz.underlying9 Tryz.underlying101 Tryz.underlying5
  have B0 := bytesAre_bytesWorld w 5 s
  have L0 := below_bytesWorld w 5 s
  have Z0 : w.heap.size < (Lib.bytesWorld w 5 s).heap.size := by rw [Lib.bytesWorld_size]; omega
  generalize Lib.bytesWorld w 5 s = w0 at *
  generalize grownCap w s.size 0 5 = cap at *
  have hl := Lib.size_eq s
  have HB := Lib.hid B0
  have HZ := Lib.hid Z0
  have HL := Lib.hid hl
  clear B0 Z0 hl
  go_enter Tryz.func121, Tryz.ntmps121
  go_wp2_with fail
  clear hcv
  go_loopw [10] (fun i wr => ∃ j : Nat, j ≤ s.size ∧ i = .int .i64 (j : Int) ∧ Hid (BytesAre wr w.heap.size (lowTo s.data.toList j)) ∧ Below w.heap.size w wr) (fun i _ => s.size - (intOf i).toNat)
  case atStart => exact ⟨0, Nat.zero_le _, rfl, by rw [lowTo_zero]; exact HB, L0⟩
  case round =>
    clear HB HZ L0
    obtain ⟨j, hj, rfl, O, hb⟩ := hrel
    by_cases hlt : j < s.size
    · have hg := toList_get s j hlt
      have hput := O.out.put j (lowC s[j])
      rw [lowTo_step _ j _ hg] at hput
      have HPut := Lib.hid hput
      obtain ⟨oj, zj⟩ := O.out j s[j] (lowTo_at _ j _ hg)
      have hbn := hb.setCell (p := ⟨w.heap.size, j, none⟩) (Nat.le_refl _) (.int .u8 ((lowC s[j]).toNat : Int))
      clear hput hg
      go_wp2_with (go_at_call 124; refine (lower63 _ _).mono ?_; rintro e w' ⟨rfl, rfl⟩)
      go_roundw
      case rel => exact ⟨j + 1, hlt, by go_num, HPut, hbn⟩
      case measure => simp [intOf]; omega
    · obtain rfl : j = s.size := by omega
      have hO := O.out
      have hll := HL.out
      rw [lowTo_full _ _ (by omega)] at hO
      have hbk := fun cap => back_string wr 101 9 5 w.heap.size cap s.size (s.data.toList.map lowC) Tryz.underlying101 Tryz.underlying5 Tryz.underlying9 (by rw [List.length_map]; exact hll) hO
      clear hO hll O
      go_wp2_with fail
      go_ret
      exact ⟨rfl, hb⟩

theorem fold_step (a b : ByteArray) (j : Nat) (ha : j < a.size) (hb : j < b.size) (h : (a.data.toList.take j).map lowC = (b.data.toList.take j).map lowC) (he : lowC a[j] = lowC b[j]) :
    (a.data.toList.take (j + 1)).map lowC = (b.data.toList.take (j + 1)).map lowC := by
  rw [take_snoc a j ha, take_snoc b j hb, List.map_append, List.map_append, h]; simp [he]
theorem fold_no (a b : ByteArray) (j : Nat) (ha : j < a.size) (hb : j < b.size) (he : lowC a[j] ≠ lowC b[j]) : a.data.toList.map lowC ≠ b.data.toList.map lowC := by
  intro h
  have h1 : (a.data.toList.map lowC)[j]? = (b.data.toList.map lowC)[j]? := by rw [h]
  rw [List.getElem?_map, List.getElem?_map, toList_get a j ha, toList_get b j hb] at h1
  simp at h1
  exact he h1
theorem byte_ne {c d : UInt8} (h : c ≠ d) : (((c.toNat : Int) != (d.toNat : Int))) = true := by
  simp only [bne_iff_ne, ne_eq]
  intro e
  exact h (UInt8.toNat_inj.1 (by omega))
set_option maxRecDepth 100000 in
set_option maxHeartbeats 1000000 in
theorem fold22 (a b : ByteArray) (hsb : b.size ≤ 4611686018427387904) (R : Bool) (hR : R = decide (a.data.toList.map lowC = b.data.toList.map lowC)) (w : World) :
    Calls Tryz.prog 105 #[.string a, .string b] w fun e w' => e = .returned (.bool R) ∧ Below w.heap.size w w' := by
  have hla := Lib.size_eq a
  have hlb := Lib.size_eq b
  by_cases hsz : a.size = b.size
  · have HR := Lib.hid hR
    clear hR
    have hne : ((a.size : Int) != (b.size : Int)) = false := by simp [hsz]
    have HS := Lib.hid hsz
    have hle : a.size ≤ b.size := by omega
    have HLA := Lib.hid hla
    have HLB := Lib.hid hlb
    clear hsz hla hlb
    go_enter Tryz.func105, Tryz.ntmps105
    go_wp2_with fail
    clear hne
    go_loopw [13] (fun i wr => ∃ j : Nat, j ≤ a.size ∧ i = .int .i64 (j : Int) ∧ Hid ((a.data.toList.take j).map lowC = (b.data.toList.take j).map lowC) ∧ Below w.heap.size w wr) (fun i _ => a.size - (intOf i).toNat)
    case atStart => exact ⟨0, Nat.zero_le _, rfl, rfl, Below.refl _ _⟩
    case round =>
      obtain ⟨j, hj, rfl, hr, hbl⟩ := hrel
      by_cases hlt : j < a.size
      · have hlb : j < b.size := by omega
        have j1 : (j : Int) < a.size := by omega
        have j2 : (j : Int) < b.size := by omega
        by_cases he : lowC a[j] = lowC b[j]
        · have hst := Lib.hid (fold_step a b j hlt hlb hr.out he)
          have hq : (((lowC a[j]).toNat : Int) != ((lowC b[j]).toNat : Int)) = false := by rw [he]; simp
          clear he
          go_wp2_with fail
          go_quiet ((go_at_call 124; exact Calls.quiet_of_same (calls_flip (lower63 _ _))))
          have hbn : ∀ n, Below w.heap.size w (wr.drewN n) := fun n => hbl.trans ⟨rfl, rfl, rfl, Nat.le_refl _, fun _ _ => rfl⟩
          go_wp2_with fail
          go_roundw
          case rel => exact ⟨j + 1, hlt, by go_num, hst, hbn _⟩
          case measure => simp [intOf]; omega
        · have hno := Lib.hid (fold_no a b j hlt hlb he)
          have hq := byte_ne he
          clear he
          go_wp2_with fail
          go_quiet ((go_at_call 124; exact Calls.quiet_of_same (calls_flip (lower63 _ _))))
          have hbn : ∀ n, Below w.heap.size w (wr.drewN n) := fun n => hbl.trans ⟨rfl, rfl, rfl, Nat.le_refl _, fun _ _ => rfl⟩
          go_wp2_with fail
          go_ret
          exact ⟨by rw [HR.out, decide_eq_false hno.out]; rfl, hbn _⟩
      · obtain rfl : j = a.size := by omega
        have h1 := hr.out
        have hs2 := HS.out
        have h2 := HLA.out
        have h3 := HLB.out
        rw [List.take_of_length_le (by omega), List.take_of_length_le (by omega)] at h1
        have H1 := Lib.hid h1
        clear h1 hs2 h2 h3
        go_wp2_with fail
        go_ret
        exact ⟨by rw [HR.out, decide_eq_true H1.out]; rfl, hbl⟩
  · have hno : R = false := by
      rw [hR]
      apply decide_eq_false
      intro e
      have := congrArg List.length e
      simp only [List.length_map] at this
      omega
    subst hno
    have hne : ((a.size : Int) != (b.size : Int)) = true := by simp; omega
    clear hR hla hlb hsz
    go_enter Tryz.func105, Tryz.ntmps105
    go_wp2_with fail
    go_ret
    exact ⟨rfl, Below.refl _ _⟩
end Go.Proofs.YtbbphklhnngjmaaGreatDoor

/- Reading digits with strconv: ParseUint, ParseInt at the bases 10 and 16. -/
namespace Go.Proofs.YtbbphklhnngjmaaGreatDoor
open Go.RowKit

/-- A digit's number; -1: it is none. -/
def dgt (c : UInt8) : Int := if 48 ≤ c.toNat ∧ c.toNat ≤ 57 then (c.toNat : Int) - 48 else if 97 ≤ c.toNat ∧ c.toNat ≤ 102 then (c.toNat : Int) - 87 else if 65 ≤ c.toNat ∧ c.toNat ≤ 70 then (c.toNat : Int) - 55 else -1
theorem dgt_dec (c : UInt8) (h : isDec c = true) : 0 ≤ dgt c ∧ dgt c < 10 ∧ (c.toNat : Int) = dgt c + 48 := by
  have : ∀ c : UInt8, isDec c = true → 0 ≤ dgt c ∧ dgt c < 10 ∧ (c.toNat : Int) = dgt c + 48 := by apply all256; decide +kernel
  exact this c h
theorem dgt_af (c : UInt8) (h : isAF c = true) : 10 ≤ dgt c ∧ dgt c < 16 ∧ bits .or .u8 (c.toNat : Int) 32 = dgt c + 87 ∧ ¬ (48 ≤ c.toNat ∧ c.toNat ≤ 57) ∧ c.toNat ≠ 95 := by
  have : ∀ c : UInt8, isAF c = true → 10 ≤ dgt c ∧ dgt c < 16 ∧ bits .or .u8 (c.toNat : Int) 32 = dgt c + 87 ∧ ¬ (48 ≤ c.toNat ∧ c.toNat ≤ 57) ∧ c.toNat ≠ 95 := by apply all256; decide +kernel
  exact this c h
/-- The digits' number to a base. -/
def numD (b : Int) (l : List UInt8) : Int := l.foldl (fun n c => b * n + dgt c) 0
theorem numD_snoc (b : Int) (l : List UInt8) (c : UInt8) : numD b (l ++ [c]) = b * numD b l + dgt c := by simp [numD]
theorem snoc_ind {P : List UInt8 → Prop} (h0 : P []) (h1 : ∀ l c, P l → P (l ++ [c])) (l : List UInt8) : P l := by
  rw [← List.reverse_reverse l]
  induction l.reverse with
  | nil => exact h0
  | cons a r ih => rw [List.reverse_cons]; exact h1 _ _ ih
theorem numD_lt (b : Nat) (p : UInt8 → Bool) (hp : ∀ c, p c = true → 0 ≤ dgt c ∧ dgt c < b) : ∀ l : List UInt8, l.all p = true → 0 ≤ numD b l ∧ numD b l < ((b ^ l.length : Nat) : Int) := by
  intro l
  refine snoc_ind (P := fun l => l.all p = true → 0 ≤ numD b l ∧ numD b l < ((b ^ l.length : Nat) : Int)) ?_ ?_ l
  · intro _; simp [numD]
  · intro l c ih h
    rw [List.all_append] at h
    simp only [List.all_cons, List.all_nil, Bool.and_true, Bool.and_eq_true] at h
    obtain ⟨h1, h2⟩ := ih h.1
    obtain ⟨h3, h4⟩ := hp c h.2
    rw [numD_snoc, List.length_append, List.length_singleton, Nat.pow_succ]
    have h5 : 0 ≤ (b : Int) * numD b l := Int.mul_nonneg (by omega) h1
    have h6 : (b : Int) * numD b l ≤ (b : Int) * (((b ^ l.length : Nat) : Int) - 1) := Int.mul_le_mul_of_nonneg_left (by omega) (by omega)
    rw [Int.mul_sub, Int.mul_one] at h6
    have h7 : ((b ^ l.length * b : Nat) : Int) = (b : Int) * ((b ^ l.length : Nat) : Int) := by rw [Int.natCast_mul, Int.mul_comm]
    rw [h7]
    omega
theorem pow10_le (n : Nat) (h : n ≤ 10) : 10 ^ n ≤ 10000000000 := Nat.pow_le_pow_right (by decide) h
theorem pow16_le (n : Nat) (h : n ≤ 8) : 16 ^ n ≤ 4294967296 := Nat.pow_le_pow_right (by decide) h
theorem hex_dgt (c : UInt8) (h : isHex c = true) : 0 ≤ dgt c ∧ dgt c < 16 := by
  unfold isHex at h
  rw [Bool.or_eq_true] at h
  rcases h with h | h
  · have := dgt_dec c h; omega
  · have := dgt_af c h; omega
theorem dec_dgt (c : UInt8) (h : isDec c = true) : 0 ≤ dgt c ∧ dgt c < 10 := by have := dgt_dec c h; omega
theorem lower130 (c : UInt8) (h : isAF c = true) (w : World) : Calls Tryz.prog 210 #[.int .u8 (c.toNat : Int)] w fun e w' => e = .returned (.int .u8 (dgt c + 87)) ∧ w = w' := by
  refine (Tryz.internal_strconv_lower (c.toNat : Int) w).mono fun e w' ⟨he, hw⟩ => ⟨?_, hw.symm⟩
  rw [he, (dgt_af c h).2.2.1]
theorem all_take (s : ByteArray) (p : UInt8 → Bool) (h : s.data.toList.all p = true) (j : Nat) : (s.data.toList.take j).all p = true := by
  rw [List.all_eq_true] at h ⊢
  exact fun x hx => h x (List.mem_of_mem_take hx)
theorem all_at (s : ByteArray) (p : UInt8 → Bool) (h : s.data.toList.all p = true) (j : Nat) (hj : j < s.size) : p s[j] = true := by
  rw [List.all_eq_true] at h
  exact h _ (List.mem_of_getElem? (toList_get s j hj))

theorem emp_false' (t : ByteArray) (h : 0 < t.size) : t.toList.isEmpty = false := by
  rw [ByteArray.toList_eq]
  cases hl : t.data.toList with
  | nil => have := Lib.size_eq t; rw [hl, List.length_nil] at this; omega
  | cons a r => rfl

set_option maxRecDepth 1000000 in
set_option maxHeartbeats 2000000 in
theorem puint10 (s : ByteArray) (h0 : 0 < s.size) (hs : s.size ≤ 10) (hd : s.data.toList.all isDec = true) (w : World) :
    Calls Tryz.prog 203 #[.string s, .int .i64 10, .int .i64 64] w fun e w' => e = .returned (.tuple #[.int .u64 (numD 10 s.data.toList), .nilIface]) ∧ Below w.heap.size w w' := by
  have hcv := Lib.run_convert_string_bytes (P := Tryz.prog) w 9 101 5 s Tryz.underlying9 Tryz.underlying101 Tryz.underlying5
  have B0 := bytesAre_bytesWorld w 5 s
  have L0 := below_bytesWorld w 5 s
  generalize Lib.bytesWorld w 5 s = w0 at *
  generalize grownCap w s.size 0 5 = cap at *
  obtain ⟨R, hR⟩ : ∃ R, R = numD 10 s.data.toList := ⟨_, rfl⟩
  rw [← hR]
  have HR := Lib.hid hR
  have HB := Lib.hid B0
  have he := emp_false' s h0
  obtain ⟨M, hM⟩ : ∃ M, IntKind.u64.wrap (IntKind.u64.wrap 18446744073709551616 - 1) = M := ⟨_, rfl⟩
  have hM1 : 1000000000000 ≤ M := by rw [← hM]; decide
  have HD := Lib.hid hd
  clear hR B0 hd
  go_enter Tryz.func203, Tryz.ntmps203
  go_wp2_with fail
  clear hcv he
  try simp only [hM]
  clear hM
  go_loop [12, 13, 101] (fun u n i => ∃ j : Nat, j ≤ s.size ∧ u = .bool false ∧ i = .int .i64 (j : Int) ∧ n = .int .u64 (numD 10 (s.data.toList.take j))) (fun _ _ i => s.size - (intOf i).toNat)
  case atStart => exact ⟨0, Nat.zero_le _, rfl, rfl, rfl⟩
  case round =>
    obtain ⟨j, hj, rfl, rfl, rfl⟩ := hrel
    by_cases hlt : j < s.size
    · have hst : numD 10 (s.data.toList.take (j + 1)) = 10 * numD 10 (s.data.toList.take j) + dgt s[j] := by rw [take_snoc s j hlt, numD_snoc]
      have hnl := numD_lt 10 isDec (fun c h => dec_dgt c h) (s.data.toList.take j) (all_take s _ HD.out j)
      have hpw : 10 ^ (s.data.toList.take j).length ≤ 10 ^ 9 := Nat.pow_le_pow_right (by decide) (by rw [List.length_take]; omega)
      have hn0 : 0 ≤ numD 10 (s.data.toList.take j) := hnl.1
      have hn1 : numD 10 (s.data.toList.take j) < 1000000000 := by
        have := hnl.2
        have h2 : ((10 ^ (s.data.toList.take j).length : Nat) : Int) ≤ ((10 ^ 9 : Nat) : Int) := by exact_mod_cast hpw
        have h3 : ((10 ^ 9 : Nat) : Int) = 1000000000 := by decide
        have h4 : (((10 : Nat) : Int)) = 10 := rfl
        rw [h4] at this
        omega
      obtain ⟨oj, zj⟩ := HB.out j s[j] (toList_get s j hlt)
      have hok := all_at s _ HD.out j hlt
      obtain ⟨n, hn⟩ : ∃ n, n = numD 10 (s.data.toList.take j) := ⟨_, rfl⟩
      rw [← hn] at hst hn0 hn1 ⊢
      have HS := Lib.hid hst
      clear hst hnl hpw hn
      have hdc : isDec s[j] = true := hok
      have hdd := dgt_dec s[j] hdc
      obtain ⟨d, hdq⟩ : ∃ d, d = dgt s[j] := ⟨_, rfl⟩
      rw [← hdq] at hdd HS
      obtain ⟨g1, g2, g3⟩ := hdd
      have HDD := Lib.hid hdq
      have ov : w0.cell? ⟨w.heap.size, j, none⟩ = some (.int .u8 (d + 48)) := by rw [oj, g3]
      have m1 : ((d + 48) == 95) = false := beq_eq_false_iff_ne.2 (by omega)
      have m2 : (48 : Int) ≤ d + 48 := by omega
      have m3 : d + 48 ≤ 57 := by omega
      clear oj g3 hok hdc hdq
      go_wp2_with fail
      go_round
      case rel => exact ⟨j + 1, by omega, rfl, by go_num, by rw [HS.out]; go_num⟩
      case measure => simp [intOf]; omega
    · obtain rfl : j = s.size := by omega
      have hz := Lib.size_eq s
      rw [List.take_of_length_le (by omega), ← HR.out]
      clear hz
      go_wp2_with fail
      go_ret2
      exact ⟨rfl, L0⟩

set_option maxRecDepth 1000000 in
set_option maxHeartbeats 2000000 in
theorem puint16 (s : ByteArray) (h0 : 0 < s.size) (hs : s.size ≤ 8) (hd : s.data.toList.all isHex = true) (w : World) :
    Calls Tryz.prog 203 #[.string s, .int .i64 16, .int .i64 64] w fun e w' => e = .returned (.tuple #[.int .u64 (numD 16 s.data.toList), .nilIface]) ∧ Below w.heap.size w w' := by
  have hcv := Lib.run_convert_string_bytes (P := Tryz.prog) w 9 101 5 s Tryz.underlying9 Tryz.underlying101 Tryz.underlying5
  have B0 := bytesAre_bytesWorld w 5 s
  have L0 := below_bytesWorld w 5 s
  generalize Lib.bytesWorld w 5 s = w0 at *
  generalize grownCap w s.size 0 5 = cap at *
  obtain ⟨R, hR⟩ : ∃ R, R = numD 16 s.data.toList := ⟨_, rfl⟩
  rw [← hR]
  have HR := Lib.hid hR
  have HB := Lib.hid B0
  have he := emp_false' s h0
  obtain ⟨M, hM⟩ : ∃ M, IntKind.u64.wrap (IntKind.u64.wrap 18446744073709551616 - 1) = M := ⟨_, rfl⟩
  have hM1 : 1000000000000 ≤ M := by rw [← hM]; decide
  have HD := Lib.hid hd
  clear hR B0 hd
  go_enter Tryz.func203, Tryz.ntmps203
  go_wp2_with fail
  clear hcv he
  try simp only [hM]
  clear hM
  go_loop [12, 13, 101] (fun u n i => ∃ j : Nat, j ≤ s.size ∧ u = .bool false ∧ i = .int .i64 (j : Int) ∧ n = .int .u64 (numD 16 (s.data.toList.take j))) (fun _ _ i => s.size - (intOf i).toNat)
  case atStart => exact ⟨0, Nat.zero_le _, rfl, rfl, rfl⟩
  case round =>
    obtain ⟨j, hj, rfl, rfl, rfl⟩ := hrel
    by_cases hlt : j < s.size
    · have hst : numD 16 (s.data.toList.take (j + 1)) = 16 * numD 16 (s.data.toList.take j) + dgt s[j] := by rw [take_snoc s j hlt, numD_snoc]
      have hnl := numD_lt 16 isHex (fun c h => hex_dgt c h) (s.data.toList.take j) (all_take s _ HD.out j)
      have hpw : 16 ^ (s.data.toList.take j).length ≤ 16 ^ 7 := Nat.pow_le_pow_right (by decide) (by rw [List.length_take]; omega)
      have hn0 : 0 ≤ numD 16 (s.data.toList.take j) := hnl.1
      have hn1 : numD 16 (s.data.toList.take j) < 268435456 := by
        have := hnl.2
        have h2 : ((16 ^ (s.data.toList.take j).length : Nat) : Int) ≤ ((16 ^ 7 : Nat) : Int) := by exact_mod_cast hpw
        have h3 : ((16 ^ 7 : Nat) : Int) = 268435456 := by decide
        have h4 : (((16 : Nat) : Int)) = 16 := rfl
        rw [h4] at this
        omega
      obtain ⟨oj, zj⟩ := HB.out j s[j] (toList_get s j hlt)
      have hok := all_at s _ HD.out j hlt
      obtain ⟨n, hn⟩ : ∃ n, n = numD 16 (s.data.toList.take j) := ⟨_, rfl⟩
      rw [← hn] at hst hn0 hn1 ⊢
      have HS := Lib.hid hst
      clear hst hnl hpw hn
      by_cases hdc : isDec s[j] = true
      · have hdd := dgt_dec s[j] hdc
        obtain ⟨d, hdq⟩ : ∃ d, d = dgt s[j] := ⟨_, rfl⟩
        rw [← hdq] at hdd HS
        obtain ⟨g1, g2, g3⟩ := hdd
        have HDD := Lib.hid hdq
        have ov : w0.cell? ⟨w.heap.size, j, none⟩ = some (.int .u8 (d + 48)) := by rw [oj, g3]
        have m1 : ((d + 48) == 95) = false := beq_eq_false_iff_ne.2 (by omega)
        have m2 : (48 : Int) ≤ d + 48 := by omega
        have m3 : d + 48 ≤ 57 := by omega
        clear oj g3 hok hdc hdq
        go_wp2_with fail
        go_round
        case rel => exact ⟨j + 1, by omega, rfl, by go_num, by rw [HS.out]; go_num⟩
        case measure => simp [intOf]; omega
      · have hac : isAF s[j] = true := by
          unfold isHex at hok
          rw [Bool.or_eq_true] at hok
          exact hok.resolve_left hdc
        have hdd := dgt_af s[j] hac
        have HL := Lib.hid (lower130 s[j] hac)
        have hc8 := byte_lt s[j]
        obtain ⟨c, hc⟩ : ∃ c, c = s[j] := ⟨_, rfl⟩
        rw [← hc] at oj hdd HL HS hc8
        obtain ⟨d, hdq⟩ : ∃ d, d = dgt c := ⟨_, rfl⟩
        rw [← hdq] at hdd HL HS
        obtain ⟨g1, g2, g3, g4, g5⟩ := hdd
        have m1 : ((c.toNat : Int) == 95) = false := beq_eq_false_iff_ne.2 (by omega)
        have m2 : (97 : Int) ≤ d + 87 := by omega
        have m3 : d + 87 ≤ 122 := by omega
        have hq : ¬ (48 : Int) ≤ c.toNat ∨ ((48 : Int) ≤ c.toNat ∧ ¬ (c.toNat : Int) ≤ 57) := by omega
        clear g3 g4 g5 hok hdc hac hc hdq
        rcases hq with hq | ⟨hq, hq2⟩
        all_goals
          go_wp2_with (go_at_call 210; refine (HL.out _).mono ?_; rintro e w' ⟨rfl, rfl⟩)
          go_round
          case rel => exact ⟨j + 1, by omega, rfl, by go_num, by rw [HS.out]; go_num⟩
          case measure => simp [intOf]; omega
    · obtain rfl : j = s.size := by omega
      have hz := Lib.size_eq s
      rw [List.take_of_length_le (by omega), ← HR.out]
      clear hz
      go_wp2_with fail
      go_ret2
      exact ⟨rfl, L0⟩
end Go.Proofs.YtbbphklhnngjmaaGreatDoor

/- Reading digits: ParseInt, octet's number, Dec, Hex. -/
namespace Go.Proofs.YtbbphklhnngjmaaGreatDoor
open Go.RowKit

/-- What Dec and Hex return: the number, the error's number. -/
def numR (b : Int) (m : Nat) (p : UInt8 → Bool) (l : List UInt8) (most : Int) : Int × Int :=
  if l.length < 1 ∨ m < l.length ∨ l.all p = false then (0, 2) else if most < numD b l then (0, 3) else (numD b l, 0)
def numV (r : Int × Int) : Value := .tuple #[.int .i64 r.1, .int .i64 r.2]
/-- The variable of a syntax error holds an error. -/
def Syn (w : World) : Prop := 7 < w.heap.size ∧ ∃ te pe, w.cell? ⟨7, 0, none⟩ = some (.iface te pe)
theorem Syn.below {w w' : World} (h : Syn w) (hb : Below w.heap.size w w') : Syn w' := by
  obtain ⟨h1, te, pe, h2⟩ := h
  exact ⟨Nat.lt_of_lt_of_le h1 hb.size, te, pe, by rw [(bcell hb).1 _ _ h1]; exact h2⟩
theorem empty_of (s : ByteArray) (h : ¬ 0 < s.size) : s = ⟨#[]⟩ := by
  cases s with
  | mk d =>
    have : d.size = 0 := by have : d.size = (ByteArray.mk d).size := rfl; omega
    have h2 : d = #[] := Array.eq_empty_of_size_eq_zero this
    rw [h2]

theorem bound10 (s : ByteArray) (hs : s.size ≤ 10) (hd : s.data.toList.all isDec = true) : 0 ≤ numD 10 s.data.toList ∧ numD 10 s.data.toList < 10000000000 := by
  have h := numD_lt 10 isDec (fun c h => dec_dgt c h) s.data.toList hd
  have hpw : 10 ^ s.data.toList.length ≤ 10 ^ 10 := Nat.pow_le_pow_right (by decide) (by rw [← Lib.size_eq]; omega)
  have h2 : ((10 ^ s.data.toList.length : Nat) : Int) ≤ ((10 ^ 10 : Nat) : Int) := by exact_mod_cast hpw
  have h3 : ((10 ^ 10 : Nat) : Int) = 10000000000 := by decide
  have h4 : (((10 : Nat) : Int)) = 10 := rfl
  rw [h4] at h
  omega
set_option maxRecDepth 1000000 in
set_option maxHeartbeats 2000000 in
theorem pint10 (s : ByteArray) (h0 : 0 < s.size) (hs : s.size ≤ 10) (hd : s.data.toList.all isDec = true) (w : World) :
    Calls Tryz.prog 196 #[.string s, .int .i64 10, .int .i64 64] w fun e w' => e = .returned (.tuple #[.int .i64 (numD 10 s.data.toList), .nilIface]) ∧ Below w.heap.size w w' := by
  obtain ⟨n0, n1⟩ := bound10 s hs hd
  have HU := Lib.hid (puint10 s h0 hs hd)
  have he := emp_false' s h0
  have hok := all_at s _ hd 0 h0
  have hne : ((s[0].toNat : Int) == 43) = false ∧ ((s[0].toNat : Int) == 45) = false := by
    have : ∀ c : UInt8, isDec c = true → ((c.toNat : Int) == 43) = false ∧ ((c.toNat : Int) == 45) = false := by apply all256; decide +kernel
    exact this _ hok
  obtain ⟨e1, e2⟩ := hne
  clear hok hd
  generalize numD 10 s.data.toList = n at *
  have m0 : (0 : Int) < s.size := by omega
  go_enter Tryz.func196, Tryz.ntmps196
  go_wp2_with fail
  refine (HU.out _).mono ?_
  rintro e w1 ⟨rfl, hb⟩
  go_wp2_with fail
  go_ret2
  exact ⟨rfl, hb⟩
set_option maxRecDepth 100000 in
set_option maxHeartbeats 1000000 in
theorem ppub10 (s : ByteArray) (h0 : 0 < s.size) (hs : s.size ≤ 10) (hd : s.data.toList.all isDec = true) (w : World) :
    Calls Tryz.prog 178 #[.string s, .int .i64 10, .int .i64 64] w fun e w' => e = .returned (.tuple #[.int .i64 (numD 10 s.data.toList), .nilIface]) ∧ Below w.heap.size w w' := by
  have HU := Lib.hid (pint10 s h0 hs hd)
  clear hd
  generalize numD 10 s.data.toList = n at *
  go_enter Tryz.func178, Tryz.ntmps178
  go_wp2_with fail
  refine (HU.out _).mono ?_
  rintro e w1 ⟨rfl, hb⟩
  go_wp2_with fail
  go_ret2
  exact ⟨rfl, hb⟩
set_option maxRecDepth 100000 in
set_option maxHeartbeats 1000000 in
theorem pempty10 (w : World) (hw : Syn w) :
    Calls Tryz.prog 178 #[.string ⟨#[]⟩, .int .i64 10, .int .i64 64] w fun e w' => (∃ N, e = .returned (.tuple #[.int .i64 0, .iface 226 (.pointer (some ⟨N, 0, none⟩))])) ∧ Below w.heap.size w w' := by
  have HU := Lib.hid (fun W => Tryz.internal_strconv_ParseInt_empty 10 64 W)
  obtain ⟨_, te, pe, hc⟩ := hw
  have HE := Lib.hid (Tryz.strconv_toError_syntax ⟨#[80, 97, 114, 115, 101, 73, 110, 116]⟩ ⟨#[]⟩ 10 64 (.iface te pe) w (by decide) hc (.inr ⟨te, pe, rfl⟩))
  clear hc
  go_enter Tryz.func178, Tryz.ntmps178
  go_wp2_with fail
  refine (HU.out _).mono ?_
  rintro e w1 ⟨rfl, rfl⟩
  go_wp2_with fail
  refine HE.out.mono ?_
  rintro e w2 ⟨N, rfl, _, _, hb⟩
  go_wp2_with fail
  go_ret2
  exact ⟨⟨N, rfl⟩, hb⟩
set_option maxRecDepth 100000 in
set_option maxHeartbeats 1000000 in
theorem number10 (s : ByteArray) (hs : s.size ≤ 10) (hd : s.data.toList.all isDec = true) (most : Int) (w : World) (hw : Syn w) :
    Calls Tryz.prog 158 #[.string s, .int .i64 10, .int .i64 most] w fun e w' => e = .returned (numV (numR 10 10 isDec s.data.toList most)) ∧ Below w.heap.size w w' := by
  have hz := Lib.size_eq s
  by_cases h0 : 0 < s.size
  · have HU := Lib.hid (ppub10 s h0 hs hd)
    have hb := bound10 s hs hd
    have hv : numR 10 10 isDec s.data.toList most = if most < numD 10 s.data.toList then (0, 3) else (numD 10 s.data.toList, 0) := by
      unfold numR
      rw [if_neg (by rintro (h | h | h); (· omega); (· omega); (· rw [hd] at h; cases h))]
    rw [hv]
    clear hv hd hz
    generalize numD 10 s.data.toList = n at *
    obtain ⟨n0, n1⟩ := hb
    by_cases hm : most < n
    · rw [if_pos hm]
      have : n > most := hm
      go_enter Tryz.func158, Tryz.ntmps158
      go_wp2_with fail
      refine (HU.out _).mono ?_
      rintro e w1 ⟨rfl, hb⟩
      go_wp2_with fail
      go_ret2
      exact ⟨rfl, hb⟩
    · rw [if_neg hm]
      have : ¬ n > most := hm
      go_enter Tryz.func158, Tryz.ntmps158
      go_wp2_with fail
      refine (HU.out _).mono ?_
      rintro e w1 ⟨rfl, hb⟩
      go_wp2_with fail
      go_ret2
      exact ⟨rfl, hb⟩
  · have hv : numR 10 10 isDec s.data.toList most = (0, 2) := by
      unfold numR
      rw [if_pos (by omega)]
    rw [hv]
    obtain rfl := empty_of s h0
    have HU := Lib.hid (pempty10 w hw)
    clear hv hd hz hs h0
    go_enter Tryz.func158, Tryz.ntmps158
    go_wp2_with fail
    refine HU.out.mono ?_
    rintro e w1 ⟨⟨N, rfl⟩, hb⟩
    go_wp2_with fail
    go_ret2
    exact ⟨rfl, hb⟩

theorem bound16 (s : ByteArray) (hs : s.size ≤ 8) (hd : s.data.toList.all isHex = true) : 0 ≤ numD 16 s.data.toList ∧ numD 16 s.data.toList < 4294967296 := by
  have h := numD_lt 16 isHex (fun c h => hex_dgt c h) s.data.toList hd
  have hpw : 16 ^ s.data.toList.length ≤ 16 ^ 8 := Nat.pow_le_pow_right (by decide) (by rw [← Lib.size_eq]; omega)
  have h2 : ((16 ^ s.data.toList.length : Nat) : Int) ≤ ((16 ^ 8 : Nat) : Int) := by exact_mod_cast hpw
  have h3 : ((16 ^ 8 : Nat) : Int) = 4294967296 := by decide
  have h4 : (((16 : Nat) : Int)) = 16 := rfl
  rw [h4] at h
  omega
set_option maxRecDepth 1000000 in
set_option maxHeartbeats 2000000 in
theorem pint16 (s : ByteArray) (h0 : 0 < s.size) (hs : s.size ≤ 8) (hd : s.data.toList.all isHex = true) (w : World) :
    Calls Tryz.prog 196 #[.string s, .int .i64 16, .int .i64 64] w fun e w' => e = .returned (.tuple #[.int .i64 (numD 16 s.data.toList), .nilIface]) ∧ Below w.heap.size w w' := by
  obtain ⟨n0, n1⟩ := bound16 s hs hd
  have HU := Lib.hid (puint16 s h0 hs hd)
  have he := emp_false' s h0
  have hok := all_at s _ hd 0 h0
  have hne : ((s[0].toNat : Int) == 43) = false ∧ ((s[0].toNat : Int) == 45) = false := by
    have : ∀ c : UInt8, isHex c = true → ((c.toNat : Int) == 43) = false ∧ ((c.toNat : Int) == 45) = false := by apply all256; decide +kernel
    exact this _ hok
  obtain ⟨e1, e2⟩ := hne
  clear hok hd
  generalize numD 16 s.data.toList = n at *
  have m0 : (0 : Int) < s.size := by omega
  go_enter Tryz.func196, Tryz.ntmps196
  go_wp2_with fail
  refine (HU.out _).mono ?_
  rintro e w1 ⟨rfl, hb⟩
  go_wp2_with fail
  go_ret2
  exact ⟨rfl, hb⟩
set_option maxRecDepth 100000 in
set_option maxHeartbeats 1000000 in
theorem ppub16 (s : ByteArray) (h0 : 0 < s.size) (hs : s.size ≤ 8) (hd : s.data.toList.all isHex = true) (w : World) :
    Calls Tryz.prog 178 #[.string s, .int .i64 16, .int .i64 64] w fun e w' => e = .returned (.tuple #[.int .i64 (numD 16 s.data.toList), .nilIface]) ∧ Below w.heap.size w w' := by
  have HU := Lib.hid (pint16 s h0 hs hd)
  clear hd
  generalize numD 16 s.data.toList = n at *
  go_enter Tryz.func178, Tryz.ntmps178
  go_wp2_with fail
  refine (HU.out _).mono ?_
  rintro e w1 ⟨rfl, hb⟩
  go_wp2_with fail
  go_ret2
  exact ⟨rfl, hb⟩
set_option maxRecDepth 100000 in
set_option maxHeartbeats 1000000 in
theorem pempty16 (w : World) (hw : Syn w) :
    Calls Tryz.prog 178 #[.string ⟨#[]⟩, .int .i64 16, .int .i64 64] w fun e w' => (∃ N, e = .returned (.tuple #[.int .i64 0, .iface 226 (.pointer (some ⟨N, 0, none⟩))])) ∧ Below w.heap.size w w' := by
  have HU := Lib.hid (fun W => Tryz.internal_strconv_ParseInt_empty 16 64 W)
  obtain ⟨_, te, pe, hc⟩ := hw
  have HE := Lib.hid (Tryz.strconv_toError_syntax ⟨#[80, 97, 114, 115, 101, 73, 110, 116]⟩ ⟨#[]⟩ 16 64 (.iface te pe) w (by decide) hc (.inr ⟨te, pe, rfl⟩))
  clear hc
  go_enter Tryz.func178, Tryz.ntmps178
  go_wp2_with fail
  refine (HU.out _).mono ?_
  rintro e w1 ⟨rfl, rfl⟩
  go_wp2_with fail
  refine HE.out.mono ?_
  rintro e w2 ⟨N, rfl, _, _, hb⟩
  go_wp2_with fail
  go_ret2
  exact ⟨⟨N, rfl⟩, hb⟩
set_option maxRecDepth 100000 in
set_option maxHeartbeats 1000000 in
theorem number16 (s : ByteArray) (hs : s.size ≤ 8) (hd : s.data.toList.all isHex = true) (most : Int) (w : World) (hw : Syn w) :
    Calls Tryz.prog 158 #[.string s, .int .i64 16, .int .i64 most] w fun e w' => e = .returned (numV (numR 16 8 isHex s.data.toList most)) ∧ Below w.heap.size w w' := by
  have hz := Lib.size_eq s
  by_cases h0 : 0 < s.size
  · have HU := Lib.hid (ppub16 s h0 hs hd)
    have hb := bound16 s hs hd
    have hv : numR 16 8 isHex s.data.toList most = if most < numD 16 s.data.toList then (0, 3) else (numD 16 s.data.toList, 0) := by
      unfold numR
      rw [if_neg (by rintro (h | h | h); (· omega); (· omega); (· rw [hd] at h; cases h))]
    rw [hv]
    clear hv hd hz
    generalize numD 16 s.data.toList = n at *
    obtain ⟨n0, n1⟩ := hb
    by_cases hm : most < n
    · rw [if_pos hm]
      have : n > most := hm
      go_enter Tryz.func158, Tryz.ntmps158
      go_wp2_with fail
      refine (HU.out _).mono ?_
      rintro e w1 ⟨rfl, hb⟩
      go_wp2_with fail
      go_ret2
      exact ⟨rfl, hb⟩
    · rw [if_neg hm]
      have : ¬ n > most := hm
      go_enter Tryz.func158, Tryz.ntmps158
      go_wp2_with fail
      refine (HU.out _).mono ?_
      rintro e w1 ⟨rfl, hb⟩
      go_wp2_with fail
      go_ret2
      exact ⟨rfl, hb⟩
  · have hv : numR 16 8 isHex s.data.toList most = (0, 2) := by
      unfold numR
      rw [if_pos (by omega)]
    rw [hv]
    obtain rfl := empty_of s h0
    have HU := Lib.hid (pempty16 w hw)
    clear hv hd hz hs h0
    go_enter Tryz.func158, Tryz.ntmps158
    go_wp2_with fail
    refine HU.out.mono ?_
    rintro e w1 ⟨⟨N, rfl⟩, hb⟩
    go_wp2_with fail
    go_ret2
    exact ⟨rfl, hb⟩

set_option maxRecDepth 100000 in
set_option maxHeartbeats 1000000 in
theorem dec_any (s : ByteArray) (hs : s.size ≤ 4611686018427387904) (most : Int) (w : World) (hw : Syn w) :
    Calls Tryz.prog 136 #[.string s, .int .i64 most] w fun e w' => e = .returned (numV (numR 10 10 isDec s.data.toList most)) ∧ Below w.heap.size w w' := by
  have hz := Lib.size_eq s
  obtain ⟨r, hr⟩ : ∃ r, r = numR 10 10 isDec s.data.toList most := ⟨_, rfl⟩
  rw [← hr]
  by_cases h1 : s.size ≤ 10
  · have j1 : ¬ (s.size : Int) > 10 := by omega
    obtain ⟨q, hq⟩ : ∃ q, s.data.toList.all isDec = q := ⟨_, rfl⟩
    have HA := Lib.hid (all_true s hs 1 isDec cls_dec q hq)
    cases q
    · have h2 : r = (0, 2) := by rw [hr]; unfold numR; rw [if_pos (.inr (.inr hq))]
      subst h2
      clear hr hq hz h1
      go_enter Tryz.func136, Tryz.ntmps136
      go_wp2_with (go_at_call 157; refine (HA.out _).mono ?_; rintro e w' ⟨rfl, rfl⟩)
      go_ret2
      exact ⟨rfl, Below.refl _ _⟩
    · have HN := Lib.hid (number10 s h1 hq most w hw)
      rw [← hr] at HN
      clear hr hq hz h1
      obtain ⟨r1, r2⟩ := r
      have HM : Hid (Calls Tryz.prog 158 #[.string s, .int .i64 10, .int .i64 most] w fun e w' => e = .returned (.tuple #[.int .i64 r1, .int .i64 r2]) ∧ Below w.heap.size w w') := HN.out
      clear HN
      go_enter Tryz.func136, Tryz.ntmps136
      go_wp2_with (go_at_call 157; refine (HA.out _).mono ?_; rintro e w' ⟨rfl, rfl⟩)
      refine HM.out.mono ?_
      rintro e w1 ⟨rfl, hb⟩
      go_wp2_with fail
      go_ret2
      exact ⟨rfl, hb⟩
  · have j1 : (s.size : Int) > 10 := by omega
    have h2 : r = (0, 2) := by rw [hr]; unfold numR; rw [if_pos (.inr (.inl (by omega)))]
    subst h2
    clear hr hz h1
    go_enter Tryz.func136, Tryz.ntmps136
    go_wp2_with fail
    go_ret2
    exact ⟨rfl, Below.refl _ _⟩

set_option maxRecDepth 100000 in
set_option maxHeartbeats 1000000 in
theorem hex_any (s : ByteArray) (hs : s.size ≤ 4611686018427387904) (most : Int) (w : World) (hw : Syn w) :
    Calls Tryz.prog 195 #[.string s, .int .i64 most] w fun e w' => e = .returned (numV (numR 16 8 isHex s.data.toList most)) ∧ Below w.heap.size w w' := by
  have hz := Lib.size_eq s
  obtain ⟨r, hr⟩ : ∃ r, r = numR 16 8 isHex s.data.toList most := ⟨_, rfl⟩
  rw [← hr]
  by_cases h1 : s.size ≤ 8
  · have j1 : ¬ (s.size : Int) > 8 := by omega
    obtain ⟨q, hq⟩ : ∃ q, s.data.toList.all isHex = q := ⟨_, rfl⟩
    have HA := Lib.hid (all_true s hs 2 isHex cls_hex q hq)
    cases q
    · have h2 : r = (0, 2) := by rw [hr]; unfold numR; rw [if_pos (.inr (.inr hq))]
      subst h2
      clear hr hq hz h1
      go_enter Tryz.func195, Tryz.ntmps195
      go_wp2_with (go_at_call 157; refine (HA.out _).mono ?_; rintro e w' ⟨rfl, rfl⟩)
      go_ret2
      exact ⟨rfl, Below.refl _ _⟩
    · have HN := Lib.hid (number16 s h1 hq most w hw)
      rw [← hr] at HN
      clear hr hq hz h1
      obtain ⟨r1, r2⟩ := r
      have HM : Hid (Calls Tryz.prog 158 #[.string s, .int .i64 16, .int .i64 most] w fun e w' => e = .returned (.tuple #[.int .i64 r1, .int .i64 r2]) ∧ Below w.heap.size w w') := HN.out
      clear HN
      go_enter Tryz.func195, Tryz.ntmps195
      go_wp2_with (go_at_call 157; refine (HA.out _).mono ?_; rintro e w' ⟨rfl, rfl⟩)
      refine HM.out.mono ?_
      rintro e w1 ⟨rfl, hb⟩
      go_wp2_with fail
      go_ret2
      exact ⟨rfl, hb⟩
  · have j1 : (s.size : Int) > 8 := by omega
    have h2 : r = (0, 2) := by rw [hr]; unfold numR; rw [if_pos (.inr (.inl (by omega)))]
    subst h2
    clear hr hz h1
    go_enter Tryz.func195, Tryz.ntmps195
    go_wp2_with fail
    go_ret2
    exact ⟨rfl, Below.refl _ _⟩
end Go.Proofs.YtbbphklhnngjmaaGreatDoor

/- The reference of octet: letter, digit, blank, In, Token, Target. -/
namespace Go.Proofs.YtbbphklhnngjmaaGreatDoor
open Go.RowKit

set_option maxHeartbeats 400000 in
theorem letter58 (c : UInt8) (r : Bool) (hr : isAZ c = r) (w : World) :
    Calls Tryz.prog 87 #[.int .u8 (c.toNat : Int)] w fun e w' => e = .returned (.bool r) ∧ w = w' := by
  have hc := byte_lt c
  have H : (c.toNat < 65 ∧ r = false) ∨ (65 ≤ c.toNat ∧ c.toNat ≤ 90 ∧ r = true) ∨ (90 < c.toNat ∧ c.toNat < 97 ∧ r = false) ∨ (97 ≤ c.toNat ∧ c.toNat ≤ 122 ∧ r = true) ∨ (122 < c.toNat ∧ r = false) := by
    rw [← hr]; clear hc hr r w; revert c; apply all256; decide +kernel
  clear hr
  rcases H with ⟨h1, rfl⟩ | ⟨h1, h2, rfl⟩ | ⟨h1, h2, rfl⟩ | ⟨h1, h2, rfl⟩ | ⟨h1, rfl⟩
  · have : ¬ (c.toNat : Int) ≥ 65 := by omega
    have : ¬ (c.toNat : Int) ≥ 97 := by omega
    go_enter Tryz.func87, Tryz.ntmps87
    go_wp2_with fail
    go_ret
    exact ⟨rfl, rfl⟩
  · have : (c.toNat : Int) ≥ 65 := by omega
    have : (c.toNat : Int) ≤ 90 := by omega
    go_enter Tryz.func87, Tryz.ntmps87
    go_wp2_with fail
    go_ret
    exact ⟨rfl, rfl⟩
  · have : (c.toNat : Int) ≥ 65 := by omega
    have : ¬ (c.toNat : Int) ≤ 90 := by omega
    have : ¬ (c.toNat : Int) ≥ 97 := by omega
    go_enter Tryz.func87, Tryz.ntmps87
    go_wp2_with fail
    go_ret
    exact ⟨rfl, rfl⟩
  · have : (c.toNat : Int) ≥ 65 := by omega
    have : ¬ (c.toNat : Int) ≤ 90 := by omega
    have : (c.toNat : Int) ≥ 97 := by omega
    have : (c.toNat : Int) ≤ 122 := by omega
    go_enter Tryz.func87, Tryz.ntmps87
    go_wp2_with fail
    go_ret
    exact ⟨rfl, rfl⟩
  · have : (c.toNat : Int) ≥ 65 := by omega
    have : ¬ (c.toNat : Int) ≤ 90 := by omega
    have : (c.toNat : Int) ≥ 97 := by omega
    have : ¬ (c.toNat : Int) ≤ 122 := by omega
    go_enter Tryz.func87, Tryz.ntmps87
    go_wp2_with fail
    go_ret
    exact ⟨rfl, rfl⟩
set_option maxHeartbeats 400000 in
theorem digit59 (c : UInt8) (r : Bool) (hr : isDec c = r) (w : World) :
    Calls Tryz.prog 88 #[.int .u8 (c.toNat : Int)] w fun e w' => e = .returned (.bool r) ∧ w = w' := by
  have hc := byte_lt c
  have H : (c.toNat < 48 ∧ r = false) ∨ (48 ≤ c.toNat ∧ c.toNat ≤ 57 ∧ r = true) ∨ (57 < c.toNat ∧ r = false) := by
    rw [← hr]; clear hc hr r w; revert c; apply all256; decide +kernel
  clear hr
  rcases H with ⟨h1, rfl⟩ | ⟨h1, h2, rfl⟩ | ⟨h1, rfl⟩
  · have : ¬ (c.toNat : Int) ≥ 48 := by omega
    go_enter Tryz.func88, Tryz.ntmps88
    go_wp2_with fail
    go_ret
    exact ⟨rfl, rfl⟩
  · have : (c.toNat : Int) ≥ 48 := by omega
    have : (c.toNat : Int) ≤ 57 := by omega
    go_enter Tryz.func88, Tryz.ntmps88
    go_wp2_with fail
    go_ret
    exact ⟨rfl, rfl⟩
  · have : (c.toNat : Int) ≥ 48 := by omega
    have : ¬ (c.toNat : Int) ≤ 57 := by omega
    go_enter Tryz.func88, Tryz.ntmps88
    go_wp2_with fail
    go_ret
    exact ⟨rfl, rfl⟩
set_option maxHeartbeats 400000 in
theorem blank62 (c : UInt8) (r : Bool) (hr : isBlk c = r) (w : World) :
    Calls Tryz.prog 62 #[.int .u8 (c.toNat : Int)] w fun e w' => e = .returned (.bool r) ∧ w = w' := by
  have hc := byte_lt c
  have H : (((c.toNat : Int) == 32) = true ∧ r = true) ∨ (((c.toNat : Int) == 32) = false ∧ ((c.toNat : Int) == 9) = true ∧ r = true) ∨ (((c.toNat : Int) == 32) = false ∧ ((c.toNat : Int) == 9) = false ∧ r = false) := by
    rw [← hr]; clear hc hr r w; revert c; apply all256; decide +kernel
  clear hr
  rcases H with ⟨h1, rfl⟩ | ⟨h1, h2, rfl⟩ | ⟨h1, h2, rfl⟩
  all_goals
    go_enter Tryz.func62, Tryz.ntmps62
    go_wp2_with fail
    go_ret
    exact ⟨rfl, rfl⟩
theorem byte_eq (c d : UInt8) : ((c.toNat : Int) == (d.toNat : Int)) = (c == d) := by
  by_cases h : c = d
  · subst h; simp
  · have : ¬ (c.toNat : Int) = (d.toNat : Int) := fun e => h (UInt8.toNat_inj.1 (by omega))
    rw [beq_eq_false_iff_ne.2 this, beq_eq_false_iff_ne.2 h]
theorem contains_take_no {s : ByteArray} {b : UInt8} {j : Nat} (hj : j < s.size) (h : (s.data.toList.take j).contains b = false) (hb : (s[j] == b) = false) : (s.data.toList.take (j + 1)).contains b = false := by
  rw [take_snoc s j hj]
  have h' : ¬ b ∈ s.data.toList.take j := fun hm => by rw [List.contains_iff_mem.2 hm] at h; cases h
  rw [Bool.eq_false_iff]
  intro hc
  have hc' := List.contains_iff_mem.1 hc
  rw [List.mem_append] at hc'
  rcases hc' with hc' | hc'
  · exact h' hc'
  · rw [List.mem_singleton] at hc'
    exact (beq_eq_false_iff_ne.1 hb) hc'.symm
theorem contains_yes {s : ByteArray} {b : UInt8} {j : Nat} (hj : j < s.size) (hb : (s[j] == b) = true) : s.data.toList.contains b = true := by
  have : s[j] = b := by simpa using hb
  rw [List.contains_iff_mem, ← this]
  exact List.mem_of_getElem? (toList_get s j hj)
set_option maxHeartbeats 400000 in
theorem in60 (s : ByteArray) (hs : s.size ≤ 4611686018427387904) (b : UInt8) (R : Bool) (hR : s.data.toList.contains b = R) (w : World) :
    Calls Tryz.prog 89 #[.string s, .int .u8 (b.toNat : Int)] w fun e w' => e = .returned (.bool R) ∧ w = w' := by
  have HR := Lib.hid hR
  clear hR
  go_enter Tryz.func89, Tryz.ntmps89
  go_wp2_with fail
  go_loop [5] (fun i => ∃ j : Nat, j ≤ s.size ∧ i = .int .i64 j ∧ Hid ((s.data.toList.take j).contains b = false)) (fun i => s.size - (intOf i).toNat)
  case atStart => exact ⟨0, Nat.zero_le _, rfl, by simp [Hid]⟩
  case round =>
    obtain ⟨j, hj, rfl, hr⟩ := hrel
    by_cases hlt : j < s.size
    · by_cases hq : (s[j] == b) = true
      · have hy := Lib.hid (contains_yes hlt hq)
        have ht : ((s[j].toNat : Int) == (b.toNat : Int)) = true := by rw [byte_eq]; exact hq
        clear hq
        go_wp2_with fail
        go_ret
        exact ⟨by rw [← HR.out, hy.out]; rfl, rfl⟩
      · have hq' : (s[j] == b) = false := by simpa using hq
        have hst := Lib.hid (contains_take_no hlt hr.out hq')
        have ht : ((s[j].toNat : Int) == (b.toNat : Int)) = false := by rw [byte_eq]; exact hq'
        clear hq hq'
        go_wp2_with fail
        go_round
        case rel => exact ⟨j + 1, by omega, by go_num, hst⟩
        case measure => simp [intOf]; omega
    · have h1 := hr.out
      have h2 := Lib.size_eq s
      rw [List.take_of_length_le (by omega)] at h1
      have H1 := Lib.hid h1
      clear h1 h2
      go_wp2_with fail
      go_ret
      exact ⟨by rw [← HR.out, H1.out]; rfl, rfl⟩
theorem marks60 (c : UInt8) (r : Bool) (hr : marksL.contains c = r) (w : World) : Calls Tryz.prog 89 #[.string ⟨#[33, 35, 36, 37, 38, 39, 42, 43, 45, 46, 94, 95, 96, 124, 126]⟩, .int .u8 (c.toNat : Int)] w fun e w' => e = .returned (.bool r) ∧ w = w' :=
  in60 ⟨#[33, 35, 36, 37, 38, 39, 42, 43, 45, 46, 94, 95, 96, 124, 126]⟩ (by decide) c r hr w

set_option maxRecDepth 100000 in
set_option maxHeartbeats 1000000 in
theorem token15 (s : ByteArray) (hs : s.size ≤ 4611686018427387904) (R : Bool) (hR : tokB s.data.toList = R) (w : World) :
    Calls Tryz.prog 54 #[.string s] w fun e w' => e = .returned (.bool R) ∧ w = w' := by
  have HR := Lib.hid hR
  clear hR
  go_enter Tryz.func54, Tryz.ntmps54
  go_wp2_with fail
  go_loop [3] (fun i => ∃ j : Nat, j ≤ s.size ∧ i = .int .i64 j ∧ Hid ((s.data.toList.take j).all isTok = true)) (fun i => s.size - (intOf i).toNat)
  case atStart => exact ⟨0, Nat.zero_le _, rfl, by simp [Hid]⟩
  case round =>
    obtain ⟨j, hj, rfl, hr⟩ := hrel
    by_cases hlt : j < s.size
    · obtain ⟨q1, h1⟩ : ∃ q, isAZ s[j] = q := ⟨_, rfl⟩
      obtain ⟨q2, h2⟩ : ∃ q, isDec s[j] = q := ⟨_, rfl⟩
      obtain ⟨q3, h3⟩ : ∃ q, marksL.contains s[j] = q := ⟨_, rfl⟩
      have ht : isTok s[j] = (q2 || q1 || q3) := by unfold isTok; rw [h1, h2, h3]
      have C1 := Lib.hid (letter58 s[j] q1 h1)
      have C2 := Lib.hid (digit59 s[j] q2 h2)
      have C3 := Lib.hid (marks60 s[j] q3 h3)
      clear h1 h2 h3
      by_cases hq : (q2 || q1 || q3) = true
      · have hst := Lib.hid (all_step s isTok j hlt hr.out (ht.trans hq))
        clear ht
        have hc : (q1 = true) ∨ (q1 = false ∧ q2 = true) ∨ (q1 = false ∧ q2 = false ∧ q3 = true) := by
          clear C1 C2 C3; revert hq; cases q1 <;> cases q2 <;> cases q3 <;> decide
        clear hq
        rcases hc with rfl | ⟨rfl, rfl⟩ | ⟨rfl, rfl, rfl⟩
        all_goals
          go_wp2_with (first | (go_at_call 87; refine (C1.out _).mono ?_; rintro e w' ⟨rfl, rfl⟩) | (go_at_call 88; refine (C2.out _).mono ?_; rintro e w' ⟨rfl, rfl⟩) | (go_at_call 89; refine (C3.out _).mono ?_; rintro e w' ⟨rfl, rfl⟩))
          go_round
          case rel => exact ⟨j + 1, by omega, by go_num, hst⟩
          case measure => simp [intOf]; omega
      · have hno := all_no s isTok j hlt (ht.trans (by simpa using hq))
        have HN : Hid (R = false) := by have e := HR.out; unfold tokB at e; rw [hno, Bool.and_false] at e; exact e.symm
        obtain ⟨rfl, rfl, rfl⟩ : q1 = false ∧ q2 = false ∧ q3 = false := by
          clear C1 C2 C3 ht; revert hq; cases q1 <;> cases q2 <;> cases q3 <;> decide
        clear hno ht hq
        go_wp2_with (first | (go_at_call 87; refine (C1.out _).mono ?_; rintro e w' ⟨rfl, rfl⟩) | (go_at_call 88; refine (C2.out _).mono ?_; rintro e w' ⟨rfl, rfl⟩) | (go_at_call 89; refine (C3.out _).mono ?_; rintro e w' ⟨rfl, rfl⟩))
        go_ret
        exact ⟨by rw [HN.out]; rfl, rfl⟩
    · have hf := all_full s isTok j hlt hr.out
      have hl := Lib.size_eq s
      have HN : Hid (R = (decide (1 ≤ s.size) && decide (s.size ≤ 64))) := by
        have e := HR.out; unfold tokB at e; rw [hf, Bool.and_true, ← hl] at e; exact e.symm
      clear hf hl
      by_cases h1 : 1 ≤ s.size
      · by_cases h2 : s.size ≤ 64
        · have : (s.size : Int) ≥ 1 := by omega
          have : (s.size : Int) ≤ 64 := by omega
          go_wp2_with fail
          go_ret
          exact ⟨by rw [HN.out, decide_eq_true h1, decide_eq_true h2]; rfl, rfl⟩
        · have : (s.size : Int) ≥ 1 := by omega
          have : ¬ (s.size : Int) ≤ 64 := by omega
          go_wp2_with fail
          go_ret
          exact ⟨by rw [HN.out, decide_eq_false h2, Bool.and_false]; rfl, rfl⟩
      · have : ¬ (s.size : Int) ≥ 1 := by omega
        go_wp2_with fail
        go_ret
        exact ⟨by rw [HN.out, decide_eq_false h1, Bool.false_and]; rfl, rfl⟩

set_option maxRecDepth 100000 in
set_option maxHeartbeats 1000000 in
theorem target17 (s : ByteArray) (hs : s.size ≤ 4611686018427387904) (R : Bool) (hR : tgtB s.data.toList = R) (w : World) :
    Calls Tryz.prog 55 #[.string s] w fun e w' => e = .returned (.bool R) ∧ w = w' := by
  have HR := Lib.hid hR
  clear hR
  go_enter Tryz.func55, Tryz.ntmps55
  go_wp2_with fail
  go_loop [3] (fun i => ∃ j : Nat, j ≤ s.size ∧ i = .int .i64 j ∧ Hid ((s.data.toList.take j).all isVis = true)) (fun i => s.size - (intOf i).toNat)
  case atStart => exact ⟨0, Nat.zero_le _, rfl, by simp [Hid]⟩
  case round =>
    obtain ⟨j, hj, rfl, hr⟩ := hrel
    by_cases hlt : j < s.size
    · have ht : isVis s[j] = (decide (33 ≤ s[j].toNat) && decide (s[j].toNat ≤ 126)) := rfl
      by_cases h1 : 33 ≤ s[j].toNat
      · by_cases h2 : s[j].toNat ≤ 126
        · have hst := Lib.hid (all_step s isVis j hlt hr.out (by rw [ht, decide_eq_true h1, decide_eq_true h2]; rfl))
          have : ¬ (s[j].toNat : Int) < 33 := by omega
          have : ¬ (s[j].toNat : Int) > 126 := by omega
          clear ht
          go_wp2_with fail
          go_round
          case rel => exact ⟨j + 1, by omega, by go_num, hst⟩
          case measure => simp [intOf]; omega
        · have hno := all_no s isVis j hlt (by rw [ht, decide_eq_false h2, Bool.and_false])
          have HN : Hid (R = false) := by have e := HR.out; unfold tgtB at e; rw [hno, Bool.and_false] at e; exact e.symm
          have : ¬ (s[j].toNat : Int) < 33 := by omega
          have : (s[j].toNat : Int) > 126 := by omega
          clear ht hno
          go_wp2_with fail
          go_ret
          exact ⟨by rw [HN.out]; rfl, rfl⟩
      · have hno := all_no s isVis j hlt (by rw [ht, decide_eq_false h1, Bool.false_and])
        have HN : Hid (R = false) := by have e := HR.out; unfold tgtB at e; rw [hno, Bool.and_false] at e; exact e.symm
        have : (s[j].toNat : Int) < 33 := by omega
        clear ht hno
        go_wp2_with fail
        go_ret
        exact ⟨by rw [HN.out]; rfl, rfl⟩
    · have hf := all_full s isVis j hlt hr.out
      have HN : Hid (R = decide (s.data.toList.head? = some 47)) := by
        have e := HR.out; unfold tgtB at e; rw [hf, Bool.and_true] at e; exact e.symm
      clear hf
      by_cases h1 : 1 ≤ s.size
      · have : (s.size : Int) ≥ 1 := by omega
        have h0 : 0 < s.size := by omega
        have hh : s.data.toList.head? = some s[0] := by rw [List.head?_eq_getElem?]; exact toList_get s 0 h0
        by_cases hq : s[0] = 47
        · have H2 : Hid (R = true) := by
            have e := HN.out
            rw [hh, hq] at e
            exact e.trans rfl
          have : ((s[0].toNat : Int) == 47) = true := by rw [hq]; rfl
          clear hq hh HN
          go_wp2_with fail
          go_ret
          exact ⟨by rw [H2.out]; rfl, rfl⟩
        · have H2 : Hid (R = false) := by
            have e := HN.out
            rw [hh] at e
            exact e.trans (decide_eq_false (fun e => hq (Option.some.inj e)))
          have : ((s[0].toNat : Int) == 47) = false := by
            have := byte_eq s[0] 47
            have e47 : ((47 : UInt8).toNat : Int) = 47 := rfl
            rw [e47] at this
            rw [this]; simpa using hq
          clear hq hh HN
          go_wp2_with fail
          go_ret
          exact ⟨by rw [H2.out]; rfl, rfl⟩
      · have : ¬ (s.size : Int) ≥ 1 := by omega
        have hl := Lib.size_eq s
        have hnil : s.data.toList = [] := List.eq_nil_of_length_eq_zero (by omega)
        have H2 : Hid (R = false) := by
          have e := HN.out
          rw [hnil] at e
          exact e.trans rfl
        clear HN hl hnil
        go_wp2_with fail
        go_ret
        exact ⟨by rw [H2.out]; rfl, rfl⟩
end Go.Proofs.YtbbphklhnngjmaaGreatDoor

