/- The walks of the statements MacSame and MacFits. -/
import Derived.Test.YtfelkdghjbecpaaDoorMacH
namespace Go.Proofs.YtfelkdghjbecpaaDoor
open Go.RowKit

theorem bytes_beq (a b : ByteArray) : (a.toList == b.toList) = decide (a = b) := by
  rw [ByteArray.toList_eq, ByteArray.toList_eq]
  by_cases h : a = b
  · subst h; simp
  · have h2 : ¬ a.data = b.data := fun e => h (ByteArray.ext e)
    simp [h, h2]
theorem same_true (a : ByteArray) (ha : a.size ≤ 9223372036854775807) (w : World) : Calls Tryd.prog 25 #[.string a, .string a] w fun e w' => e = .returned (.bool true) ∧ w = w' := by
  have := same25 a a ha ha w
  simpa using this
theorem same_false (a b : ByteArray) (ha : a.size ≤ 9223372036854775807) (hb : b.size ≤ 9223372036854775807) (h : a ≠ b) (w : World) : Calls Tryd.prog 25 #[.string a, .string b] w fun e w' => e = .returned (.bool false) ∧ w = w' := by
  have := same25 a b ha hb w
  simpa [h] using this

set_option maxHeartbeats 400000 in
theorem lawMacSame (a b : ByteArray) (ha : a.size ≤ 9223372036854775807) (hb : b.size ≤ 9223372036854775807) (w : World) (ht : Tabs w) :
    Calls Tryd.prog 9 #[.string a, .string b] w fun e w' => e = .returned (.bool true) ∧ Below w.heap.size w w' := by
  by_cases h : a = b
  · subst h
    have HS := Lib.hid (same_true a ha)
    go_enter Tryd.func9, Tryd.ntmps9
    go_wp2_with fail
    refine (mawake19 w ht).mono ?_
    rintro e w1 ⟨rfl, hb1⟩
    go_wp2_with (go_at_call 25; refine (HS.out _).mono ?_; rintro e w' ⟨rfl, rfl⟩)
    go_ret
    exact ⟨rfl, hb1⟩
  · have HS := Lib.hid (same_false a b ha hb h)
    have HT := Lib.hid (same_true b hb)
    have hq : (a.toList == b.toList) = false := by rw [bytes_beq]; simpa using h
    clear h
    go_enter Tryd.func9, Tryd.ntmps9
    go_wp2_with fail
    refine (mawake19 w ht).mono ?_
    rintro e w1 ⟨rfl, hb1⟩
    go_wp2_with fail
    refine (HS.out _).mono ?_
    rintro e w' ⟨rfl, rfl⟩
    go_wp2_with fail
    refine (HT.out _).mono ?_
    rintro e w' ⟨rfl, rfl⟩
    go_wp2_with fail
    go_ret
    exact ⟨rfl, hb1⟩

set_option maxHeartbeats 1000000 in
theorem lawMacFits (key tag s : ByteArray) (w : World) (ht : Tabs w) :
    Calls Tryd.prog 8 #[.string key, .string tag, .string s] w fun e w' => e = .returned (.bool true) ∧ Below w.heap.size w w' := by
  have HT := Lib.hid ht
  clear ht
  go_enter Tryd.func8, Tryd.ntmps8
  go_wp2_with fail
  refine (mawake19 w HT.out).mono ?_
  rintro e w1 ⟨rfl, hb1⟩
  have T1 : Hid (Tabs w1) := HT.out.below hb1
  clear HT
  go_wp2_with fail
  refine (cut11 key 70 _).mono ?_
  rintro e w' ⟨rfl, rfl⟩
  go_wp2_with fail
  refine (cut11 tag 40 _).mono ?_
  rintro e w' ⟨rfl, rfl⟩
  go_wp2_with fail
  refine (cut11 s 60 _).mono ?_
  rintro e w' ⟨rfl, rfl⟩
  obtain ⟨k, hk⟩ : ∃ k, k = cutS key 70 := ⟨_, rfl⟩
  obtain ⟨t, htg⟩ : ∃ t, t = cutS tag 40 := ⟨_, rfl⟩
  obtain ⟨x, hx⟩ : ∃ x, x = cutS s 60 := ⟨_, rfl⟩
  have hkz : k.size ≤ 70 := by rw [hk]; exact cutS_size _ _
  have htz : t.size ≤ 40 := by rw [htg]; exact cutS_size _ _
  have hxz : x.size ≤ 60 := by rw [hx]; exact cutS_size _ _
  rw [← hk, ← htg, ← hx]
  clear hk htg hx
  obtain ⟨T, hT⟩ : ∃ T : ByteArray, T = ⟨(tagL k.data.toList x.data.toList).toArray⟩ := ⟨_, rfl⟩
  have hTz : T.size ≤ 32 := by rw [hT]; show (tagL _ _).toArray.size ≤ _; rw [List.size_toArray, tagL_length]; decide
  have hfit := fun W (hW : Tabs W) => fits_one k t x (by omega) (by omega) (by omega) W 9 hW
  have hfitT := fun W (hW : Tabs W) => fits_one k T x (by omega) (by omega) (by omega) W 9 hW
  have hrt := fun W => rtag23 k x (by omega) (by omega) W
  rw [← hT] at hfit hfitT hrt
  have HFT : Hid (∀ W, Tabs W → Calls Tryd.prog 24 #[.string k, .string T, .slice (some ⟨W.heap.size, 0, none⟩) 1 1] (W.alloc (.cells #[.string x] 9)) fun e w' => e = .returned (.bool true) ∧ Below W.heap.size W w') := fun W hW => by simpa using hfitT W hW
  have HRT := Lib.hid hrt
  have HF : Hid (∀ W, Tabs W → Calls Tryd.prog 24 #[.string k, .string t, .slice (some ⟨W.heap.size, 0, none⟩) 1 1] (W.alloc (.cells #[.string x] 9)) fun e w' => e = .returned (.bool (decide (t = T))) ∧ Below W.heap.size W w') := hfit
  clear hfit hfitT hrt hT
  obtain ⟨q, hq⟩ : ∃ q : Bool, q = decide (t = T) := ⟨_, rfl⟩
  have hq2 : (t.toList == T.toList) = q := by rw [hq, bytes_beq]
  rw [← hq] at HF
  clear hq
  go_wp2_with fail
  refine (HF.out w1 T1.out).mono ?_
  rintro e w2 ⟨rfl, hb2⟩
  have T2 : Hid (Tabs w2) := T1.out.below hb2
  have hb12 : Below w.heap.size w w2 := hb1.trans (hb2.mono hb1.size)
  clear T1 HF hb1 hb2
  go_wp2_with fail
  refine (HRT.out w2).mono ?_
  rintro e w3 ⟨rfl, hb3⟩
  have T3 : Hid (Tabs w3) := T2.out.below hb3
  have hb13 : Below w.heap.size w w3 := hb12.trans (hb3.mono hb12.size)
  clear T2 hb12 hb3
  cases q
  all_goals
    go_wp2_with fail
    refine (HRT.out w3).mono ?_
    rintro e w4 ⟨rfl, hb4⟩
    have T4 : Hid (Tabs w4) := T3.out.below hb4
    have hb14 : Below w.heap.size w w4 := hb13.trans (hb4.mono hb13.size)
    clear T3 hb13 hb4
    go_wp2_with fail
    refine (HFT.out w4 T4.out).mono ?_
    rintro e w5 ⟨rfl, hb5⟩
    have hb15 : Below w.heap.size w w5 := hb14.trans (hb5.mono hb14.size)
    clear T4 hb14 hb5
    go_wp2_with fail
    go_ret
    exact ⟨rfl, hb15⟩
end Go.Proofs.YtfelkdghjbecpaaDoor
