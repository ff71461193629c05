/- The walks of the statements OctetMay, OctetCases. -/
import Derived.Test.YtneagccakoakpaaDoorAwakeO
import Derived.Test.YtneagccakoakpaaDoorCut
namespace Go.Proofs.YtneagccakoakpaaDoor
open Go.RowKit

set_option maxRecDepth 100000 in
set_option maxHeartbeats 1000000 in
theorem lawOctetMay (s : ByteArray) (w : World) (hw : Laid5 w) :
    Calls Tryd.prog 3 #[.string s] w fun e w' => e = .returned (.bool true) ∧ Below w.heap.size w w' := by
  go_enter Tryd.func3, Tryd.ntmps3
  go_wp2_with fail
  refine (awake12 w hw).mono ?_
  rintro e w1 ⟨rfl, hb1⟩
  go_wp2_with fail
  refine (cut11 s 70 _).mono ?_
  rintro e w' ⟨rfl, rfl⟩
  obtain ⟨t, ht⟩ : ∃ t, t = cutS s 70 := ⟨_, rfl⟩
  have hz : t.size ≤ 70 := by rw [ht]; exact cutS_size _ _
  rw [← ht]
  clear ht
  obtain ⟨q1, h1⟩ : ∃ q, tokB t.data.toList = q := ⟨_, rfl⟩
  obtain ⟨q2, h2⟩ : ∃ q, tgtB t.data.toList = q := ⟨_, rfl⟩
  obtain ⟨q3, h3⟩ : ∃ q, valB t.data.toList = q := ⟨_, rfl⟩
  have A1 := Lib.hid (fun W => token14 t (by omega) W)
  have B1 := Lib.hid (fun W => token15 t (by omega) q1 h1 W)
  have A2 := Lib.hid (fun W => target16 t (by omega) W)
  have B2 := Lib.hid (fun W => target17 t (by omega) q2 h2 W)
  have A3 := Lib.hid (fun W => value18 t (by omega) W)
  have B3 := Lib.hid (fun W => value19 t (by omega) q3 h3 W)
  rw [h1] at A1
  rw [h2] at A2
  rw [h3] at A3
  clear h1 h2 h3 hz
  go_wp2_with fail
  refine (A1.out _).mono ?_
  rintro e w' ⟨rfl, rfl⟩
  go_wp2_with fail
  refine (B1.out _).mono ?_
  rintro e w' ⟨rfl, rfl⟩
  have e1 : (q1 == q1) = true := by cases q1 <;> rfl
  have e2 : (q2 == q2) = true := by cases q2 <;> rfl
  have e3 : (q3 == q3) = true := by cases q3 <;> rfl
  go_wp2_with fail
  refine (A2.out _).mono ?_
  rintro e w' ⟨rfl, rfl⟩
  go_wp2_with fail
  refine (B2.out _).mono ?_
  rintro e w' ⟨rfl, rfl⟩
  go_wp2_with fail
  refine (A3.out _).mono ?_
  rintro e w2 ⟨rfl, hb2⟩
  have b2 := hb1.trans (hb2.mono hb1.size)
  go_wp2_with fail
  refine (B3.out _).mono ?_
  rintro e w' ⟨rfl, rfl⟩
  go_wp2_with fail
  go_ret
  exact ⟨rfl, b2⟩

theorem self_eq (T : ByteArray) : (T.toList == T.toList) = true := by simp
theorem str_deq (a b : List UInt8) : ((⟨a.toArray⟩ : ByteArray).toList == (⟨b.toArray⟩ : ByteArray).toList) = decide (a = b) := by
  rw [ByteArray.toList_eq, ByteArray.toList_eq]
  by_cases h : a = b
  · subst h; simp
  · rw [decide_eq_false h]
    simpa using h
set_option maxRecDepth 100000 in
set_option maxHeartbeats 1000000 in
theorem lawOctetCases (a b : ByteArray) (w : World) (hw : Laid5 w) :
    Calls Tryd.prog 4 #[.string a, .string b] w fun e w' => e = .returned (.bool true) ∧ Below w.heap.size w w' := by
  go_enter Tryd.func4, Tryd.ntmps4
  go_wp2_with fail
  refine (awake12 w hw).mono ?_
  rintro e w1 ⟨rfl, hb1⟩
  go_wp2_with fail
  refine (cut11 a 40 _).mono ?_
  rintro e w' ⟨rfl, rfl⟩
  go_wp2_with fail
  refine (cut11 b 40 _).mono ?_
  rintro e w' ⟨rfl, rfl⟩
  obtain ⟨t, ht⟩ : ∃ t, t = cutS a 40 := ⟨_, rfl⟩
  have hz : t.size ≤ 40 := by rw [ht]; exact cutS_size _ _
  obtain ⟨u, hu⟩ : ∃ u, u = cutS b 40 := ⟨_, rfl⟩
  have hzu : u.size ≤ 40 := by rw [hu]; exact cutS_size _ _
  rw [← ht, ← hu]
  clear ht hu
  obtain ⟨T, hT⟩ : ∃ T : ByteArray, T = ⟨(t.data.toList.map lowC).toArray⟩ := ⟨_, rfl⟩
  obtain ⟨U, hU⟩ : ∃ U : ByteArray, U = ⟨(u.data.toList.map lowC).toArray⟩ := ⟨_, rfl⟩
  obtain ⟨R, hR⟩ : ∃ R : ByteArray, R = ⟨(trimB t.data.toList).toArray⟩ := ⟨_, rfl⟩
  obtain ⟨q, hq⟩ : ∃ q, q = decide (t.data.toList.map lowC = u.data.toList.map lowC) := ⟨_, rfl⟩
  have L1 := Lib.hid (fun W => lower20 t (by omega) W)
  have L2 := Lib.hid (fun W => lower21 t (by omega) W)
  have L3 := Lib.hid (fun W => lower21 u (by omega) W)
  have L4 := Lib.hid (fun W => fold22 t u (by omega) q hq W)
  have L5 := Lib.hid (fun W => trim23 t (by omega) W)
  have L6 := Lib.hid (fun W => trim24 t (by omega) W)
  have L7 : Hid (∀ W, Calls Tryd.prog 20 #[.string T] W fun e w' => e = .returned (.string T) ∧ Below W.heap.size W w') := by
    intro W
    have h1 := lower20 T (by rw [hT, Lib.size_eq]; simp; omega) W
    have h2 : (T.data.toList.map lowC).toArray = (t.data.toList.map lowC).toArray := by
      rw [hT]
      simp only [List.map_map]
      congr 1
      exact List.map_congr_left (fun c _ => lowC_low c)
    rw [h2, ← hT] at h1
    exact h1
  have eq2 : (T.toList == U.toList) = q := by rw [hT, hU, hq, str_deq]
  rw [← hT] at L1 L2
  rw [← hU] at L3
  rw [← hR] at L5 L6
  clear hT hU hR hq hz hzu
  have eT := self_eq T
  have eR := self_eq R
  have eq3 : (q == q) = true := by cases q <;> rfl
  go_wp2_with fail
  refine (L1.out _).mono ?_
  rintro e w2 ⟨rfl, hb2⟩
  have b2 := hb1.trans (hb2.mono hb1.size)
  go_wp2_with fail
  refine (L2.out _).mono ?_
  rintro e w3 ⟨rfl, hb3⟩
  have b3 := b2.trans (hb3.mono b2.size)
  clear hb1 hb2 hb3 b2
  go_wp2_with fail
  refine (L4.out _).mono ?_
  rintro e w4 ⟨rfl, hb4⟩
  have b4 := b3.trans (hb4.mono b3.size)
  clear hb4 b3
  go_wp2_with fail
  refine (L2.out _).mono ?_
  rintro e w5 ⟨rfl, hb5⟩
  have b5 := b4.trans (hb5.mono b4.size)
  clear hb5 b4
  go_wp2_with fail
  refine (L3.out _).mono ?_
  rintro e w6 ⟨rfl, hb6⟩
  have b6 := b5.trans (hb6.mono b5.size)
  clear hb6 b5
  go_wp2_with fail
  refine (L5.out _).mono ?_
  rintro e w7 ⟨rfl, hb7⟩
  have b7 := b6.trans (hb7.mono b6.size)
  clear hb7 b6
  go_wp2_with fail
  refine (L6.out _).mono ?_
  rintro e w' ⟨rfl, rfl⟩
  go_wp2_with fail
  refine (L1.out _).mono ?_
  rintro e w8 ⟨rfl, hb8⟩
  have b8 := b7.trans (hb8.mono b7.size)
  clear hb8 b7
  go_wp2_with fail
  refine (L7.out _).mono ?_
  rintro e w9 ⟨rfl, hb9⟩
  have b9 := b8.trans (hb9.mono b8.size)
  clear hb9 b8
  go_wp2_with fail
  refine (L1.out _).mono ?_
  rintro e w10 ⟨rfl, hb10⟩
  have b10 := b9.trans (hb10.mono b9.size)
  clear hb10 b9
  go_wp2_with fail
  go_ret
  exact ⟨rfl, b10⟩
end Go.Proofs.YtneagccakoakpaaDoor
