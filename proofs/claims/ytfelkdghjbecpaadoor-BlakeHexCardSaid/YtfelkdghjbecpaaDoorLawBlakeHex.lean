/- The walk of the statement BlakeHex. -/
import Derived.Test.YtfelkdghjbecpaaDoorHexC
import Derived.Test.YtfelkdghjbecpaaDoorBAwake
import Derived.Test.YtfelkdghjbecpaaDoorLawMacSame
namespace Go.Proofs.YtfelkdghjbecpaaDoor
open Go.RowKit

set_option maxHeartbeats 1000000 in
theorem lawBlakeHex (s : ByteArray) (w : World) (ht : Tabs w) :
    Calls Tryd.prog 5 #[.string s] w fun e w' => e = .returned (.bool true) ∧ Below w.heap.size w w' := by
  have HT := Lib.hid ht
  clear ht
  go_enter Tryd.func5, Tryd.ntmps5
  go_wp2_with fail
  refine (bawake10 w HT.out).mono ?_
  rintro e w1 ⟨rfl, hb1⟩
  clear HT
  go_wp2_with fail
  refine (cut11 s 80 _).mono ?_
  rintro e w' ⟨rfl, rfl⟩
  obtain ⟨x, hx⟩ : ∃ x, x = cutS s 80 := ⟨_, rfl⟩
  have hxz : x.size ≤ 80 := by rw [hx]; exact cutS_size _ _
  rw [← hx]
  clear hx
  obtain ⟨t, htt⟩ : ∃ t : ByteArray, t = ⟨(hexL x.data.toList).toArray⟩ := ⟨_, rfl⟩
  have htd : t.data.toList = hexL x.data.toList := by rw [htt]
  have htz : t.size ≤ 160 := by rw [Lib.size_eq, htd, hexL_length, ← Lib.size_eq]; omega
  have hh := fun W => hex15 x (by omega) W
  have hrh := fun W => rhex18 x (by omega) W
  have hu := fun W => unhex16 t (by omega) W
  have hux := fun W => unhex16 x (by omega) W
  have hrx := fun W => runhex17 x (by omega) W
  rw [← htt] at hh hrh
  have hback : unhexV t.data.toList = .tuple #[.string x, .bool true] := by rw [htd]; unfold unhexV; rw [unhex_hex]
  simp only [hback] at hu
  have HH := Lib.hid hh
  have HR := Lib.hid hrh
  have HU := Lib.hid hu
  clear htt htd hback hh hrh hu
  rcases hp : unhexP x.data.toList with _ | y
  · have hv : unhexV x.data.toList = .tuple #[.string ⟨#[]⟩, .bool false] := by unfold unhexV; rw [hp]
    simp only [hv] at hux hrx
    have HX := Lib.hid hux
    have HRX := Lib.hid hrx
    clear hux hrx hv hp
    go_wp2_with fail
    refine (HH.out _).mono ?_
    rintro e w2 ⟨rfl, hb2⟩
    replace hb2 := hb1.trans (hb2.mono hb1.size)
    clear hb1
    go_wp2_with fail
    refine (HU.out _).mono ?_
    rintro e w3 ⟨rfl, hb3⟩
    replace hb3 := hb2.trans (hb3.mono hb2.size)
    clear hb2
    go_wp2_with fail
    refine (HX.out _).mono ?_
    rintro e w4 ⟨rfl, hb4⟩
    replace hb4 := hb3.trans (hb4.mono hb3.size)
    clear hb3
    go_wp2_with fail
    refine (HRX.out _).mono ?_
    rintro e w5 ⟨rfl, hb5⟩
    replace hb5 := hb4.trans (hb5.mono hb4.size)
    clear hb4
    go_wp2_with fail
    refine (HR.out _).mono ?_
    rintro e w6 ⟨rfl, hb6⟩
    replace hb6 := hb5.trans (hb6.mono hb5.size)
    clear hb5
    go_wp2_with fail
    go_ret
    exact ⟨rfl, hb6⟩
  · obtain ⟨Y, hY⟩ : ∃ Y : ByteArray, Y = ⟨y.toArray⟩ := ⟨_, rfl⟩
    have hv : unhexV x.data.toList = .tuple #[.string Y, .bool true] := by unfold unhexV; rw [hp, hY]
    have hyx : hexL y = x.data.toList := hex_unhex _ _ hp
    have hyl : y.length ≤ 40 := by
      have := congrArg List.length hyx
      rw [hexL_length, ← Lib.size_eq] at this
      omega
    have hhy := fun W => hex15 Y (by rw [hY]; show y.toArray.size ≤ _; rw [List.size_toArray]; omega) W
    have hYx : (⟨(hexL Y.data.toList).toArray⟩ : ByteArray) = x := by rw [hY]; show (⟨(hexL y).toArray⟩ : ByteArray) = x; rw [hyx]
    simp only [hYx] at hhy
    simp only [hv] at hux hrx
    have HX := Lib.hid hux
    have HRX := Lib.hid hrx
    have HY := Lib.hid hhy
    clear hux hrx hv hp hhy hYx hyx hyl hY
    go_wp2_with fail
    refine (HH.out _).mono ?_
    rintro e w2 ⟨rfl, hb2⟩
    replace hb2 := hb1.trans (hb2.mono hb1.size)
    clear hb1
    go_wp2_with fail
    refine (HU.out _).mono ?_
    rintro e w3 ⟨rfl, hb3⟩
    replace hb3 := hb2.trans (hb3.mono hb2.size)
    clear hb2
    go_wp2_with fail
    refine (HX.out _).mono ?_
    rintro e w4 ⟨rfl, hb4⟩
    replace hb4 := hb3.trans (hb4.mono hb3.size)
    clear hb3
    go_wp2_with fail
    refine (HRX.out _).mono ?_
    rintro e w5 ⟨rfl, hb5⟩
    replace hb5 := hb4.trans (hb5.mono hb4.size)
    clear hb4
    go_wp2_with fail
    refine (HR.out _).mono ?_
    rintro e w6 ⟨rfl, hb6⟩
    replace hb6 := hb5.trans (hb6.mono hb5.size)
    clear hb5
    go_wp2_with fail
    refine (HY.out _).mono ?_
    rintro e w7 ⟨rfl, hb7⟩
    replace hb7 := hb6.trans (hb7.mono hb6.size)
    clear hb6
    go_wp2_with fail
    go_ret
    exact ⟨rfl, hb7⟩
end Go.Proofs.YtfelkdghjbecpaaDoor
