/- stewardlaw05.awake. -/
import Derived.Test.YtneagccakoakpaaDoorNumB
import Derived.Test.YtneagccakoakpaaDoorNumC
import Derived.Test.YtneagccakoakpaaDoorSeqC
import Derived.Test.YtneagccakoakpaaDoorSameA
namespace Go.Proofs.YtneagccakoakpaaDoor
open Go.RowKit

/-- What the library's variables hold. -/
def Laid5 (w : World) : Prop := Syn w ∧ Deb w ∧ MaxL w
theorem Laid5.below {w w' : World} (h : Laid5 w) (hb : Below w.heap.size w w') : Laid5 w' := ⟨h.1.below hb, h.2.1.below hb, h.2.2.below hb⟩
theorem hex_at (s : ByteArray) (hs : s.size ≤ 4611686018427387904) (most a b : Int) (h : numR 16 8 isHex s.data.toList most = (a, b)) (w : World) (hw : Laid5 w) :
    Calls Tryd.prog 26 #[.string s, .int .i64 most] w fun e w' => e = .returned (.tuple #[.int .i64 a, .int .i64 b]) ∧ Below w.heap.size w w' := by
  have := hex_any s hs most w hw.1
  rw [h] at this
  exact this
theorem list_any (a : Option Addr) (c : Nat) (xs : List ByteArray) (hsum : sumS xs ≤ 1000000000) (w : World) (hx : IsStrs w a c xs) (hM : Laid5 w) :
    Calls Tryd.prog 33 #[.slice a xs.length c] w fun e w' => ∃ b d, e = .returned (.slice b (bsOf (listP xs)).length d) ∧ IsStrs w' b d (bsOf (listP xs)) ∧ Below w.heap.size w w' := by
  refine (callsIn_wide.1 (list33 a c xs hsum w hx hM.2.2)).mono ?_
  rintro e w' ⟨v, rfl, hrow, hb⟩
  obtain ⟨b, d, rfl, hs⟩ := own_isStrs hrow
  exact ⟨b, d, rfl, hs, hb⟩
theorem isStrs_new2 (w : World) (x y : ByteArray) (T : TypeId) : IsStrs (w.alloc (.cells #[.string x, .string y] T)) (some ⟨w.heap.size, 0, none⟩) 2 [x, y] := by
  refine .inr ⟨w.heap.size, 0, rfl, by simp, by simp, fun j z hz => ?_⟩
  rw [Nat.zero_add]
  match j, hz with
  | 0, hz => obtain rfl : x = z := Option.some.inj hz; simp
  | 1, hz => obtain rfl : y = z := Option.some.inj hz; simp
  | k + 2, hz => simp at hz
theorem isStrs_new3 (w : World) (x y z : ByteArray) (T : TypeId) : IsStrs (w.alloc (.cells #[.string x, .string y, .string z] T)) (some ⟨w.heap.size, 0, none⟩) 3 [x, y, z] := by
  refine .inr ⟨w.heap.size, 0, rfl, by simp, by simp, fun j u hu => ?_⟩
  rw [Nat.zero_add]
  match j, hu with
  | 0, hz => obtain rfl : x = u := Option.some.inj hz; simp
  | 1, hz => obtain rfl : y = u := Option.some.inj hz; simp
  | 2, hz => obtain rfl : z = u := Option.some.inj hz; simp
  | k + 3, hz => simp at hz
theorem prt255 : prt 16 255 = [102, 102] := by decide +kernel
theorem listP_ab : bsOf (listP [⟨#[97, 44, 32, 98]⟩, ⟨#[44, 99]⟩]) = [⟨#[97]⟩, ⟨#[98]⟩, ⟨#[99]⟩] := by decide +kernel
theorem same_yes (a : Option Addr) (c : Nat) (xs : List ByteArray) (b : Option Addr) (d : Nat) (n : Nat) (hn : n = xs.length) (hlx : xs.length ≤ 9223372036854775807) (w : World) (hx : IsStrs w a c xs) (hy : IsStrs w b d xs) :
    Calls Tryd.prog 32 #[.slice a n c, .slice b n d] w fun e w' => e = .returned (.bool true) ∧ Below w.heap.size w w' := by
  subst hn
  exact same32 a c xs b d xs true (by simp) hlx hlx w hx hy

set_option maxRecDepth 100000 in
set_option maxHeartbeats 1000000 in
theorem awake12 (w : World) (hw : Laid5 w) : Calls Tryd.prog 12 #[] w fun e w' => e = .returned (.bool true) ∧ Below w.heap.size w w' := by
  have HW := Lib.hid hw
  clear hw
  go_enter Tryd.func12, Tryd.ntmps12
  go_wp2_with fail
  refine (hex_at ⟨#[49, 70]⟩ (by decide) 31 31 0 (by decide +kernel) w HW.out).mono ?_
  rintro e w1 ⟨rfl, hb1⟩
  have W1 : Hid (Laid5 w1) := HW.out.below hb1
  clear HW
  go_wp2_with fail
  refine (hex_at ⟨#[49, 70]⟩ (by decide) 30 0 3 (by decide +kernel) w1 W1.out).mono ?_
  rintro e w2 ⟨rfl, hb2⟩
  have W2 : Hid (Laid5 w2) := W1.out.below hb2
  have b2 := hb1.trans (hb2.mono hb1.size)
  clear W1 hb1 hb2
  go_wp2_with fail
  refine (token14 ⟨#[71, 69, 84]⟩ (by decide) w2).mono ?_
  rintro e w' ⟨rfl, rfl⟩
  rw [show tokB (⟨#[71, 69, 84]⟩ : ByteArray).data.toList = true by decide +kernel]
  go_wp2_with fail
  refine (target16 ⟨#[47]⟩ (by decide) w2).mono ?_
  rintro e w' ⟨rfl, rfl⟩
  rw [show tgtB (⟨#[47]⟩ : ByteArray).data.toList = true by decide +kernel]
  go_wp2_with fail
  refine (lower20 ⟨#[97, 66]⟩ (by decide) w2).mono ?_
  rintro e w3 ⟨rfl, hb3⟩
  rw [show ((⟨#[97, 66]⟩ : ByteArray).data.toList.map lowC).toArray = #[97, 98] by decide +kernel]
  have W3 : Hid (Laid5 w3) := W2.out.below hb3
  have b3 := b2.trans (hb3.mono b2.size)
  clear W2 b2 hb3
  have eq1 : ((⟨#[97, 98]⟩ : ByteArray).toList == (⟨#[97, 98]⟩ : ByteArray).toList) = true := by simp
  go_wp2_with fail
  have i3 := isStrs_new2 w3 ⟨#[97, 44, 32, 98]⟩ ⟨#[44, 99]⟩ 9
  have hw3 := W3.out.below (below_alloc w3 (.cells #[.string ⟨#[97, 44, 32, 98]⟩, .string ⟨#[44, 99]⟩] 9))
  have bl3 := b3.alloc b3.size (.cells #[.string ⟨#[97, 44, 32, 98]⟩, .string ⟨#[44, 99]⟩] 9)
  refine (list_any _ 2 [⟨#[97, 44, 32, 98]⟩, ⟨#[44, 99]⟩] (by decide) _ i3 hw3).mono ?_
  rintro e w4 ⟨b, d, rfl, hs4, hb4⟩
  rw [listP_ab] at hs4 ⊢
  have W4 : Hid (Laid5 w4) := hw3.below hb4
  have b4 := bl3.trans (hb4.mono bl3.size)
  clear W3 i3 hw3 b3 bl3 hb4
  go_wp2_with fail
  have i4 := isStrs_new3 w4 ⟨#[97]⟩ ⟨#[98]⟩ ⟨#[99]⟩ 9
  have bl4 := below_alloc w4 (.cells #[.string ⟨#[97]⟩, .string ⟨#[98]⟩, .string ⟨#[99]⟩] 9)
  have hs5 := hs4.below bl4
  refine (same_yes b d [⟨#[97]⟩, ⟨#[98]⟩, ⟨#[99]⟩] _ 3 3 rfl (by decide) _ hs5 i4).mono ?_
  rintro e w5 ⟨rfl, hb5⟩
  have W5 : Hid (Laid5 w5) := (W4.out.below bl4).below hb5
  have b5 := (b4.alloc b4.size (.cells #[.string ⟨#[97]⟩, .string ⟨#[98]⟩, .string ⟨#[99]⟩] 9)).trans (hb5.mono (by have := b4.size; simp; omega))
  clear W4 i4 bl4 hs4 hs5 b4 hb5
  go_wp2_with fail
  refine (hexdigits29 255 (by decide) w5 W5.out.2.1).mono ?_
  rintro e w6 ⟨rfl, hb6⟩
  have b6 := b5.trans (hb6.mono b5.size)
  rw [show (prtI 16 255).toArray = #[102, 102] from congrArg List.toArray prt255]
  have eq2 : ((⟨#[102, 102]⟩ : ByteArray).toList == (⟨#[102, 102]⟩ : ByteArray).toList) = true := by simp
  go_wp2_with fail
  go_ret
  exact ⟨rfl, b6⟩
end Go.Proofs.YtneagccakoakpaaDoor
