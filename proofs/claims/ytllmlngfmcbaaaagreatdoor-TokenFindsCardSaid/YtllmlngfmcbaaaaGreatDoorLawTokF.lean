/- stewardlaw04.TokenFinds. -/
import Derived.Test.YtllmlngfmcbaaaaGreatDoorTokM
import Derived.Test.YtllmlngfmcbaaaaGreatDoorTokN
import Derived.Test.YtllmlngfmcbaaaaGreatDoorFew
import Derived.Test.YtllmlngfmcbaaaaGreatDoorLawTokA
namespace Go.Proofs.YtllmlngfmcbaaaaGreatDoor
open Go.RowKit

theorem fewS_mem {xs : List ByteArray} {n m : Nat} {x : ByteArray} (h : x ∈ fewS xs n m) : x.size ≤ m := by
  unfold fewS at h
  obtain ⟨y, _, rfl⟩ := List.mem_map.1 h
  exact cutS_size y m
theorem fewS_len (xs : List ByteArray) (n m : Nat) : (fewS xs n m).length ≤ n := by
  unfold fewS
  simp
  omega
set_option maxRecDepth 100000 in
set_option maxHeartbeats 4000000 in
theorem lawTokFinds (a : Option Addr) (c : Nat) (xs : List ByteArray) (name : ByteArray) (hlen : xs.length ≤ 9223372036854775807) (w : World) (hw : LaidT w) (hx : IsStrs w a c xs) :
    Calls Tryz.prog 7 #[.slice a xs.length c, .string name] w fun e w' => e = .returned (.bool true) ∧ Below w.heap.size w w' := by
  have HA := Lib.hid (awake9 w hw)
  have HC2 : Hid (∀ W, Calls Tryz.prog 10 #[.string name, .int .i64 12] W fun e w' => e = .returned (.string (bs (name.data.toList.take 12))) ∧ W = w') := fun W => cut_l name 12 W
  have hk : (name.data.toList.take 12).length ≤ 1000 := by simp; omega
  generalize name.data.toList.take 12 = k at *
  have HF : Hid (∀ W, IsStrs W a c xs → Calls Tryz.prog 17 #[.slice a xs.length c, .int .i64 6, .int .i64 60] W (FewPost W (fewS xs 6 60))) := fun W h => few14 a c xs 6 60 (by decide) hlen W h
  have hfm : ∀ x ∈ fewS xs 6 60, x.size ≤ 60 := fun x h => fewS_mem h
  have hfl := fewS_len xs 6 60
  generalize fewS xs 6 60 = ys at *
  have hkz := bs_size k
  have HP := Lib.hid (fun b d W h1 h2 => find_any b d ys (bs k) (fun x h => by have := hfm x h; omega) (by omega) (by omega) W h1 h2)
  have HR := Lib.hid (fun b d W h1 => rfind19 b d ys (bs k) (fun x h => by have := hfm x h; omega) (by omega) (by omega) W h1)
  have HW := Lib.hid hw
  have HX := Lib.hid hx
  clear hw hx hfm hfl hkz hk
  generalize bs k = K at *
  cases hr : findL (K.data.toList ++ [61]) (pairsP ys) with
  | none =>
    rw [hr] at HP HR
    simp only [findV] at HP HR
    clear hr
    go_enter Tryz.func7, Tryz.ntmps7
    go_wp2_with fail
    refine HA.out.mono ?_
    rintro e w1 ⟨rfl, hb1⟩
    have W1 := Lib.hid (HW.out.below hb1)
    have X1 := Lib.hid (HX.out.below hb1)
    go_wp2_with fail
    refine (HF.out w1 X1.out).mono ?_
    rintro e w2 ⟨b, d, rfl, hys, hb2⟩
    have W2 := Lib.hid (W1.out.below hb2)
    have b2 := hb1.trans (hb2.mono hb1.size)
    have Y2 := Lib.hid hys
    clear hb1 hb2 hys
    go_wp2_with fail
    refine (HC2.out w2).mono ?_
    rintro e w' ⟨rfl, rfl⟩
    go_wp2_with fail
    refine (HP.out b d w2 Y2.out W2.out.maxl).mono ?_
    rintro e w3 ⟨rfl, hb3⟩
    have Y3 := Lib.hid (Y2.out.below hb3)
    have b3 := b2.trans (hb3.mono b2.size)
    clear hb3
    go_wp2_with fail
    refine (HR.out b d w3 Y3.out).mono ?_
    rintro e w4 ⟨rfl, hb4⟩
    have b4 := b3.trans (hb4.mono b3.size)
    go_wp2_with fail
    go_ret
    exact ⟨rfl, b4⟩
  | some v =>
    rw [hr] at HP HR
    simp only [findV] at HP HR
    have hrr : ((⟨v.toArray⟩ : ByteArray).toList == (⟨v.toArray⟩ : ByteArray).toList) = true := by simp
    clear hr
    generalize (⟨v.toArray⟩ : ByteArray) = V at *
    go_enter Tryz.func7, Tryz.ntmps7
    go_wp2_with fail
    refine HA.out.mono ?_
    rintro e w1 ⟨rfl, hb1⟩
    have W1 := Lib.hid (HW.out.below hb1)
    have X1 := Lib.hid (HX.out.below hb1)
    go_wp2_with fail
    refine (HF.out w1 X1.out).mono ?_
    rintro e w2 ⟨b, d, rfl, hys, hb2⟩
    have W2 := Lib.hid (W1.out.below hb2)
    have b2 := hb1.trans (hb2.mono hb1.size)
    have Y2 := Lib.hid hys
    clear hb1 hb2 hys
    go_wp2_with fail
    refine (HC2.out w2).mono ?_
    rintro e w' ⟨rfl, rfl⟩
    go_wp2_with fail
    refine (HP.out b d w2 Y2.out W2.out.maxl).mono ?_
    rintro e w3 ⟨rfl, hb3⟩
    have Y3 := Lib.hid (Y2.out.below hb3)
    have b3 := b2.trans (hb3.mono b2.size)
    clear hb3
    go_wp2_with fail
    refine (HR.out b d w3 Y3.out).mono ?_
    rintro e w4 ⟨rfl, hb4⟩
    have b4 := b3.trans (hb4.mono b3.size)
    go_wp2_with fail
    go_ret
    exact ⟨rfl, b4⟩
end Go.Proofs.YtllmlngfmcbaaaaGreatDoor
