/- stewardlaw04.TokenVerifies. -/
import Derived.Test.YtllmlngfmcbaaaaGreatDoorLawTokA
import Derived.Test.YtllmlngfmcbaaaaGreatDoorTokL
namespace Go.Proofs.YtllmlngfmcbaaaaGreatDoor
open Go.RowKit

set_option maxRecDepth 100000 in
set_option maxHeartbeats 4000000 in
theorem lawTokVerifies (key s : ByteArray) (now : Int) (w : World) (hw : LaidT w) :
    Calls Tryz.prog 4 #[.string key, .string s, .int .i64 now] w fun e w' => e = .returned (.bool true) ∧ Below w.heap.size w w' := by
  have HA := Lib.hid (awake9 w hw)
  have HC1 : Hid (∀ W, Calls Tryz.prog 10 #[.string key, .int .i64 70] W fun e w' => e = .returned (.string (bs (key.data.toList.take 70))) ∧ W = w') := fun W => cut_l key 70 W
  have HC2 : Hid (∀ W, Calls Tryz.prog 10 #[.string s, .int .i64 90] W fun e w' => e = .returned (.string (bs (s.data.toList.take 90))) ∧ W = w') := fun W => cut_l s 90 W
  have hk : (key.data.toList.take 70).length ≤ 1000 := by simp; omega
  have hl : (s.data.toList.take 90).length ≤ 90 := by simp; omega
  generalize key.data.toList.take 70 = k at *
  generalize s.data.toList.take 90 = l at *
  have HV := Lib.hid (fun W h => verify15 k l hk (by omega) now W h)
  have HR := Lib.hid (fun W h => rverify16 k l hk (by omega) now W h)
  have HW := Lib.hid hw
  clear hw hk hl
  generalize verL k l now = r at *
  obtain ⟨a, e⟩ := r
  simp only [verV] at HV HR
  have hrr : ((bs a).toList == (bs a).toList) = true := by simp
  have hee : (e == e) = true := by simp
  generalize bs a = A at *
  generalize bs l = S at *
  generalize bs k = K at *
  go_enter Tryz.func4, Tryz.ntmps4
  go_wp2_with fail
  refine HA.out.mono ?_
  rintro e' w1 ⟨rfl, hb1⟩
  have W1 := Lib.hid (HW.out.below hb1)
  go_wp2_with fail
  refine (HC1.out w1).mono ?_
  rintro e' w' ⟨rfl, rfl⟩
  go_wp2_with fail
  refine (HC2.out w1).mono ?_
  rintro e' w' ⟨rfl, rfl⟩
  go_wp2_with fail
  refine (HV.out w1 W1.out).mono ?_
  rintro e' w2 ⟨rfl, hb2⟩
  have W2 := Lib.hid (W1.out.below hb2)
  have b2 := hb1.trans (hb2.mono hb1.size)
  clear hb1 hb2
  go_wp2_with fail
  refine (HR.out w2 W2.out).mono ?_
  rintro e' w3 ⟨rfl, hb3⟩
  have b3 := b2.trans (hb3.mono b2.size)
  go_wp2_with fail
  go_ret
  exact ⟨rfl, b3⟩
end Go.Proofs.YtllmlngfmcbaaaaGreatDoor
