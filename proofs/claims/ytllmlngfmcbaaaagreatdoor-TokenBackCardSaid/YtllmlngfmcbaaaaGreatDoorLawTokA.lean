/- stewardlaw04.TokenSigns, TokenTaken. -/
import Derived.Test.YtllmlngfmcbaaaaGreatDoorTokM
import Derived.Test.YtllmlngfmcbaaaaGreatDoorCut
namespace Go.Proofs.YtllmlngfmcbaaaaGreatDoor
open Go.RowKit

theorem cut_l (s : ByteArray) (n : Nat) (w : World) : Calls Tryz.prog 10 #[.string s, .int .i64 n] w fun e w' => e = .returned (.string (bs (s.data.toList.take n))) ∧ w = w' := cut11 s n w
set_option maxRecDepth 100000 in
set_option maxHeartbeats 4000000 in
theorem lawTokSigns (key name : ByteArray) (u : Int) (w : World) (hw : LaidT w) :
    Calls Tryz.prog 3 #[.string key, .string name, .int .i64 u] w fun e w' => e = .returned (.bool true) ∧ Below w.heap.size w w' := by
  have HA := Lib.hid (awake9 w hw)
  have HC1 : Hid (∀ W, Calls Tryz.prog 10 #[.string key, .int .i64 70] W fun e w' => e = .returned (.string (bs (key.data.toList.take 70))) ∧ W = w') := fun W => cut_l key 70 W
  have HC2 : Hid (∀ W, Calls Tryz.prog 10 #[.string name, .int .i64 40] W fun e w' => e = .returned (.string (bs (name.data.toList.take 40))) ∧ W = w') := fun W => cut_l name 40 W
  have hk : (key.data.toList.take 70).length ≤ 1000 := by simp; omega
  have hn : (name.data.toList.take 40).length ≤ 1000 := by simp; omega
  generalize key.data.toList.take 70 = k at *
  generalize name.data.toList.take 40 = n at *
  have HS := Lib.hid (fun W h => sign11 k n hk hn u W h)
  have HT := Lib.hid (fun W h => rsign12 k n hk hn u W h)
  obtain ⟨q, hq⟩ : ∃ q, nameB n = q := ⟨_, rfl⟩
  have HN := Lib.hid (fun W => name_l n (by omega) q hq W)
  have HM := Lib.hid (fun W => rname_l n (by omega) q hq W)
  have HW := Lib.hid hw
  clear hw hq
  generalize bs (signL k n u) = R at *
  generalize bs n = N at *
  generalize bs k = K at *
  have hrr : (R.toList == R.toList) = true := by simp
  cases q
  all_goals
    go_enter Tryz.func3, Tryz.ntmps3
    go_wp2_with fail
    refine HA.out.mono ?_
    rintro e w1 ⟨rfl, hb1⟩
    have W1 := Lib.hid (HW.out.below hb1)
    go_wp2_with fail
    refine (HC1.out w1).mono ?_
    rintro e w' ⟨rfl, rfl⟩
    go_wp2_with fail
    refine (HC2.out w1).mono ?_
    rintro e w' ⟨rfl, rfl⟩
    go_wp2_with fail
    refine (HS.out w1 W1.out).mono ?_
    rintro e w2 ⟨rfl, hb2⟩
    have W2 := Lib.hid (W1.out.below hb2)
    have b2 := hb1.trans (hb2.mono hb1.size)
    clear hb1 hb2
    go_wp2_with fail
    refine (HT.out w2 W2.out).mono ?_
    rintro e w3 ⟨rfl, hb3⟩
    have b3 := b2.trans (hb3.mono b2.size)
    clear hb3
    go_wp2_with fail
    refine (HN.out w3).mono ?_
    rintro e w4 ⟨rfl, hb4⟩
    have b4 := b3.trans (hb4.mono b3.size)
    clear hb4
    go_wp2_with fail
    refine (HM.out w4).mono ?_
    rintro e w5 ⟨rfl, hb5⟩
    have b5 := b4.trans (hb5.mono b4.size)
    go_wp2_with fail
    go_ret
    exact ⟨rfl, b5⟩
theorem char_at (nm r : List UInt8) (m : Nat) : (nm ++ 46 :: r)[nm.length + 1 + m]? = r[m]? := by
  rw [List.getElem?_append_right (by omega), show nm.length + 1 + m - nm.length = m + 1 by omega]
  simp
theorem char_dig (n m : Nat) (t : List UInt8) (hm : m < (Lib.decDigits n).length) : ∃ c, (Lib.decDigits n ++ 46 :: t)[m]? = some c ∧ dig c = true ∧ (Lib.decDigits n)[m]? = some c := by
  refine ⟨(Lib.decDigits n)[m], ?_, ?_, by simp [hm]⟩
  · rw [List.getElem?_append_left hm]; simp [hm]
  · exact List.all_eq_true.1 (dec_all n) _ (List.getElem_mem hm)
theorem num_take (n m : Nat) (c : UInt8) (h : (Lib.decDigits n)[m]? = some c) : numT ((Lib.decDigits n).take (m + 1)) = 10 * numT ((Lib.decDigits n).take m) + (c.toNat - 48) := by
  rw [List.take_add_one, h, Option.toList_some, numT_snoc]
theorem num_le (n m : Nat) (hn : n ≤ 1099511627776) : numT ((Lib.decDigits n).take m) ≤ 1099511627776 := by
  have := numT_le ((Lib.decDigits n).drop m) ((Lib.decDigits n).take m)
  rw [List.take_append_drop, dec_num] at this
  omega
set_option maxRecDepth 100000 in
set_option maxHeartbeats 8000000 in
theorem lawTokTaken (key s : ByteArray) (now : Int) (w : World) (hw : LaidT w) :
    Calls Tryz.prog 6 #[.string key, .string s, .int .i64 now] w fun e w' => e = .returned (.bool true) ∧ Below w.heap.size w w' := by
  have HA := Lib.hid (awake9 w hw)
  have HC1 : Hid (∀ W, Calls Tryz.prog 10 #[.string key, .int .i64 70] W fun e w' => e = .returned (.string (bs (key.data.toList.take 70))) ∧ W = w') := fun W => cut_l key 70 W
  have HC2 : Hid (∀ W, Calls Tryz.prog 10 #[.string s, .int .i64 90] W fun e w' => e = .returned (.string (bs (s.data.toList.take 90))) ∧ W = w') := fun W => cut_l s 90 W
  have hk : (key.data.toList.take 70).length ≤ 1000 := by simp; omega
  have hl : (s.data.toList.take 90).length ≤ 90 := by simp; omega
  generalize key.data.toList.take 70 = k at *
  generalize s.data.toList.take 90 = l at *
  have HW := Lib.hid hw
  rcases ver_cases k l now with ⟨e, he, hv⟩ | ⟨nm, n, hv, hn, hnow, hl1, hnb, hl2⟩
  · have HV := Lib.hid (fun W h => verify_at k l hk (by omega) now [] e hv W h)
    have e0 : ((e : Int) != 0) = true := by rw [bne_iff_ne]; exact he
    have hem : (bs []).toList = [] := by rw [ByteArray.toList_eq]; rfl
    clear hw hv he
    generalize bs l = S at *
    generalize bs k = K at *
    generalize bs [] = E at *
    go_enter Tryz.func6, Tryz.ntmps6
    go_wp2_with fail
    refine HA.out.mono ?_
    rintro e w1 ⟨rfl, hb1⟩
    have W1 := Lib.hid (HW.out.below hb1)
    go_wp2_with fail
    refine (HC1.out w1).mono ?_
    rintro e w' ⟨rfl, rfl⟩
    go_wp2_with fail
    refine (HC2.out w1).mono ?_
    rintro e w' ⟨rfl, rfl⟩
    go_wp2_with fail
    refine (HV.out w1 W1.out).mono ?_
    rintro e w2 ⟨rfl, hb2⟩
    have b2 := hb1.trans (hb2.mono hb1.size)
    clear hb1 hb2
    go_wp2_with fail
    go_ret
    exact ⟨rfl, b2⟩
  · have HV := Lib.hid (fun W h => verify_at k l hk (by omega) now nm 0 hv W h)
    have hv0 : verL k l 0 = (nm, 0) := by
      rw [hl2, ver_sign, if_pos hnb, clampT_nat n hn, if_neg (by omega)]
    have HV0 := Lib.hid (fun W h => verify_at k l hk (by omega) 0 nm 0 hv0 W h)
    have hnl : nm.length + 1 ≤ l.length := by rw [hl1, cont_app, List.length_append, List.length_cons]; omega
    have HS := Lib.hid (fun W h => sign_at k nm hk (by omega) (n : Int) l hl2.symm W h)
    have hform : l = nm ++ 46 :: (Lib.decDigits n ++ 46 :: tagL k (contL nm n)) := by rw [← cont_app]; exact hl1
    generalize tagL k (contL nm n) = tg at *
    have HF := Lib.hid hform
    have HNL := Lib.hid hnl
    have hzs := bs_size l
    have hzn := bs_size nm
    have hls : (bs l).data.toList = l := rfl
    have HLS := Lib.hid hls
    have j1 : ((bs nm).size : Int) + 1 ≤ (bs l).size := by omega
    have j2 : ((bs l).size : Int) ≤ 90 := by omega
    have hdl : (bs l).size = (bs nm).size + 1 + (Lib.decDigits n).length + 33 ∨ (bs nm).size + 1 + (Lib.decDigits n).length + 1 ≤ (bs l).size := by
      right
      rw [hzs, hzn, hform]; simp; omega
    have HDL : Hid ((bs nm).size + 1 + (Lib.decDigits n).length + 1 ≤ (bs l).size) := by
      show _ ≤ _
      rcases hdl with h | h <;> omega
    have HZN : Hid ((bs nm).size = nm.length) := hzn
    have hrr : ((bs l).toList == (bs l).toList) = true := by simp
    have hn0 : (n : Int) ≤ 1099511627776 := by omega
    clear hw hv hv0 hl1 hl2 hnb hform hnl hzs hls hdl hzn
    generalize bs l = S at *
    generalize bs k = K at *
    generalize bs nm = M at *
    go_enter Tryz.func6, Tryz.ntmps6
    go_wp2_with fail
    refine HA.out.mono ?_
    rintro e w1 ⟨rfl, hb1⟩
    have W1 := Lib.hid (HW.out.below hb1)
    go_wp2_with fail
    refine (HC1.out w1).mono ?_
    rintro e w' ⟨rfl, rfl⟩
    go_wp2_with fail
    refine (HC2.out w1).mono ?_
    rintro e w' ⟨rfl, rfl⟩
    go_wp2_with fail
    refine (HV.out w1 W1.out).mono ?_
    rintro e w2 ⟨rfl, hb2⟩
    have W2 := Lib.hid (W1.out.below hb2)
    have b2 := hb1.trans (hb2.mono hb1.size)
    clear hb1 hb2
    go_wp2_with fail
    refine (HV0.out w2 W2.out).mono ?_
    rintro e w3 ⟨rfl, hb3⟩
    have b3 := b2.trans (hb3.mono b2.size)
    clear hb3
    go_wp2_with fail
    go_loopw [11, 12] (fun nv iv wr => ∃ I m N : Nat, iv = .int .i64 (I : Int) ∧ nv = .int .i64 (N : Int) ∧ Hid (I = M.size + 1 + m) ∧ Hid (m ≤ (Lib.decDigits n).length) ∧ Hid (N = numT ((Lib.decDigits n).take m)) ∧ Below w.heap.size w wr) (fun _ iv _ => S.size - (intOf iv).toNat)
    case atStart => exact ⟨M.size + 1, 0, 0, by go_num, rfl, rfl, Nat.zero_le _, rfl, b3⟩
    case round =>
      clear b3
      obtain ⟨I, m, N, rfl, rfl, hI, hm, hN, hb⟩ := hrel
      have hIs : I < S.size := by have h1 := hI.out; have h2 := hm.out; have h3 := HDL.out; omega
      have hIi : (I : Int) < S.size := by omega
      have hch : (Lib.decDigits n ++ 46 :: tg)[m]? = some S[I] := by
        have h1 := toList_getT S I hIs
        have hI' : I = nm.length + 1 + m := by have h2 := hI.out; have h3 := HZN.out; omega
        have h2 : l[nm.length + 1 + m]? = some S[I] := by rw [← hI', ← HLS.out]; exact h1
        rw [HF.out, char_at] at h2
        exact h2
      have hNb : N ≤ 1099511627776 := by rw [hN.out]; exact num_le n m (by omega)
      have hNi : (N : Int) ≤ 1099511627776 := by omega
      by_cases hlt : m < (Lib.decDigits n).length
      · obtain ⟨c, hc, hcd, hc2⟩ := char_dig n m tg hlt
        rw [hch] at hc
        obtain rfl : S[I] = c := Option.some.inj hc
        have hdd := dig_ne hcd
        have e46 : ((S[I].toNat : Int) != 46) = true := by rw [bne_iff_ne]; omega
        have g48 : (48 : Int) ≤ S[I].toNat := by omega
        have g57 : (S[I].toNat : Int) ≤ 57 := by omega
        have hnn : Hid (((numT ((Lib.decDigits n).take (m + 1)) : Nat) : Int) = 10 * (N : Int) + (S[I].toNat : Int) - 48) := by
          show _ = _
          rw [num_take n m _ hc2, ← hN.out]; omega
        have hI2 : Hid (I + 1 = M.size + 1 + (m + 1)) := by show _ = _; have := hI.out; omega
        have hm2 : Hid (m + 1 ≤ (Lib.decDigits n).length) := hlt
        clear hch hc hcd hc2 hdd hlt hI hm hN
        go_wp2_with fail
        go_roundw
        case rel => exact ⟨I + 1, m + 1, _, by go_num, by rw [hnn.out], hI2, hm2, rfl, hb⟩
        case measure => simp [intOf]; omega
      · have hme : m = (Lib.decDigits n).length := by have := hm.out; omega
        rw [hme, List.getElem?_append_right (Nat.le_refl _), Nat.sub_self] at hch
        have hc46 : S[I] = 46 := (Option.some.inj hch).symm
        have e46 : ((S[I].toNat : Int) != 46) = false := by rw [hc46]; rfl
        have hNn : N = n := by
          rw [hN.out, hme, List.take_of_length_le (Nat.le_refl _), dec_num]
        subst hNn
        have W9 := Lib.hid (HW.out.below hb)
        clear hch hc46 hme hlt hI hm hN
        go_wp2_with fail
        refine (HS.out wr W9.out).mono ?_
        rintro e w5 ⟨rfl, hb5⟩
        have b5 := hb.trans (hb5.mono hb.size)
        go_wp2_with fail
        go_ret
        exact ⟨rfl, b5⟩
end Go.Proofs.YtllmlngfmcbaaaaGreatDoor
