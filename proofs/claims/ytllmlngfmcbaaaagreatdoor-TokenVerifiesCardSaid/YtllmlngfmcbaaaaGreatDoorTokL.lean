/- The reference's Verify. -/
import Derived.Test.YtllmlngfmcbaaaaGreatDoorTokK
import Derived.Test.YtllmlngfmcbaaaaGreatDoorTokI
namespace Go.Proofs.YtllmlngfmcbaaaaGreatDoor
open Go.RowKit

theorem until_l (l : List UInt8) (hl : l.length ≤ 1000) (o : Option (List UInt8 × Nat)) (ho : untilL l = o) (w : World) (hw : LaidT w) :
    Calls Tryz.prog 31 #[.string (bs l)] w fun e w' => e = .returned (untilV o) ∧ Below w.heap.size w w' := by
  subst ho; exact until31 (bs l) (by rw [bs_size]; omega) w hw.pow
theorem rsign_at (key name : List UInt8) (hk : key.length ≤ 1000) (hl : name.length ≤ 1000) (u : Int) (r : List UInt8) (hr : signL key name u = r) (w : World) (hw : LaidT w) :
    Calls Tryz.prog 12 #[.string (bs key), .string (bs name), .int .i64 u] w fun e w' => e = .returned (.string (bs r)) ∧ Below w.heap.size w w' := by
  subst hr; exact rsign12 key name hk hl u w hw
theorem all_hx_step (s : ByteArray) (j : Nat) (hj : j < s.size) (h : (s.data.toList.take j).all isHx = true) (hp : isHx s[j] = true) : (s.data.toList.take (j + 1)).all isHx = true := all_stepT s isHx j hj h hp
theorem hx_cases (c : UInt8) : (isHx c = true ∧ (48 : Int) ≤ c.toNat ∧ (c.toNat : Int) ≤ 57) ∨ (isHx c = true ∧ (48 : Int) ≤ c.toNat ∧ ¬ (c.toNat : Int) ≤ 57 ∧ (97 : Int) ≤ c.toNat ∧ (c.toNat : Int) ≤ 102)
    ∨ (isHx c = false ∧ ¬ (48 : Int) ≤ c.toNat) ∨ (isHx c = false ∧ (48 : Int) ≤ c.toNat ∧ ¬ (c.toNat : Int) ≤ 57 ∧ ¬ (97 : Int) ≤ c.toNat) ∨ (isHx c = false ∧ (48 : Int) ≤ c.toNat ∧ ¬ (c.toNat : Int) ≤ 57 ∧ (97 : Int) ≤ c.toNat ∧ ¬ (c.toNat : Int) ≤ 102) := by
  revert c; apply all256; decide +kernel
theorem rver_none {key l : List UInt8} {now : Int} (h : parseL l = none) : verL key l now = ([], 2) := by unfold verL; rw [h]
theorem rver_some {key l nm tg : List UInt8} {n : Nat} {now : Int} (h : parseL l = some (nm, n, tg)) : verL key l now = if tg = tagL key (contL nm n) then (if (n : Int) < now then ([], 5) else (nm, 0)) else ([], 10) := by unfold verL; rw [h]
set_option maxRecDepth 1000000 in
set_option maxHeartbeats 16000000 in
theorem rverify16 (key l : List UInt8) (hk : key.length ≤ 1000) (hl : l.length ≤ 900) (now : Int) (w : World) (hw : LaidT w) :
    Calls Tryz.prog 16 #[.string (bs key), .string (bs l), .int .i64 now] w fun e w' => e = .returned (verV (verL key l now)) ∧ Below w.heap.size w w' := by
  have HU := Lib.hid (fun o ho => until_l l (by omega) o ho w hw)
  have HW := Lib.hid hw
  obtain ⟨R, hR⟩ : ∃ R, R = verL key l now := ⟨_, rfl⟩
  rw [← hR]
  cases hu : untilL l with
  | none =>
    have HU2 := Lib.hid (HU.out none hu)
    have hv : Hid (R = ([], 2)) := hR.trans (rver_none (until_parse hu))
    clear HU hu hR hw
    unfold untilV at HU2
    simp only at HU2
    go_enter Tryz.func16, Tryz.ntmps16
    go_wp2_with fail
    refine HU2.out.mono ?_
    rintro e w1 ⟨rfl, hb⟩
    go_wp2_with fail
    go_ret2
    exact ⟨by rw [hv.out]; rfl, hb⟩
  | some r =>
    obtain ⟨nm, n⟩ := r
    have HU2 := Lib.hid (HU.out _ hu)
    obtain ⟨hn, hno, t, hform, hpar⟩ := until_form hu
    have hll : l.length = (contL nm n).length + 1 + t.length := by rw [hform]; simp; omega
    have hcn : nm.length ≤ (contL nm n).length := by unfold contL; simp
    clear HU hu hw
    unfold untilV at HU2
    simp only at HU2
    cases hnb : nameB nm with
    | false =>
      have HN2 := Lib.hid (fun W => rname_l nm (by omega) false hnb W)
      have hv : Hid (R = ([], 2)) := hR.trans (rver_none (by rw [hpar, hnb, if_neg (by simp)]))
      clear hR hpar hform hll hcn hnb
      go_enter Tryz.func16, Tryz.ntmps16
      go_wp2_with fail
      refine HU2.out.mono ?_
      rintro e w1 ⟨rfl, hb⟩
      go_wp2_with fail
      refine (HN2.out w1).mono ?_
      rintro e w2 ⟨rfl, hb2⟩
      have b2 := hb.trans (hb2.mono hb.size)
      go_wp2_with fail
      go_ret2
      exact ⟨by rw [hv.out]; rfl, b2⟩
    | true =>
      have HN2 := Lib.hid (fun W => rname_l nm (by omega) true hnb W)
      rw [hnb] at hpar
      have HI := Lib.hid (fun W h => itoa_l n hn W h)
      have hA1 : Hid (bs nm ++ ⟨#[46]⟩ ++ bs (Lib.decDigits n) = bs (contL nm n)) := app_dot_l nm (Lib.decDigits n)
      have hA2 : Hid (bs (contL nm n) ++ ⟨#[46]⟩ = bs (contL nm n ++ [46])) := bs_app (contL nm n) [46]
      have hsg : signL key nm n = contL nm n ++ 46 :: tagL key (contL nm n) := by
        unfold signL
        rw [if_pos hnb, clampT_nat n hn]
      have hsl := signL_length key nm n
      have HS := Lib.hid (fun W h => rsign_at key nm hk (by omega) (n : Int) _ hsg W h)
      have hdl := dec_13 n hn
      have hz1 := bs_size nm
      have hz2 := bs_size (Lib.decDigits n)
      have hz3 := bs_size (contL nm n)
      have hz4 := bs_size (contL nm n ++ [46])
      have hz5 := bs_size l
      have hz6 : (bs t).size = t.length := bs_size t
      rw [List.length_append, List.length_singleton] at hz4
      have hext : Hid ((bs l).extract ((contL nm n).length + 1) (bs l).size = bs t) := by
        show _ = _
        refine str_eq _ _ ?_
        rw [extractL, bs_list, hform, List.take_of_length_le (by rw [List.length_drop, bs_size]; exact Nat.le_refl _)]
        rw [show (contL nm n).length + 1 = (contL nm n ++ [46]).length by simp, show contL nm n ++ 46 :: t = (contL nm n ++ [46]) ++ t by simp, List.drop_left]
      have hq : ∀ x, decide (bs l = bs (contL nm n ++ 46 :: tagL key (contL nm n))) = x → ((bs l).toList == (bs (contL nm n ++ 46 :: tagL key (contL nm n))).toList) = x := by
        intro x hx
        rw [beq_bytes, ← hx]
        apply decide_eq_decide.2
        exact ⟨fun h => str_eq _ _ h, fun h => by rw [h]⟩
      have hlt : (l = contL nm n ++ 46 :: tagL key (contL nm n)) ↔ t = tagL key (contL nm n) := by
        rw [hform]
        constructor
        · intro h; have := List.append_cancel_left h; simpa using this
        · rintro rfl; rfl
      have hls : (bs t).data.toList = t := rfl
      have HLS := Lib.hid hls
      rw [tagF_eq] at hpar
      have HPAR := Lib.hid hpar
      have HRR := Lib.hid hR
      have HQ := Lib.hid hq
      have HLT := Lib.hid hlt
      have HZ6 := Lib.hid hz6
      obtain ⟨sg, hsge⟩ : ∃ sg, sg = contL nm n ++ 46 :: tagL key (contL nm n) := ⟨_, rfl⟩
      rw [← hsge] at HS HQ HLT
      obtain ⟨ct, hcte⟩ : ∃ ct, ct = contL nm n := ⟨_, rfl⟩
      rw [← hcte] at hA1 hA2 hext hz3 hz4
      have j0 : ((bs nm).size : Int) ≤ 900 := by rw [hcte] at hz3; omega
      have j1 : ((bs (Lib.decDigits n)).size : Int) ≤ 13 := by omega
      have j2 : ((bs ct).size : Int) ≤ 900 := by rw [hcte] at hz3 ⊢; omega
      have j3 : ((bs (ct ++ [46])).size : Int) ≤ (bs l).size := by rw [hcte] at hz4 ⊢; omega
      have j4 : (bs (ct ++ [46])).size = ct.length + 1 := hz4
      have j5 : ((bs l).size : Int) ≤ 900 := by omega
      have j6 : (bs (ct ++ [46])).size ≤ (bs l).size := by omega
      rw [← j4] at hext
      have HBL := Lib.hid (show bs l = bs l from rfl)
      have htl9 : t.length ≤ 900 := by omega
      clear hR hpar hform hll hcn hnb hsg hsl hdl hz1 hz2 hz3 hz4 hz5 hz6 hq hlt hls j4 HBL
      obtain ⟨L, hL⟩ : ∃ L, L = bs l := ⟨_, rfl⟩
      obtain ⟨SG, hSG⟩ : ∃ SG, SG = bs sg := ⟨_, rfl⟩
      rw [← hSG] at HS HQ
      rw [← hL] at HQ hext j3 j5 j6 HU2 ⊢
      have HLL := Lib.hid hL
      have HSG := Lib.hid hSG
      clear hL hSG
      generalize bs (Lib.decDigits n) = D at *
      generalize bs (ct ++ [46]) = CD at *
      generalize bs ct = C at *
      obtain ⟨T, hT⟩ : ∃ T, T = bs t := ⟨_, rfl⟩
      rw [← hT] at hext HLS HZ6
      have j7 : (T.size : Int) ≤ 900 := by have := HZ6.out; omega
      generalize bs key = K at *
      obtain ⟨M, hM⟩ : ∃ M, M = bs nm := ⟨_, rfl⟩
      rw [← hM] at hA1 j0 HN2 HS HU2
      have HM := Lib.hid hM
      clear hT hcte hsge hM
      go_enter Tryz.func16, Tryz.ntmps16
      go_wp2_with fail
      refine HU2.out.mono ?_
      rintro e w1 ⟨rfl, hb⟩
      have W1 := Lib.hid (HW.out.below hb)
      go_wp2_with fail
      refine (HN2.out w1).mono ?_
      rintro e w2 ⟨rfl, hb2⟩
      have W2 := Lib.hid (W1.out.below hb2)
      have b2 := hb.trans (hb2.mono hb.size)
      clear hb hb2
      go_wp2_with fail
      refine (HI.out w2 W2.out).mono ?_
      rintro e w3 ⟨rfl, hb3⟩
      have W3 := Lib.hid (W2.out.below hb3)
      have b3 := b2.trans (hb3.mono b2.size)
      clear hb3 b2
      have e1 := hA1.out
      have e2 := hA2.out
      have e3 := hext.out
      have HNO : Hid (t.all isHx = false → R = ([], 2)) := fun h => by
        rw [HRR.out]
        exact rver_none (by rw [HPAR.out, h, if_neg (by simp)])
      have HNL : Hid (¬ t.length = 32 → R = ([], 2)) := fun h => by
        rw [HRR.out]
        exact rver_none (by rw [HPAR.out, decide_eq_false h, if_neg (by simp)])
      have HYES : Hid (t.all isHx = true → t.length = 32 → R = if t = tagL key (contL nm n) then (if (n : Int) < now then ([], 5) else (nm, 0)) else ([], 10)) := fun h h2 => by
        rw [HRR.out]
        exact rver_some (by rw [HPAR.out, h, decide_eq_true h2, if_pos (by simp)])
      clear HPAR HRR
      go_wp2_with fail
      clear e1 e2 e3
      go_loopw [13] (fun iv wr => ∃ i : Nat, i ≤ T.size ∧ iv = .int .i64 (i : Int) ∧ Hid ((T.data.toList.take i).all isHx = true) ∧ Below w.heap.size w wr) (fun iv _ => T.size - (intOf iv).toNat)
      case atStart => exact ⟨0, Nat.zero_le _, rfl, (by simp [Hid]), b3⟩
      case round =>
        clear b3
        obtain ⟨i, hi, rfl, hr, hb⟩ := hrel
        by_cases hlt : i < T.size
        · have il : (i : Int) < T.size := by omega
          have hbt := byte_ltT T[i]
          rcases hx_cases T[i] with ⟨hx, g1, g2⟩ | ⟨hx, g1, g2, g3, g4⟩ | ⟨hx, g1⟩ | ⟨hx, g1, g2, g3⟩ | ⟨hx, g1, g2, g3, g4⟩
          · have hst := Lib.hid (all_hx_step T i hlt hr.out hx)
            clear hx
            go_wp2_with fail
            go_roundw
            case rel => exact ⟨i + 1, hlt, by go_num, hst, hb⟩
            case measure => simp [intOf]; omega
          · have hst := Lib.hid (all_hx_step T i hlt hr.out hx)
            clear hx
            go_wp2_with fail
            go_roundw
            case rel => exact ⟨i + 1, hlt, by go_num, hst, hb⟩
            case measure => simp [intOf]; omega
          · have hv : Hid (R = ([], 2)) := HNO.out (by have := all_noT T isHx i hlt hx; rw [HLS.out] at this; exact this)
            clear hx
            go_wp2_with fail
            go_ret2
            exact ⟨by rw [hv.out]; rfl, hb⟩
          · have hv : Hid (R = ([], 2)) := HNO.out (by have := all_noT T isHx i hlt hx; rw [HLS.out] at this; exact this)
            clear hx
            go_wp2_with fail
            go_ret2
            exact ⟨by rw [hv.out]; rfl, hb⟩
          · have hv : Hid (R = ([], 2)) := HNO.out (by have := all_noT T isHx i hlt hx; rw [HLS.out] at this; exact this)
            clear hx
            go_wp2_with fail
            go_ret2
            exact ⟨by rw [hv.out]; rfl, hb⟩
        · have hie : i = T.size := by omega
          have il : decide ((i : Int) < T.size) = false := decide_eq_false (by omega)
          have ig : (T.size : Int) ≤ i := by omega
          have hall : t.all isHx = true := by
            have := all_fullT T isHx i hlt hr.out
            rw [HLS.out] at this
            exact this
          by_cases h32 : T.size = 32
          · have e32 : ((T.size : Int) != 32) = false := by rw [bne_eq_false_iff_eq]; omega
            have hy := HYES.out hall (by rw [← HZ6.out]; exact h32)
            have W9 := Lib.hid (HW.out.below hb)
            by_cases ht : t = tagL key (contL nm n)
            · rw [if_pos ht] at hy
              have hLS : L = SG := by rw [HLL.out, HSG.out]; congr 1; exact HLT.out.2 ht
              have hcmp := HQ.out true (decide_eq_true hLS)
              by_cases hnow : (n : Int) < now
              · rw [if_pos hnow] at hy
                have hv := Lib.hid hy
                clear hy ht hLS hie h32 hall hlt
                go_wp2_with fail
                refine (HS.out wr W9.out).mono ?_
                rintro e w5 ⟨rfl, hb5⟩
                have b5 := hb.trans (hb5.mono hb.size)
                go_wp2_with fail
                go_ret2
                exact ⟨by rw [hv.out]; rfl, b5⟩
              · rw [if_neg hnow] at hy
                have hv := Lib.hid hy
                have hnw : decide ((n : Int) < now) = false := decide_eq_false hnow
                clear hy ht hLS hie h32 hall hlt
                go_wp2_with fail
                refine (HS.out wr W9.out).mono ?_
                rintro e w5 ⟨rfl, hb5⟩
                have b5 := hb.trans (hb5.mono hb.size)
                go_wp2_with fail
                go_ret2
                exact ⟨by rw [hv.out]; simp only [verV]; rw [← HM.out]; rfl, b5⟩
            · rw [if_neg ht] at hy
              have hLS : ¬ L = SG := fun h => ht (HLT.out.1 (by
                rw [HLL.out, HSG.out] at h
                have := congrArg (fun b => b.data.toList) h
                exact this))
              have hcmp := HQ.out false (decide_eq_false hLS)
              have hv := Lib.hid hy
              clear hy ht hLS hie h32 hall hlt
              go_wp2_with fail
              refine (HS.out wr W9.out).mono ?_
              rintro e w5 ⟨rfl, hb5⟩
              have b5 := hb.trans (hb5.mono hb.size)
              go_wp2_with fail
              go_ret2
              exact ⟨by rw [hv.out]; rfl, b5⟩
          · have e32 : ((T.size : Int) != 32) = true := by rw [bne_iff_ne]; omega
            have hv : Hid (R = ([], 2)) := HNL.out (by rw [← HZ6.out]; exact h32)
            clear hie h32 hall hlt
            go_wp2_with fail
            go_ret2
            exact ⟨by rw [hv.out]; rfl, hb⟩
end Go.Proofs.YtllmlngfmcbaaaaGreatDoor
