/- The walk of the statement FieldsLists. -/
import Derived.Test.YtneagccakoakpaaDoorFldV
namespace Go.Proofs.YtneagccakoakpaaDoor
open Go.RowKit

set_option maxRecDepth 100000 in
set_option maxHeartbeats 8000000 in
theorem lawFieldsLists (a : Option Addr) (c : Nat) (xs0 : List Fld) (nm vl : ByteArray) (hlx : xs0.length ≤ 9223372036854775807) (w : World) (hw : MaxL w) (hx : IsFlds w a c xs0) :
    Calls Tryd.prog 9 #[.slice a xs0.length c, .string nm, .string vl] w fun e w' => e = .returned (.bool true) ∧ Below w.heap.size w w' := by
  have HA := Lib.hid (awake35 w hw)
  have HM := Lib.hid hw
  have HFX : Hid (∀ W, IsFlds W a c xs0 → Calls Tryd.prog 39 #[.slice a xs0.length c, .int .i64 10] W fun e w' => ∃ b d, e = .returned (.slice b (fewF xs0 10).length d) ∧ (b = none → d = 0 ∧ fewF xs0 10 = []) ∧ IsFlds w' b d (fewF xs0 10) ∧ Below W.heap.size W w') := fun W h => few39s a c xs0 10 (by decide) hlx W h
  obtain ⟨n, hn⟩ : ∃ n, n = nm.data.toList.take 20 := ⟨_, rfl⟩
  obtain ⟨v, hv⟩ : ∃ v, v = vl.data.toList.take 40 := ⟨_, rfl⟩
  have HCN : Hid (∀ W, Calls Tryd.prog 13 #[.string nm, .int .i64 20] W fun e w' => e = .returned (.string (bs n)) ∧ W = w') := fun W => by rw [hn]; exact cut11 nm 20 W
  have HCV : Hid (∀ W, Calls Tryd.prog 13 #[.string vl, .int .i64 40] W fun e w' => e = .returned (.string (bs v)) ∧ W = w') := fun W => by rw [hv]; exact cut11 vl 40 W
  have hnl : n.length ≤ 20 := by rw [hn, List.length_take]; omega
  have lx := fewF_length xs0 10
  have hsm := fewF_small xs0 10
  have HX := Lib.hid hx
  clear hn hv hw hx
  generalize fewF xs0 10 = xs at *
  have hok : ∀ f ∈ xs, FldOk f := fun f hf => ⟨by have := (hsm f hf).1; omega, by have := (hsm f hf).2; omega⟩
  have hall := allB_len (bs n) xs
  have hsum : sumS (allB (bs n) xs) ≤ 1000000000 := by
    have h1 := sumS_small _ 40 (allB_small (x := bs n) hsm)
    have h2 : (allB (bs n) xs).length * (40 + 1) ≤ 10 * (40 + 1) := Nat.mul_le_mul_right _ (by omega)
    omega
  have htx : (textL xs).length ≤ 100000000000 := by have := textL_small xs hsm; omega
  have hnz : (bs n).size ≤ 4000000000 := by rw [bs_size]; omega
  have hset := setF_len n v xs
  have HOW := Lib.hid (fun b d W h => own40m b d xs (by omega) W h)
  have HRA := Lib.hid (fun b d W h => rall41s b d xs (bs n) (by omega) hok hnz W h)
  have HGE := Lib.hid (fun b d W h => get42 b d xs (bs n) (by omega) hok W h)
  have HHA := Lib.hid (fun b d W h => has43 b d xs (bs n) (by omega) hok W h)
  have HAL := Lib.hid (fun b d W h => all44s b d xs (bs n) (by omega) hok W h)
  have HSE := Lib.hid (fun b d (h1 : d ≤ 9223372036854775807) h2 W h => set46s b d xs n v (by omega) h1 h2 hok W h)
  have HRS := Lib.hid (fun b d W h => rset47s b d xs n v (by omega) hok (by omega) W h)
  have HAD := Lib.hid (fun b d h1 W h => add48s b d xs n v (by omega) h1 W h)
  have HTE := Lib.hid (fun b d W h => text49 b d xs (by omega) hok htx W h)
  have HRT := Lib.hid (fun b d W h => rtext50 b d xs (by omega) hok htx W h)
  have HSZ := Lib.hid (fun b d W h => size51s b d xs (by omega) hok htx W h)
  have HTO := Lib.hid (fun b d W hM h => tokens52s b d xs (bs n) (by omega) hok hsum W hM h)
  have HRK := Lib.hid (fun b d W h => rtokens53s b d xs (bs n) (by omega) hok hnz hsum W h)
  have HI1 := Lib.hid (fun b1 d1 b2 d2 W h1 h2 => lawIs45 b1 d1 (setF n v xs) b2 d2 (setF n v xs) true (by simp) (by omega) (by omega) W h1 h2)
  have HI2 := Lib.hid (fun b1 d1 b2 d2 W h1 h2 => lawIs45 b1 d1 (xs ++ [(n, v)]) b2 d2 (xs ++ [(n, v)]) true (by simp) (by rw [List.length_append, List.length_singleton]; omega) (by rw [List.length_append, List.length_singleton]; omega) W h1 h2)
  have HE1 := Lib.hid (fun b1 d1 b2 d2 W h1 h2 => same_yes b1 d1 (allB (bs n) xs) b2 d2 (allB (bs n) xs).length rfl (by omega) W h1 h2)
  have htl : (bsOf (tokF (bs n) xs)).length ≤ 9223372036854775807 := by
    have := listP_len (allB (bs n) xs)
    rw [bsOf_length]; unfold tokF; rw [List.length_map]; omega
  have HE2 := Lib.hid (fun b1 d1 b2 d2 W h1 h2 => same_yes b1 d1 (bsOf (tokF (bs n) xs)) b2 d2 (bsOf (tokF (bs n) xs)).length rfl htl W h1 h2)
  have HCF : Hid (cellsF [(n, v)] = [.string (bs n), .string (bs v)]) := rfl
  have hst := self_strP (bs (textL xs))
  have HNW : Hid (∀ W, IsFlds (World.alloc W (.cells #[.string (bs n), .string (bs v)] 45)) (some ⟨W.heap.size, 0, none⟩) 1 [(n, v)]) := fun W => isFlds_new1 W n v _
  obtain ⟨YS, hYS⟩ : ∃ YS, YS = xs ++ [(n, v)] := ⟨_, rfl⟩
  rw [← hYS] at HI2 HAD
  have HYS := Lib.hid hYS
  clear hYS
  generalize bsOf (tokF (bs n) xs) = TK at *
  generalize setF n v xs = SF at *
  generalize bs (textL xs) = TX at *
  obtain ⟨G, q, hgv, hgq⟩ : ∃ G q, getV (allB (bs n) xs) = .tuple #[.string G, .bool q] ∧ ((allB (bs n) xs = [] ∧ G = ⟨#[]⟩ ∧ q = false) ∨ (∃ r, allB (bs n) xs = G :: r) ∧ q = true) := by
    cases h : allB (bs n) xs with
    | nil => exact ⟨_, _, rfl, .inl ⟨rfl, rfl, rfl⟩⟩
    | cons y r => exact ⟨_, _, rfl, .inr ⟨⟨r, rfl⟩, rfl⟩⟩
  have hqd : decide (0 < (allB (bs n) xs).length) = q := by
    rcases hgq with ⟨h1, _, rfl⟩ | ⟨⟨r, h1⟩, rfl⟩
    · rw [h1]; rfl
    · rw [h1]; simp
  rw [hgv] at HGE
  rw [hqd] at HHA
  have HGQ := Lib.hid hgq
  generalize allB (bs n) xs = AL at *
  generalize bs n = N at *
  generalize bs v = V at *
  clear hok hsm hsum htx hgv hqd hgq htl
  go_enter Tryd.func9, Tryd.ntmps9
  go_wp2_with fail
  refine HA.out.mono ?_
  rintro e w1 ⟨rfl, hb1⟩
  have X1 := Lib.hid (HX.out.below hb1)
  have B1 := Lib.hid hb1
  clear hb1 HX HA
  go_wp2_with fail
  refine (HFX.out w1 X1.out).mono ?_
  rintro e w2 ⟨a2, c2, rfl, hn2, hx2, hb2⟩
  have B2 := Lib.hid (B1.out.trans (hb2.mono B1.out.size))
  have X2 := Lib.hid hx2
  have N2 := Lib.hid hn2
  clear hb2 hx2 hn2 X1 B1 HFX
  go_wp2_with fail
  refine (HCN.out w2).mono ?_
  rintro e w' ⟨rfl, rfl⟩
  go_wp2_with fail
  refine (HCV.out w2).mono ?_
  rintro e w' ⟨rfl, rfl⟩
  go_wp2_with fail
  refine (HOW.out _ _ w2 X2.out).mono ?_
  rintro e w3 ⟨a3, c3, rfl, hm3, hn3, hf3, hb3⟩
  have B3 := Lib.hid (B2.out.trans (hb3.mono B2.out.size))
  have X3 := Lib.hid (X2.out.below hb3)
  have F3 := Lib.hid hf3
  have N3 := Lib.hid hn3
  have M3 := Lib.hid hm3
  clear hb3 hf3 hn3 hm3 X2 B2 HOW HCN HCV
  go_wp2_with fail
  refine (HRA.out _ _ w3 X3.out).mono ?_
  rintro e w4 ⟨a4, c4, rfl, hs4, hb4⟩
  have B4 := Lib.hid (B3.out.trans (hb4.mono B3.out.size))
  have X4 := Lib.hid (X3.out.below hb4)
  have F4 := Lib.hid (F3.out.below hb4)
  have S4 := Lib.hid hs4
  clear hb4 hs4 X3 F3 B3 HRA
  go_wp2_with fail
  refine (HGE.out _ _ w4 F4.out).mono ?_
  rintro e w5 ⟨rfl, hb5⟩
  have B5 := Lib.hid (B4.out.trans (hb5.mono B4.out.size))
  have X5 := Lib.hid (X4.out.below hb5)
  have F5 := Lib.hid (F4.out.below hb5)
  have S5 := Lib.hid (S4.out.below hb5)
  clear hb5 X4 F4 S4 B4 HGE
  have hsg := self_strP G
  have hlA : (AL.length : Int) ≤ 10 := by omega
  rcases HGQ.out with ⟨h1, h2, h3⟩ | ⟨⟨r, h1⟩, h3⟩
  case' inl =>
    subst h2; subst h3
    have l1 : ¬ 0 < AL.length := by rw [h1]; simp
    have l0 : decide (0 < AL.length) = false := decide_eq_false l1
    clear h1 HGQ
    go_wp2_with fail
  case' inr =>
    subst h3
    have l0 : (AL.length : Int) > 0 := by rw [h1]; simp
    obtain h0 | ⟨bk, o, rfl, hbk, hc, hcell⟩ := S5.out
    · subst h0; cases h1
    have cj := hcell 0 G (by rw [h1]; rfl)
    rw [Nat.add_zero] at cj
    clear h1 hcell HGQ
    go_wp2_with fail
  all_goals
    refine (HHA.out _ _ w5 F5.out).mono ?_
    rintro e w6 ⟨rfl, hb6⟩
    have B6 := Lib.hid (B5.out.trans (hb6.mono B5.out.size))
    have X6 := Lib.hid (X5.out.below hb6)
    have F6 := Lib.hid (F5.out.below hb6)
    have S6 := Lib.hid (S5.out.below hb6)
    clear hb6 B5 X5 F5 S5
    go_wp2_with fail
    refine (HAL.out _ _ w6 F6.out).mono ?_
    rintro e w7 ⟨a7, c7, rfl, hs7, hb7⟩
    have B7 := Lib.hid (B6.out.trans (hb7.mono B6.out.size))
    have X7 := Lib.hid (X6.out.below hb7)
    have F7 := Lib.hid (F6.out.below hb7)
    have S7 := Lib.hid (S6.out.below hb7)
    have T7 := Lib.hid hs7
    clear hs7
    clear hb7 B6 X6 F6 S6
    go_wp2_with fail
    refine (HE1.out _ _ _ _ w7 T7.out S7.out).mono ?_
    rintro e w8 ⟨rfl, hb8⟩
    have B8 := Lib.hid (B7.out.trans (hb8.mono B7.out.size))
    have X8 := Lib.hid (X7.out.below hb8)
    have F8 := Lib.hid (F7.out.below hb8)
    clear T7 S7 HE1 HAL HHA
    clear hb8 B7 X7 F7
    go_wp2_with fail
    refine (HSE.out _ _ M3.out N3.out w8 F8.out).mono ?_
    rintro e w9 ⟨a9, c9, rfl, hf9, hb9⟩
    have B9 := Lib.hid (B8.out.trans (hb9.mono B8.out.size))
    have X9 := Lib.hid (X8.out.below hb9)
    have F9 := Lib.hid (F8.out.below hb9)
    have P9 := Lib.hid hf9
    clear hf9 HSE
    clear hb9 B8 X8 F8
    go_wp2_with fail
    refine (HRS.out _ _ w9 X9.out).mono ?_
    rintro e w10 ⟨a10, c10, rfl, hf10, hb10⟩
    have B10 := Lib.hid (B9.out.trans (hb10.mono B9.out.size))
    have X10 := Lib.hid (X9.out.below hb10)
    have F10 := Lib.hid (F9.out.below hb10)
    have P10 := Lib.hid (P9.out.below hb10)
    have Q10 := Lib.hid hf10
    clear hf10 HRS
    clear hb10 B9 X9 F9 P9
    go_wp2_with fail
    refine (HI1.out _ _ _ _ w10 P10.out Q10.out).mono ?_
    rintro e w11 ⟨rfl, hb11⟩
    have B11 := Lib.hid (B10.out.trans (hb11.mono B10.out.size))
    have X11 := Lib.hid (X10.out.below hb11)
    have F11 := Lib.hid (F10.out.below hb11)
    clear P10 Q10 HI1
    clear hb11 B10 X10 F10
    go_wp2_with fail
    refine (HAD.out _ _ N3.out w11 F11.out).mono ?_
    rintro e w12 ⟨a12, c12, rfl, hf12, hb12⟩
    have B12 := Lib.hid (B11.out.trans (hb12.mono B11.out.size))
    have X12 := Lib.hid (X11.out.below hb12)
    have F12 := Lib.hid (F11.out.below hb12)
    have P12 := Lib.hid hf12
    clear hf12 HAD
    clear hb12 B11 X11 F11
    have O12 : Hid ((w12.alloc (.cells #[] 45)).ownsRow w12.heap.size 45 2 (.slice (some ⟨w12.heap.size, 0, none⟩) 0 0) 0 []) := World.ownsRow_lit w12 #[] 0 (Nat.le_refl _) (by decide) (by simp)
    have L12 := Lib.hid (below_alloc w12 (.cells #[] 45))
    have XA := Lib.hid (X12.out.below L12.out)
    have hz12 : (w12.alloc (.cells #[] 45)).heap.size = w12.heap.size + 1 := World.size_alloc _ _
    go_wp2_with (at_builtin; refine wpList_append_flds 35 73 rfl rfl rfl _ _ rfl w12.heap.size _ 0 [] rfl O12.out a2 c2 xs rfl N2.out XA.out (by omega) (by omega) ?_)
    intro v13 w13 hown13 hgrow13
    have hb13 : Below w12.heap.size w12 w13 := L12.out.grown hgrow13 (by omega) (fun k hk => (O12.out.lt k hk).1)
    have O13 : Hid ((w13.alloc (.cells #[.string N, .string V] 45)).ownsRow w12.heap.size 45 2 v13 xs.length (cellsF xs)) := hown13.alloc _
    have L13 := Lib.hid (below_alloc w13 (.cells #[.string N, .string V] 45))
    have I13 := Lib.hid (HNW.out w13)
    have hz13 : (w13.alloc (.cells #[.string N, .string V] 45)).heap.size = w13.heap.size + 1 := World.size_alloc _ _
    have hz1213 := hb13.size
    have HB13 := Lib.hid hb13
    clear hown13 hgrow13 hb13 O12 L12 XA hz12
    go_wp2_with (at_builtin; refine wpList_append_flds 35 73 rfl rfl rfl _ _ rfl w12.heap.size _ xs.length (cellsF xs) rfl O13.out (some ⟨w13.heap.size, 0, none⟩) 1 [(n, v)] rfl (fun h => by cases h) I13.out (by simp; omega) (by omega) ?_)
    intro v14 w14 hown14 hgrow14
    have hb14 : Below w12.heap.size w13 w14 := (L13.out.mono hz1213).grown hgrow14 (by omega) (fun k hk => (O13.out.lt k hk).1)
    have hb1214 : Below w12.heap.size w12 w14 := HB13.out.trans hb14
    have hown14b : w14.ownsRow w12.heap.size 45 2 v14 YS.length (cellsF YS) := by
      rw [HYS.out, cellsF_append, List.length_append]
      exact hown14
    obtain ⟨a14, c14, e14, _, hf14⟩ := own_isFldsT hown14b
    subst e14
    have Q14 := Lib.hid hf14
    have B14 := Lib.hid (B12.out.trans (hb1214.mono B12.out.size))
    have X14 := Lib.hid (X12.out.below hb1214)
    have F14 := Lib.hid (F12.out.below hb1214)
    have P14 := Lib.hid (P12.out.below hb1214)
    clear hown14 hown14b hgrow14 hb14 hb1214 hf14 HB13 O13 L13 I13 X12 F12 P12 B12 hz13 hz1213
    go_wp2_with fail
    refine (HI2.out _ _ _ _ w14 P14.out Q14.out).mono ?_
    rintro e w15 ⟨rfl, hb15⟩
    have B15 := Lib.hid (B14.out.trans (hb15.mono B14.out.size))
    have X15 := Lib.hid (X14.out.below hb15)
    have F15 := Lib.hid (F14.out.below hb15)
    clear P14 Q14 HI2 HYS HNW
    clear hb15 B14 X14 F14
    go_wp2_with fail
    refine (HTE.out _ _ w15 F15.out).mono ?_
    rintro e w16 ⟨rfl, hb16⟩
    have B16 := Lib.hid (B15.out.trans (hb16.mono B15.out.size))
    have X16 := Lib.hid (X15.out.below hb16)
    have F16 := Lib.hid (F15.out.below hb16)
    clear HTE
    clear hb16 B15 X15 F15
    go_wp2_with fail
    refine (HRT.out _ _ w16 X16.out).mono ?_
    rintro e w17 ⟨rfl, hb17⟩
    have B17 := Lib.hid (B16.out.trans (hb17.mono B16.out.size))
    have X17 := Lib.hid (X16.out.below hb17)
    have F17 := Lib.hid (F16.out.below hb17)
    clear hb17 B16 X16 F16
    go_wp2_with fail
    refine (HSZ.out _ _ w17 F17.out).mono ?_
    rintro e w18 ⟨rfl, hb18⟩
    have B18 := Lib.hid (B17.out.trans (hb18.mono B17.out.size))
    have X18 := Lib.hid (X17.out.below hb18)
    have F18 := Lib.hid (F17.out.below hb18)
    clear HSZ
    clear hb18 B17 X17 F17
    go_wp2_with fail
    refine (HRT.out _ _ w18 X18.out).mono ?_
    rintro e w19 ⟨rfl, hb19⟩
    have B19 := Lib.hid (B18.out.trans (hb19.mono B18.out.size))
    have X19 := Lib.hid (X18.out.below hb19)
    have F19 := Lib.hid (F18.out.below hb19)
    clear HRT
    clear hb19 B18 X18 F18
    go_wp2_with fail
    refine (HTO.out _ _ w19 (HM.out.below B19.out) F19.out).mono ?_
    rintro e w20 ⟨a20, c20, rfl, hs20, hb20⟩
    have B20 := Lib.hid (B19.out.trans (hb20.mono B19.out.size))
    have X20 := Lib.hid (X19.out.below hb20)
    have S20 := Lib.hid hs20
    clear hs20 HTO F19
    clear hb20 B19 X19
    go_wp2_with fail
    refine (HRK.out _ _ w20 X20.out).mono ?_
    rintro e w21 ⟨a21, c21, rfl, hs21, hb21⟩
    have B21 := Lib.hid (B20.out.trans (hb21.mono B20.out.size))
    have S21 := Lib.hid (S20.out.below hb21)
    have T21 := Lib.hid hs21
    clear hs21 HRK X20
    clear hb21 B20 S20
    go_wp2_with fail
    refine (HE2.out _ _ _ _ w21 S21.out T21.out).mono ?_
    rintro e w22 ⟨rfl, hb22⟩
    have B22 := Lib.hid (B21.out.trans (hb22.mono B21.out.size))
    clear hb22 B21 S21 T21 HE2
    go_wp2_with fail
    go_ret
    exact ⟨rfl, B22.out⟩
end Go.Proofs.YtneagccakoakpaaDoor
