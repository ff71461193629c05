/- The law StewardEdges, where there are more than twelve times (written by genedl.py). -/
import Derived.Test.YtpjbdejgamajlabDoorG12
namespace Go.Proofs.YtpjbdejgamajlabDoor
open Go.RowKit

set_option maxHeartbeats 8000000 in
set_option maxRecDepth 100000 in
theorem lawStewardEdges_b (a1 : Option Addr) (c1 : Nat) (xs : List Nat) (hxl : xs.length ≤ 9223372036854775807) (a2 : Option Addr) (c2 : Nat) (ys : List Nat) (hyl : ys.length ≤ 9223372036854775807) (share : Nat) (hsh : share < 18446744073709551616) (W : World) (hx : IsFlts W a1 c1 xs) (hy : IsFlts W a2 c2 ys) (HX12 : Hid (12 < xs.length)) (hP : PmAt W) (hT : P10At W) :
    Calls Tryd.prog 5 #[.slice a1 xs.length c1, .slice a2 ys.length c2, .float .f64 share] W fun e w' => e = .returned (.bool true) ∧ Below W.heap.size W w' := by
  obtain ⟨i0, hi, hz0, hz1, hz2⟩ := info_parts infoCandE
  have HX := Lib.hid hx
  have HY := Lib.hid hy
  have HP := Lib.hid hP
  have HT := Lib.hid hT
  clear hx hy hP hT
  go_enter Tryd.func5, Tryd.ntmps5
  go_wp2_with fail
  refine (cleast19 none 0 [] (by decide) (fun _ h => by cases h) _ (.inl rfl)).mono ?_
  rintro e w1 ⟨r, rfl, hr, hb1⟩
  obtain rfl : r = -1 := hr.1 rfl
  have HB1 := Lib.hid hb1
  clear hr hb1
  go_wp2_with fail
  refine (Ed.mean_two _).mono ?_
  rintro e w1' ⟨rfl, rfl⟩
  go_wp2_with fail
  refine (text_two _ (HP.out.below HB1.out) (HT.out.on HB1.out)).mono ?_
  rintro e w2 ⟨rfl, hb2⟩
  have HB2 := Lib.hid (HB1.out.trans (hb2.mono HB1.out.size))
  have hse := strEqE ⟨#[50]⟩ ⟨#[50]⟩
  rw [decide_eq_true rfl] at hse
  clear hb2 HB1
  go_wp2_with fail
  go_loopw [7, 8] (fun u i wr => ∃ j : Nat, j ≤ 12 ∧ j ≤ xs.length ∧ i = .int .i64 (j : Int) ∧ Hid (wr.ownsRow W.heap.size 54 4 u j (cellsC (edC xs ys share j))) ∧ Hid (Below W.heap.size W wr)) (fun _ i _ => xs.length - (intOf i).toNat)
  case atStart => exact ⟨0, by omega, Nat.zero_le _, rfl, World.ownsRow_nil _ _ _ _, HB2⟩
  case round =>
    obtain ⟨j, hj12, hjx, rfl, ho, hb⟩ := hrel
    by_cases hlt : j < xs.length
    · have j1 : (j : Int) < xs.length := by omega
      by_cases hl12 : j < 12
      · have j2 : (j : Int) < 12 := by omega
        obtain h0 | ⟨bk, o, rfl, hbk, hc, hcell⟩ := HX.out.below hb.out
        · subst h0; simp at hlt
        obtain ⟨cx, hxv⟩ := hcell j xs[j] (by simp [hlt])
        have hxd : xs[j]?.getD 0 = xs[j] := by simp [hlt]
        have HST := Lib.hid (edC_cells xs ys share j)
        have hsz := hb.out.size
        have FIN : Hid (∀ T : Nat, T = edT xs ys share j → ∀ (v' : Value) (w4 : World), w4.ownsRow W.heap.size 54 4 v' (j + 1) (cellsC (edC xs ys share j) ++ [.string ⟨#[]⟩, .int .i64 (1 + (j : Int)), .int .i64 ((j : Int) * 2), .float .f64 T]) → w4.ownsRow W.heap.size 54 4 v' (j + 1) (cellsC (edC xs ys share (j + 1)))) := by
          intro T hT v' w4 h
          rw [HST.out, ← hT]; exact h
        have HED : Hid (edT xs ys share j = if j < ys.length then mnF (xs[j]?.getD 0) (ys[j]?.getD 0) share else xs[j]?.getD 0) := rfl
        generalize cellsC (edC xs ys share j) = cl at *
        obtain ⟨X, hXe⟩ : ∃ X, X = xs[j] := ⟨_, rfl⟩
        rw [← hXe] at cx hxv hxd
        have HXD := Lib.hid hxd
        clear hcell hXe hxd HST
        by_cases hly : j < ys.length
        · have k1 : (j : Int) < ys.length := by omega
          obtain h0 | ⟨bk2, o2, rfl, hbk2, hc2, hcell⟩ := HY.out.below hb.out
          · subst h0; simp at hly
          obtain ⟨cy, hyv⟩ := hcell j ys[j] (by simp [hly])
          have HYD : Hid (ys[j]?.getD 0 = ys[j]) := by show _ = _; simp [hly]
          obtain ⟨Y, hYe⟩ : ∃ Y, Y = ys[j] := ⟨_, rfl⟩
          rw [← hYe] at cy hyv HYD
          clear hcell hYe
          go_wp2_with fail
          refine (mnF_is hxv hyv hsh _).mono ?_
          rintro e w' ⟨rfl, hw'⟩
          subst w'
          obtain ⟨T, hTe⟩ : ∃ T, T = mnF X Y share := ⟨_, rfl⟩
          have HTT : Hid (T = edT xs ys share j) := by show _ = _; rw [HED.out, if_pos hly, HXD.out, HYD.out]; exact hTe
          rw [← hTe]
          clear hTe HED
          have hnews := cells_cand wr ⟨#[]⟩ (1 + (j : Int)) ((j : Int) * 2) T 54
          have HNW := Lib.hid hnews
          have HO2 := Lib.hid (ho.out.alloc (.cells #[.string ⟨#[]⟩, .int .i64 (1 + (j : Int)), .int .i64 ((j : Int) * 2), .float .f64 T] 54))
          have hb2 := Lib.hid (hb.out.alloc hsz (.cells #[.string ⟨#[]⟩, .int .i64 (1 + (j : Int)), .int .i64 ((j : Int) * 2), .float .f64 T] 54))
          clear hnews ho hb
          go_wp2_with (at_builtin; refine wpList_append_own _ rfl _ _ 52 rfl W.heap.size 54 i0 (.agg #[.string ⟨#[]⟩, .int .i64 0, .int .i64 0, .float .f64 0]) 4 40 Tryd.underlying52 hi hz0 hz1 hz2 rfl (by decide) _ _ _ rfl HO2.out ⟨wr.heap.size, 0, none⟩ 1 1 [.string ⟨#[]⟩, .int .i64 (1 + (j : Int)), .int .i64 ((j : Int) * 2), .float .f64 T] rfl rfl HNW.out (cand_one _ _ _ T) (by unfold maxLen; omega) (by omega) (by simp; omega) ?_)
          intro v' w4 hown' hgrow _
          have HB5 : Hid (Below W.heap.size W w4) := hb2.out.grown hgrow hb2.out.size (fun k hk => (HO2.out.lt k hk).1)
          have HO5 := Lib.hid (FIN.out T HTT.out v' w4 hown')
          clear hown' hgrow hb2 HO2 HNW
          go_wp2_with fail
          go_roundw
          case rel => exact ⟨j + 1, by omega, by omega, by go_num, HO5, HB5⟩
          case measure => simp [intOf]; omega
        · have k1 : ¬ (j : Int) < ys.length := by omega
          obtain ⟨T, hTe⟩ : ∃ T, T = X := ⟨_, rfl⟩
          have HTT : Hid (T = edT xs ys share j) := by show _ = _; rw [HED.out, if_neg hly, HXD.out]; exact hTe
          rw [← hTe] at cx
          clear hTe HED
          have hnews := cells_cand wr ⟨#[]⟩ (1 + (j : Int)) ((j : Int) * 2) T 54
          have HNW := Lib.hid hnews
          have HO2 := Lib.hid (ho.out.alloc (.cells #[.string ⟨#[]⟩, .int .i64 (1 + (j : Int)), .int .i64 ((j : Int) * 2), .float .f64 T] 54))
          have hb2 := Lib.hid (hb.out.alloc hsz (.cells #[.string ⟨#[]⟩, .int .i64 (1 + (j : Int)), .int .i64 ((j : Int) * 2), .float .f64 T] 54))
          clear hnews ho hb
          go_wp2_with (at_builtin; refine wpList_append_own _ rfl _ _ 52 rfl W.heap.size 54 i0 (.agg #[.string ⟨#[]⟩, .int .i64 0, .int .i64 0, .float .f64 0]) 4 40 Tryd.underlying52 hi hz0 hz1 hz2 rfl (by decide) _ _ _ rfl HO2.out ⟨wr.heap.size, 0, none⟩ 1 1 [.string ⟨#[]⟩, .int .i64 (1 + (j : Int)), .int .i64 ((j : Int) * 2), .float .f64 T] rfl rfl HNW.out (cand_one _ _ _ T) (by unfold maxLen; omega) (by omega) (by simp; omega) ?_)
          intro v' w4 hown' hgrow _
          have HB5 : Hid (Below W.heap.size W w4) := hb2.out.grown hgrow hb2.out.size (fun k hk => (HO2.out.lt k hk).1)
          have HO5 := Lib.hid (FIN.out T HTT.out v' w4 hown')
          clear hown' hgrow hb2 HO2 HNW
          go_wp2_with fail
          go_roundw
          case rel => exact ⟨j + 1, by omega, by omega, by go_num, HO5, HB5⟩
          case measure => simp [intOf]; omega
      · have j2 : ¬ (j : Int) < 12 := by omega
        have hn12 : j ≤ 12 := hj12
        have hcl := edC_len xs ys share j
        have ho2 := ho.out
        obtain ⟨ua, uc, rfl⟩ := own_slice ho2
        have ho3 : wr.ownsRow W.heap.size 54 4 (.slice ua j uc) (edC xs ys share j).length (cellsC (edC xs ys share j)) := by rw [hcl]; exact ho2
        have hic := (isCands_own ho3).2
        have hsm := edC_small (xs := xs) (ys := ys) (h := share) hn12
        have hrk := rank28 ua uc (edC xs ys share j) (by rw [hcl]; omega) hsm wr hic
        rw [hcl] at hrk
        have HRK := Lib.hid hrk
        have HSM := Lib.hid hsm
        have HIC := Lib.hid hic
        have HCL := Lib.hid hcl
        clear hrk hsm hic hcl ho3 ho2 ho HX HY HT HP HB2
        generalize edC xs ys share j = cs at *
        have hb0 := hb
        clear hb
        obtain ⟨wq, rfl⟩ : ∃ wq, wq = wr := ⟨_, rfl⟩
        go_wp2_with fail
        refine HRK.out.mono ?_
        rintro e w1 ⟨g, f, rfl, hs, hr, hb1, hg⟩
        have HS := Lib.hid hs
        have HR := Lib.hid hr
        have HB1 := Lib.hid (hb0.out.trans (hb1.mono hb0.out.size))
        have HIC1 := Lib.hid (HIC.out.below hb1)
        clear hs hr hb1 HRK HIC hb0
        go_wp2_with fail
        go_loopw [72] (fun i wz => ∃ p : Nat, p ≤ j ∧ i = .int .i64 (p : Int) ∧ Hid (Below w1.heap.size w1 wz)) (fun i _ => j - (intOf i).toNat)
        case atStart => exact ⟨0, Nat.zero_le _, rfl, Below.refl _ _⟩
        case round =>
          obtain ⟨p, hp, rfl, hbw⟩ := hrel
          by_cases hlt : p < j
          · have hfb := HS.out.1 p hlt
            have cp := (HR.out p hlt).1
            rw [← (bcell hbw.out).1 _ _ hg] at cp
            have p1 : (p : Int) < j := by omega
            have p2 : ((f p : Nat) : Int) < j := by omega
            have p3 : ¬ ((f p : Nat) : Int) < 0 := by omega
            have HFB := Lib.hid hfb
            clear hfb
            obtain ⟨kb, hkb⟩ : ∃ kb, kb = f p := ⟨_, rfl⟩
            rw [← hkb] at cp p2 p3 HFB
            have HKB := Lib.hid hkb
            clear hkb
            go_wp2_with fail
            obtain ⟨wp, rfl⟩ : ∃ wp, wp = wr := ⟨_, rfl⟩
            go_loopw [89] (fun i wz => ∃ q : Nat, q ≤ j - p ∧ i = .int .i64 (q : Int) ∧ Hid (Below w1.heap.size w1 wz)) (fun i _ => (j - p) - (intOf i).toNat)
            case atStart => exact ⟨0, Nat.zero_le _, rfl, hbw⟩
            case round =>
              obtain ⟨q, hq, rfl, hbz⟩ := hrel
              by_cases hlq : q < j - p
              · have hfa := HS.out.1 (p + q) (by omega)
                have cq := (HR.out (p + q) (by omega)).1
                rw [← (bcell hbz.out).1 _ _ hg] at cq
                have hkk := HS.out.below (i := p) (j := p + q) (by omega) (by omega)
                obtain ⟨ka, hka⟩ : ∃ ka, ka = f (p + q) := ⟨_, rfl⟩
                rw [← HKB.out, ← hka] at hkk
                rw [← hka] at cq hfa
                have q1 : (q : Int) < ((j - p : Nat) : Int) := by omega
                have q1' : (q : Int) < (j : Int) - p := by omega
                obtain h0 | ⟨bk, o, rfl, hbk, hc, hcell⟩ := HIC1.out.below hbz.out
                · have := HCL.out; rw [h0] at this; simp at this; omega
                have hla : ka < cs.length := by rw [HCL.out]; exact hfa
                have hlb : kb < cs.length := by rw [HCL.out]; exact HFB.out
                obtain ⟨_, ca2, ca3, ca4⟩ := hcell ka cs[ka] (by simp [hla])
                obtain ⟨_, cb2, cb3, cb4⟩ := hcell kb cs[kb] (by simp [hlb])
                have HLa : Hid (LoadIs cs[ka] (tk cs[ka])) := tk_load _ (HSM.out _ (List.getElem_mem hla))
                have HLb : Hid (LoadIs cs[kb] (tk cs[kb])) := tk_load _ (HSM.out _ (List.getElem_mem hlb))
                have hta : tkAt cs ka = tk cs[ka] := by simp [tkAt, hla]
                have htb : tkAt cs kb = tk cs[kb] := by simp [tkAt, hlb]
                rw [hta, htb] at hkk
                generalize cs[ka] = Ca at *
                generalize cs[kb] = Cb at *
                clear hcell hla hlb hta htb hka
                obtain ⟨Na, Wa, Ba, Ta⟩ := Ca
                obtain ⟨Nb, Wb, Bb, Tb⟩ := Cb
                generalize tk ⟨Na, Wa, Ba, Ta⟩ = k1 at *
                generalize tk ⟨Nb, Wb, Bb, Tb⟩ = k2 at *
                unfold LoadIs at HLa HLb
                simp only at HLa HLb ca2 ca3 ca4 cb2 cb3 cb4
                have HKK := Lib.hid hkk
                obtain ⟨r, hr⟩ : ∃ r, cmpK k1 k2 = r := ⟨_, rfl⟩
                have hrn : ¬ r < 0 := by rw [← hr, cmpK_neg]; omega
                have HRR := Lib.hid hr
                have a1 : ((ka : Nat) : Int) < j := by omega
                have a2 : ¬ ((ka : Nat) : Int) < 0 := by omega
                have a3 : ¬ (j : Int) ≤ ((ka : Nat) : Int) := by omega
                have HBn := Lib.hid (fun n => below_drewN hbz.out n)
                clear hkk hr hbz
                go_upto_region 22 with fail
                refine region_mixt 44 [some (.int .i64 ((ka : Nat) : Int)), some (.bool false), some (.bool false), some (.int .i64 ((ka : Nat) : Int)), some (.slice (some ⟨bk, o, none⟩) j uc), some (.int .i64 (j : Int)), some (.bool false), some (.bool false), some (.bool false), some (.slice (some ⟨bk, o, none⟩) j uc), some (.int .i64 ((ka : Nat) : Int)), some (.pointer (some ⟨bk, o + ka * 4, none⟩)), some (.pointer (some ⟨bk, o + ka * 4 + 2, none⟩)), some (.int .i64 Ba), some (.slice (some ⟨bk, o, none⟩) j uc), some (.int .i64 ((ka : Nat) : Int)), some (.pointer (some ⟨bk, o + ka * 4, none⟩)), some (.pointer (some ⟨bk, o + ka * 4 + 1, none⟩)), some (.int .i64 Wa), some (.slice (some ⟨bk, o, none⟩) j uc), some (.int .i64 ((ka : Nat) : Int)), some (.pointer (some ⟨bk, o + ka * 4, none⟩)), some (.pointer (some ⟨bk, o + ka * 4 + 3, none⟩)), some (.float .f64 Ta), none, some (.slice (some ⟨bk, o, none⟩) j uc), some (.int .i64 ((kb : Nat) : Int)), some (.pointer (some ⟨bk, o + kb * 4, none⟩)), some (.pointer (some ⟨bk, o + kb * 4 + 2, none⟩)), some (.int .i64 Bb), some (.slice (some ⟨bk, o, none⟩) j uc), some (.int .i64 ((kb : Nat) : Int)), some (.pointer (some ⟨bk, o + kb * 4, none⟩)), some (.pointer (some ⟨bk, o + kb * 4 + 1, none⟩)), some (.int .i64 Wb), some (.slice (some ⟨bk, o, none⟩) j uc), some (.int .i64 ((kb : Nat) : Int)), some (.pointer (some ⟨bk, o + kb * 4, none⟩)), some (.pointer (some ⟨bk, o + kb * 4 + 3, none⟩)), some (.float .f64 Tb), none, some (.int .i64 r), some (.bool false), some (.bool false)]
                  [[false, false, false, false, false, false, false, false, false, false, false, false, false, false, false, false, false, false, false, false, false, false, false, false, false, false, false, false, false, false, false, false, false, false, false, false, false, false, false, false, false, false, false, false], [true, false, false, false, false, false, false, false, false, false, false, false, false, false, false, false, false, false, false, false, false, false, false, false, false, false, false, false, false, false, false, false, false, false, false, false, false, false, false, false, false, false, false, false], [false, true, false, false, false, false, false, false, false, false, false, false, false, false, false, false, false, false, false, false, false, false, false, false, false, false, false, false, false, false, false, false, false, false, false, false, false, false, false, false, false, false, false, false], [false, false, true, false, false, false, false, false, false, false, false, false, false, false, false, false, false, false, false, false, false, false, false, false, false, false, false, false, false, false, false, false, false, false, false, false, false, false, false, false, false, false, false, false], [false, false, true, false, false, false, false, false, false, false, false, false, false, false, false, false, false, false, false, false, false, false, false, false, false, false, false, false, false, false, false, false, false, false, false, false, false, false, false, false, false, false, false, false], [false, false, true, false, true, false, false, false, false, false, false, false, false, false, false, false, false, false, false, false, false, false, false, false, false, false, false, false, false, false, false, false, false, false, false, false, false, false, false, false, false, false, false, false], [false, false, true, true, false, true, false, false, false, false, false, false, false, false, false, false, false, false, false, false, false, false, false, false, false, false, false, false, false, false, false, false, false, false, false, false, false, false, false, false, false, false, false, false], [false, false, true, false, false, false, true, false, false, false, false, false, false, false, false, false, false, false, false, false, false, false, false, false, false, false, false, false, false, false, false, false, false, false, false, false, false, false, false, false, false, false, false, false], [false, false, true, false, false, false, false, true, false, false, false, false, false, false, false, false, false, false, false, false, false, false, false, false, false, false, false, false, false, false, false, false, false, false, false, false, false, false, false, false, false, false, false, false], [false, false, false, false, false, false, false, false, true, false, false, false, false, false, false, false, false, false, false, false, false, false, false, false, false, false, false, false, false, false, false, false, false, false, false, false, false, false, false, false, false, false, false, false], [false, false, false, false, false, false, false, false, true, false, false, false, false, false, false, false, false, false, false, false, false, false, false, false, false, false, false, false, false, false, false, false, false, false, false, false, false, false, false, false, false, false, false, false], [false, false, false, false, false, false, false, false, true, true, true, false, false, false, false, false, false, false, false, false, false, false, false, false, false, false, false, false, false, false, false, false, false, false, false, false, false, false, false, false, false, false, false, false], [false, false, false, false, false, false, false, false, true, false, false, true, false, false, false, false, false, false, false, false, false, false, false, false, false, false, false, false, false, false, false, false, false, false, false, false, false, false, false, false, false, false, false, false], [false, false, false, false, false, false, false, false, true, false, false, false, true, false, false, false, false, false, false, false, false, false, false, false, false, false, false, false, false, false, false, false, false, false, false, false, false, false, false, false, false, false, false, false], [false, false, false, false, false, false, false, false, true, false, false, false, false, false, false, false, false, false, false, false, false, false, false, false, false, false, false, false, false, false, false, false, false, false, false, false, false, false, false, false, false, false, false, false], [false, false, false, false, false, false, false, false, true, false, false, false, false, false, false, false, false, false, false, false, false, false, false, false, false, false, false, false, false, false, false, false, false, false, false, false, false, false, false, false, false, false, false, false], [false, false, false, false, false, false, false, false, true, false, false, false, false, false, true, true, false, false, false, false, false, false, false, false, false, false, false, false, false, false, false, false, false, false, false, false, false, false, false, false, false, false, false, false], [false, false, false, false, false, false, false, false, true, false, false, false, false, false, false, false, true, false, false, false, false, false, false, false, false, false, false, false, false, false, false, false, false, false, false, false, false, false, false, false, false, false, false, false], [false, false, false, false, false, false, false, false, true, false, false, false, false, false, false, false, false, true, false, false, false, false, false, false, false, false, false, false, false, false, false, false, false, false, false, false, false, false, false, false, false, false, false, false], [false, false, false, false, false, false, false, false, true, false, false, false, false, false, false, false, false, false, false, false, false, false, false, false, false, false, false, false, false, false, false, false, false, false, false, false, false, false, false, false, false, false, false, false], [false, false, false, false, false, false, false, false, true, false, false, false, false, false, false, false, false, false, false, false, false, false, false, false, false, false, false, false, false, false, false, false, false, false, false, false, false, false, false, false, false, false, false, false], [false, false, false, false, false, false, false, false, true, false, false, false, false, false, false, false, false, false, false, true, true, false, false, false, false, false, false, false, false, false, false, false, false, false, false, false, false, false, false, false, false, false, false, false], [false, false, false, false, false, false, false, false, true, false, false, false, false, false, false, false, false, false, false, false, false, true, false, false, false, false, false, false, false, false, false, false, false, false, false, false, false, false, false, false, false, false, false, false], [false, false, false, false, false, false, false, false, true, false, false, false, false, false, false, false, false, false, false, false, false, false, true, false, false, false, false, false, false, false, false, false, false, false, false, false, false, false, false, false, false, false, false, false], [false, false, false, false, false, false, false, false, true, false, false, false, false, true, false, false, false, false, true, false, false, false, false, true, false, false, false, false, false, false, false, false, false, false, false, false, false, false, false, false, false, false, false, false], [false, false, false, false, false, false, false, false, true, false, false, false, false, false, false, false, false, false, false, false, false, false, false, false, false, false, false, false, false, false, false, false, false, false, false, false, false, false, false, false, false, false, false, false], [false, false, false, false, false, false, false, false, true, false, false, false, false, false, false, false, false, false, false, false, false, false, false, false, false, false, false, false, false, false, false, false, false, false, false, false, false, false, false, false, false, false, false, false], [false, false, false, false, false, false, false, false, true, false, false, false, false, false, false, false, false, false, false, false, false, false, false, false, false, true, true, false, false, false, false, false, false, false, false, false, false, false, false, false, false, false, false, false], [false, false, false, false, false, false, false, false, true, false, false, false, false, false, false, false, false, false, false, false, false, false, false, false, false, false, false, true, false, false, false, false, false, false, false, false, false, false, false, false, false, false, false, false], [false, false, false, false, false, false, false, false, true, false, false, false, false, false, false, false, false, false, false, false, false, false, false, false, false, false, false, false, true, false, false, false, false, false, false, false, false, false, false, false, false, false, false, false], [false, false, false, false, false, false, false, false, true, false, false, false, false, false, false, false, false, false, false, false, false, false, false, false, false, false, false, false, false, false, false, false, false, false, false, false, false, false, false, false, false, false, false, false], [false, false, false, false, false, false, false, false, true, false, false, false, false, false, false, false, false, false, false, false, false, false, false, false, false, false, false, false, false, false, false, false, false, false, false, false, false, false, false, false, false, false, false, false], [false, false, false, false, false, false, false, false, true, false, false, false, false, false, false, false, false, false, false, false, false, false, false, false, false, false, false, false, false, false, true, true, false, false, false, false, false, false, false, false, false, false, false, false], [false, false, false, false, false, false, false, false, true, false, false, false, false, false, false, false, false, false, false, false, false, false, false, false, false, false, false, false, false, false, false, false, true, false, false, false, false, false, false, false, false, false, false, false], [false, false, false, false, false, false, false, false, true, false, false, false, false, false, false, false, false, false, false, false, false, false, false, false, false, false, false, false, false, false, false, false, false, true, false, false, false, false, false, false, false, false, false, false], [false, false, false, false, false, false, false, false, true, false, false, false, false, false, false, false, false, false, false, false, false, false, false, false, false, false, false, false, false, false, false, false, false, false, false, false, false, false, false, false, false, false, false, false], [false, false, false, false, false, false, false, false, true, false, false, false, false, false, false, false, false, false, false, false, false, false, false, false, false, false, false, false, false, false, false, false, false, false, false, false, false, false, false, false, false, false, false, false], [false, false, false, false, false, false, false, false, true, false, false, false, false, false, false, false, false, false, false, false, false, false, false, false, false, false, false, false, false, false, false, false, false, false, false, true, true, false, false, false, false, false, false, false], [false, false, false, false, false, false, false, false, true, false, false, false, false, false, false, false, false, false, false, false, false, false, false, false, false, false, false, false, false, false, false, false, false, false, false, false, false, true, false, false, false, false, false, false], [false, false, false, false, false, false, false, false, true, false, false, false, false, false, false, false, false, false, false, false, false, false, false, false, false, false, false, false, false, false, false, false, false, false, false, false, false, false, true, false, false, false, false, false], [false, false, false, false, false, false, false, false, true, false, false, false, false, false, false, false, false, false, false, false, false, false, false, false, true, false, false, false, false, true, false, false, false, false, true, false, false, false, false, true, false, false, false, false], [false, false, false, false, false, false, false, false, true, false, false, false, false, false, false, false, false, false, false, false, false, false, false, false, true, false, false, false, false, false, false, false, false, false, false, false, false, false, false, false, true, false, false, false], [false, false, false, false, false, false, false, false, true, false, false, false, false, false, false, false, false, false, false, false, false, false, false, false, false, false, false, false, false, false, false, false, false, false, false, false, false, false, false, false, false, true, false, false], [false, false, false, false, false, false, false, false, true, false, false, false, false, false, false, false, false, false, false, false, false, false, false, false, false, false, false, false, false, false, false, false, false, false, false, false, false, false, false, false, false, false, true, false]]
                  (fun LL xx w9 => MixE wr k1 k2 LL xx w9)
                  (by kernel_rfl) (by kernel_rfl) (by kernel_rfl) (by kernel_rfl) (by kernel_rfl) (by decide) ?_ ?_ ?_
                · intro x
                  exact MixE.start _ _ _ _
                · simp only [List.take_succ_cons, List.take_zero]
                  refine ⟨?_, ?_, ?_, ?_, ?_, ?_, ?_, ?_, ?_, ?_, ?_, ?_, ?_, ?_, ?_, ?_, ?_, ?_, ?_, ?_, ?_, ?_, ?_, ?_, ?_, ?_, ?_, ?_, ?_, ?_, ?_, ?_, ?_, ?_, ?_, ?_, ?_, ?_, ?_, ?_, ?_, ?_, ?_, ?_, trivial⟩
                  all_goals
                    intro L x w9 hS hl hp K9 hK9
                    have hs : MixE wr k1 k2 L x w9 := hS
                    clear hS
                    replace hK9 := hK9.out
                    simp only [actMix, pickV, List.tail_cons, List.headD_cons, Act.put, List.setIfInBounds_toArray, List.set_cons_zero, List.set_cons_succ] at hK9 ⊢
                  · clear hp
                    go_simp
                    with_reducible refine hK9 _ ?_
                    exact hs.keep 0 (by decide) (by decide) _
                  · clear hp
                    go_simp
                    with_reducible refine hK9 _ ?_
                    exact hs.keep 1 (by decide) (by decide) _
                  · clear hp
                    go_simp
                    with_reducible refine hK9 _ ?_
                    exact hs.keep 2 (by decide) (by decide) _
                  · clear hp
                    go_simp
                    with_reducible refine hK9 _ ?_
                    exact hs.keep 3 (by decide) (by decide) _
                  · clear hp
                    go_simp
                    with_reducible refine hK9 _ ?_
                    exact hs.keep 4 (by decide) (by decide) _
                  · clear hp
                    go_simp
                    with_reducible refine hK9 _ ?_
                    exact hs.keep 5 (by decide) (by decide) _
                  · clear hp
                    go_simp
                    with_reducible refine hK9 _ ?_
                    exact hs.keep 6 (by decide) (by decide) _
                  · clear hp
                    go_simp
                    with_reducible refine hK9 _ ?_
                    exact hs.keep 7 (by decide) (by decide) _
                  · clear hp
                    go_simp
                    with_reducible refine hK9 _ ?_
                    exact hs.keep 8 (by decide) (by decide) _
                  · clear hp
                    go_simp
                    with_reducible refine hK9 _ ?_
                    exact hs.keep 9 (by decide) (by decide) _
                  · clear hp
                    go_simp
                    with_reducible refine hK9 _ ?_
                    exact hs.keep 10 (by decide) (by decide) _
                  · clear hp
                    go_simp
                    with_reducible refine hK9 _ ?_
                    exact hs.keep 11 (by decide) (by decide) _
                  · clear hp
                    go_simp
                    with_reducible refine hK9 _ ?_
                    exact hs.keep 12 (by decide) (by decide) _
                  · obtain ⟨mm, hmm⟩ := hs.w
                    subst hmm
                    have s1 := (show (wr.drewN mm).cell? _ = _ from ca3)
                    clear hp
                    go_simp
                    with_reducible refine hK9 _ ?_
                    exact hs.keep 13 (by decide) (by decide) _
                  · clear hp
                    go_simp
                    with_reducible refine hK9 _ ?_
                    exact hs.keep 14 (by decide) (by decide) _
                  · clear hp
                    go_simp
                    with_reducible refine hK9 _ ?_
                    exact hs.keep 15 (by decide) (by decide) _
                  · clear hp
                    go_simp
                    with_reducible refine hK9 _ ?_
                    exact hs.keep 16 (by decide) (by decide) _
                  · clear hp
                    go_simp
                    with_reducible refine hK9 _ ?_
                    exact hs.keep 17 (by decide) (by decide) _
                  · obtain ⟨mm, hmm⟩ := hs.w
                    subst hmm
                    have s1 := (show (wr.drewN mm).cell? _ = _ from ca2)
                    clear hp
                    go_simp
                    with_reducible refine hK9 _ ?_
                    exact hs.keep 18 (by decide) (by decide) _
                  · clear hp
                    go_simp
                    with_reducible refine hK9 _ ?_
                    exact hs.keep 19 (by decide) (by decide) _
                  · clear hp
                    go_simp
                    with_reducible refine hK9 _ ?_
                    exact hs.keep 20 (by decide) (by decide) _
                  · clear hp
                    go_simp
                    with_reducible refine hK9 _ ?_
                    exact hs.keep 21 (by decide) (by decide) _
                  · clear hp
                    go_simp
                    with_reducible refine hK9 _ ?_
                    exact hs.keep 22 (by decide) (by decide) _
                  · obtain ⟨mm, hmm⟩ := hs.w
                    subst hmm
                    have s1 := (show (wr.drewN mm).cell? _ = _ from ca4)
                    clear hp
                    go_simp
                    with_reducible refine hK9 _ ?_
                    exact hs.keep 23 (by decide) (by decide) _
                  · clear hp
                    go_simp
                    refine (HLa.out w9).mono ?_
                    rintro e9 w8 ⟨y, m, rfl, hy, rfl⟩
                    with_reducible refine hK9 _ _ ?_
                    exact hs.ld1 y m hy
                  · clear hp
                    go_simp
                    with_reducible refine hK9 _ ?_
                    exact hs.keep 25 (by decide) (by decide) _
                  · clear hp
                    go_simp
                    with_reducible refine hK9 _ ?_
                    exact hs.keep 26 (by decide) (by decide) _
                  · clear hp
                    go_simp
                    with_reducible refine hK9 _ ?_
                    exact hs.keep 27 (by decide) (by decide) _
                  · clear hp
                    go_simp
                    with_reducible refine hK9 _ ?_
                    exact hs.keep 28 (by decide) (by decide) _
                  · obtain ⟨mm, hmm⟩ := hs.w
                    subst hmm
                    have s1 := (show (wr.drewN mm).cell? _ = _ from cb3)
                    clear hp
                    go_simp
                    with_reducible refine hK9 _ ?_
                    exact hs.keep 29 (by decide) (by decide) _
                  · clear hp
                    go_simp
                    with_reducible refine hK9 _ ?_
                    exact hs.keep 30 (by decide) (by decide) _
                  · clear hp
                    go_simp
                    with_reducible refine hK9 _ ?_
                    exact hs.keep 31 (by decide) (by decide) _
                  · clear hp
                    go_simp
                    with_reducible refine hK9 _ ?_
                    exact hs.keep 32 (by decide) (by decide) _
                  · clear hp
                    go_simp
                    with_reducible refine hK9 _ ?_
                    exact hs.keep 33 (by decide) (by decide) _
                  · obtain ⟨mm, hmm⟩ := hs.w
                    subst hmm
                    have s1 := (show (wr.drewN mm).cell? _ = _ from cb2)
                    clear hp
                    go_simp
                    with_reducible refine hK9 _ ?_
                    exact hs.keep 34 (by decide) (by decide) _
                  · clear hp
                    go_simp
                    with_reducible refine hK9 _ ?_
                    exact hs.keep 35 (by decide) (by decide) _
                  · clear hp
                    go_simp
                    with_reducible refine hK9 _ ?_
                    exact hs.keep 36 (by decide) (by decide) _
                  · clear hp
                    go_simp
                    with_reducible refine hK9 _ ?_
                    exact hs.keep 37 (by decide) (by decide) _
                  · clear hp
                    go_simp
                    with_reducible refine hK9 _ ?_
                    exact hs.keep 38 (by decide) (by decide) _
                  · obtain ⟨mm, hmm⟩ := hs.w
                    subst hmm
                    have s1 := (show (wr.drewN mm).cell? _ = _ from cb4)
                    clear hp
                    go_simp
                    with_reducible refine hK9 _ ?_
                    exact hs.keep 39 (by decide) (by decide) _
                  · clear hp
                    go_simp
                    refine (HLb.out w9).mono ?_
                    rintro e9 w8 ⟨y, m, rfl, hy, rfl⟩
                    with_reducible refine hK9 _ _ ?_
                    exact hs.ld2 y m hy
                  · have h24 : L 24 = true := allL_mem hp 24 (by decide +kernel)
                    have h40 : L 40 = true := allL_mem hp 40 (by decide +kernel)
                    obtain ⟨y1, hx1, hk1⟩ := hs.y1 h24
                    obtain ⟨y2, hx2, hk2⟩ := hs.y2 h40
                    have hcm := compare5 y1 y2 w9
                    rw [(cmp_ge hk1 hk2 HKK.out).1, HRR.out] at hcm
                    have HCM := Lib.hid hcm
                    clear hp hcm
                    rw [hx1, hx2] at hK9 ⊢
                    go_simp
                    refine HCM.out.mono ?_
                    rintro e9 w8 ⟨rfl, hw8⟩
                    subst hw8
                    with_reducible refine hK9 _ ?_
                    exact hs.keep 41 (by decide) (by decide) _
                  · clear hp
                    go_simp
                    with_reducible refine hK9 _ ?_
                    exact hs.keep 42 (by decide) (by decide) _
                  · clear hp
                    go_simp
                    with_reducible refine hK9 _ ?_
                    exact hs.keep 43 (by decide) (by decide) _
                intro L x w9 hS hL
                have hs : MixE wr k1 k2 L x w9 := hS
                obtain ⟨mm, hmm⟩ := hs.w
                obtain ⟨y1, hx1, _⟩ := hs.y1 (hL 24 (by decide))
                obtain ⟨y2, hx2, _⟩ := hs.y2 (hL 40 (by decide))
                clear hS hs hL
                subst hmm
                simp only [actMix, pickV, List.tail_cons, List.headD_cons, Act.put, List.setIfInBounds_toArray, List.set_cons_zero, List.set_cons_succ, List.replicate_succ, List.replicate_zero, List.drop_succ_cons, List.drop_zero, List.take_succ_cons, List.take_zero]
                rw [hx1, hx2]
                clear hx1 hx2
                go_wp2_with fail
                go_roundw
                case rel => exact ⟨q + 1, by omega, by go_num, HBn.out _⟩
                case measure => simp [intOf]; omega
              · have hne : ¬ (q : Int) < ((j - p : Nat) : Int) := by omega
                have hne2 : ¬ (q : Int) < (j : Int) - p := by omega
                go_wp2_with fail
                go_roundw
                case rel => exact ⟨p + 1, hlt, by go_num, hbz⟩
                case measure => simp [intOf]; omega
          · obtain rfl : j = p := by omega
            have hne : ¬ (j : Int) < j := by omega
            have HBM := Lib.hid (HB1.out.trans (hbw.out.mono HB1.out.size))
            clear hbw HIC1 HS HR HCL HSM HB1
            obtain ⟨wy, rfl⟩ : ∃ wy, wy = wr := ⟨_, rfl⟩
            have hmm := @run_makeMap Tryd.prog
            go_wp2_with (go_at_call 23; refine (new8 _).mono ?_; rintro e w5 ⟨rfl, hr5, hb5⟩)
            obtain ⟨rb, hrb⟩ : ∃ rb, rb = wy.heap.size := ⟨_, rfl⟩
            rw [← hrb] at hr5 ⊢
            have hbw5 := hb5.size
            have hb55 := HBM.out.trans (hb5.mono HBM.out.size)
            have hrl := hr5.lt
            have hal := below_alloc w5 (.map #[] 0)
            have hmem : MemS W.heap.size rb w5.heap.size [] none 0 none 0 (fun _ => 0) (fun _ => 0) (w5.alloc (.map #[] 0)) := by
              refine ⟨hr5.below hal, MapI.new w5, ?_, .inl rfl, (fun p hp => by cases hp), ?_, hb55.size⟩
              · rintro (h | h)
                · omega
                · cases h
              · rintro k (h | h)
                · have := HBM.out.size; omega
                · cases h
            have HM := Lib.hid hmem
            have HBA := Lib.hid (hb55.alloc hb55.size (.map #[] 0))
            clear hmem hal hb55 hr5 hb5 hrl hbw5 hrb HBM
            generalize w5.heap.size = nb at *
            generalize w5.alloc (.map #[] 0) = w6 at *
            have HAP := Lib.hid (evE_apart hn12)
            have HCN := Lib.hid (cnt_id (evE_apart hn12) (evE_weights j))
            have HEL := Lib.hid (evE_len j)
            have HEZ : Hid (∀ e ∈ evE j, e.1.size ≤ maxLen) := by
              intro e he
              obtain ⟨i, _, rfl⟩ := evE_mem he
              show (nmI i).size ≤ maxLen
              exact (show (1 : Nat) ≤ maxLen by unfold maxLen; omega)
            clear hmm
            go_loopw [144] (fun i wi => ∃ t : Nat, t ≤ 3 * j ∧ i = .int .i64 (t : Int) ∧ ∃ v n f c, n ≤ 20 * t ∧ Hid (MemS W.heap.size rb nb [] none 0 v n f c wi) ∧ Hid (Share (evE j) t f c) ∧ Hid (Below W.heap.size W wi)) (fun i _ => 3 * j - (intOf i).toNat)
            case atStart => exact ⟨0, Nat.zero_le _, rfl, none, 0, _, _, Nat.le_refl _, HM, Share.start (evE_weights j), HBA⟩
            case round =>
              clear HM HBA
              obtain ⟨t, ht, rfl, v, n, f, c, hn, HM, HSH, HBI⟩ := hrel
              obtain ⟨wi, rfl⟩ : ∃ wi, wi = wr := ⟨_, rfl⟩
              by_cases hlt : t < 3 * j
              · have t1 : (t : Int) < 3 * (j : Int) := by omega
                obtain ⟨i1, hi1, hy0, hy1, hy2⟩ := info_parts infoEnt
                go_wp2_with fail
                go_loopw [17, 148] (fun u i wz => ∃ k : Nat, k ≤ j ∧ i = .int .i64 (k : Int) ∧ Hid (wz.ownsRow wi.heap.size 63 2 u k (cellsE (evE k))) ∧ Hid (Below wi.heap.size wi wz)) (fun _ i _ => j - (intOf i).toNat)
                case atStart => exact ⟨0, Nat.zero_le _, rfl, World.ownsRow_nil _ _ _ _, Below.refl _ _⟩
                case round =>
                  obtain ⟨k, hk, rfl, ho, hb⟩ := hrel
                  by_cases hlk : k < j
                  · have k1 : (k : Int) < j := by omega
                    have hw8 := wrapU k
                    have hcv := conv_nm wr k
                    have hst : cellsE (evE (k + 1)) = cellsE (evE k) ++ [.string (nmI k), .int .i64 1] := by rw [evE_step, cellsE_append]; rfl
                    have HST := Lib.hid hst
                    have hsz := hb.out.size
                    have hA1 : (wr.alloc (.cells #[.int .u8 (byteI k)] 5)).heap.size = wr.heap.size + 1 := World.size_alloc _ _
                    have hnw := cells_ent (wr.alloc (.cells #[.int .u8 (byteI k)] 5)) (nmI k) 1 63
                    rw [hA1] at hnw
                    have HNW := Lib.hid hnw
                    have HO2 := Lib.hid ((ho.out.alloc (.cells #[.int .u8 (byteI k)] 5)).alloc (.cells #[.string (nmI k), .int .i64 1] 63))
                    have HB2 := Lib.hid ((hb.out.alloc hsz (.cells #[.int .u8 (byteI k)] 5)).alloc (by rw [hA1]; omega) (.cells #[.string (nmI k), .int .i64 1] 63))
                    have hbs : Hid (wi.heap.size ≤ ((wr.alloc (.cells #[.int .u8 (byteI k)] 5)).alloc (.cells #[.string (nmI k), .int .i64 1] 63)).heap.size) := HB2.out.size
                    generalize nmI k = N at *
                    generalize byteI k = z at *
                    generalize cellsE (evE k) = cl at *
                    clear hst hnw ho hb hsz
                    go_wp2_with (at_builtin; refine wpList_append_own _ rfl _ _ 61 rfl wi.heap.size 63 i1 (.agg #[.string ⟨#[]⟩, .int .i64 0]) 2 24 Tryd.underlying61 hi1 hy0 hy1 hy2 rfl (by decide) _ _ _ rfl HO2.out ⟨wr.heap.size + 1, 0, none⟩ 1 1 [.string N, .int .i64 1] rfl rfl HNW.out (ent_one _ _) (by unfold maxLen; omega) (by omega) hbs.out ?_)
                    intro v' w4 hown' hgrow _
                    have HB5 : Hid (Below wi.heap.size wi w4) := HB2.out.grown hgrow HB2.out.size (fun k hk => (HO2.out.lt k hk).1)
                    rw [← HST.out] at hown'
                    have HO5 := Lib.hid hown'
                    clear hown' hgrow HB2 HO2 HNW hbs
                    go_wp2_with fail
                    go_roundw
                    case rel => exact ⟨k + 1, hlk, by go_num, HO5, HB5⟩
                    case measure => simp [intOf]; omega
                  · obtain rfl : j = k := by omega
                    have hne3 : ¬ (j : Int) < j := by omega
                    obtain ⟨ya, yc, rfl⟩ := own_slice ho.out
                    have ho6 : wr.ownsRow wi.heap.size 63 2 (.slice ya j yc) (evE j).length (cellsE (evE j)) := by rw [HEL.out]; exact ho.out
                    have hie := (isEnts_own ho6).2.1
                    have hblk := (isEnts_own ho6).2.2
                    have hM2 := HM.out.below hb.out
                    have hgl : ∀ k, RG rb v k → k < wi.heap.size := fun k hk => HM.out.rot.glt hk
                    have hnl := HM.out.cm.lt
                    have hM3 : MemS W.heap.size rb nb (evE j) ya yc v n f c wr := ⟨hM2.rot, hM2.cm, hM2.ne, hie, fun p hp => ⟨fun hk => by have := (hblk p hp).1; have := hgl _ hk; omega, by have := (hblk p hp).1; omega⟩, hM2.ge, hM2.nge⟩
                    have hE : evE j ≠ [] := fun h => by have := HEL.out; rw [h] at this; simp at this; omega
                    have hbn := Share.bound (evE_weights j) (by omega) (by rw [HEL.out]; omega) HSH.out
                    have hS2 := HSH.out.step HAP.out hE (evE_weights j)
                    obtain ⟨p, hp, hpt⟩ := turn_mem f hE
                    have hc1 := HSH.out.cle hp
                    have hc2 := HSH.out.pos p hp
                    have hzt := HEZ.out p hp
                    rw [hpt] at hc1 hc2 hzt
                    have hpk := pick15 rb v n f 1000000000000000 (Int.le_refl _) hbn ya yc (evE j) hE (by rw [HEL.out]; omega) HEZ.out (by omega) wr hM3.rot hie
                    rw [HCN.out, HEL.out] at hpk
                    have HPK := Lib.hid hpk
                    have HM3 := Lib.hid hM3
                    have HB3 := Lib.hid (HBI.out.trans (hb.out.mono HBI.out.size))
                    have HS2 := Lib.hid hS2
                    have HEN := Lib.hid hE
                    clear ho6 hie hblk hM2 hgl hnl hM3 hbn hS2 hpk ho hb hE hp hpt HSH HM HBI
                    go_wp2_with (first
                      | (go_at_call 24; refine HPK.out.mono ?_; rintro e w8 ⟨rfl, hp8⟩; obtain ⟨v8, hM8, hb8⟩ := HM3.out.pick HEN.out HB3.out.size (by omega) hp8; have hlk := hM8.cm.look hzt; have HM8 := Lib.hid hM8; have HB8 := Lib.hid (HB3.out.trans hb8); clear hM8 hp8 hb8)
                      | (at_mapUpdate; refine wpl_store _ rfl _ _ _ rfl nb _ _ rfl HM8.out.cm (by unfold maxLen; omega) (turn f (evE j)) (c (turn f (evE j)) + 1) rfl rfl hzt ⟨by omega, by omega⟩ ?_; intro w9 hm9 hg9))
                    obtain ⟨hM9, hb9⟩ := HM8.out.count HB8.out.size hm9 hg9
                    have HM9 : Hid (MemS W.heap.size rb nb [] none 0 v8 _ _ _ w9) := ⟨hM9.rot, hM9.cm, hM9.ne, .inl rfl, (fun p hp => by cases hp), hM9.ge, hM9.nge⟩
                    have HB9 := Lib.hid (HB8.out.trans hb9)
                    clear hM9 hb9 hm9 hg9 HM8 HB8 HPK HM3 HB3
                    go_wp2_with fail
                    go_roundw
                    case rel => exact ⟨t + 1, hlt, by go_num, v8, _, _, _, by omega, HM9, HS2, HB9⟩
                    case measure => simp [intOf]; omega
              · obtain rfl : t = 3 * j := by omega
                have t1 : ¬ (3 * (j : Int)) < 3 * (j : Int) := by omega
                have ec : ((3 * j : Nat) : Int) = 3 * (j : Int) := by omega
                rw [ec] at HSH ⊢
                clear ec
                go_wp2_with fail
                go_loopw [174] (fun i wz => ∃ k : Nat, k ≤ j ∧ i = .int .i64 (k : Int) ∧ Hid (Below wi.heap.size wi wz)) (fun i _ => j - (intOf i).toNat)
                case atStart => exact ⟨0, Nat.zero_le _, rfl, Below.refl _ _⟩
                case round =>
                  obtain ⟨k, hk, rfl, hb⟩ := hrel
                  by_cases hlk : k < j
                  · have k1 : (k : Int) < j := by omega
                    have hw8 := wrapU k
                    have hcv := conv_nm wr k
                    have h3 := ev_three (by omega) hn12 HSH.out k hlk
                    have hal := below_alloc wr (.cells #[.int .u8 (byteI k)] 5)
                    have hb2 := hb.out.trans (hal.mono hb.out.size)
                    have hlk2 := (HM.out.below hb2).cm.look (s := nmI k) (show (1 : Nat) ≤ maxLen by unfold maxLen; omega)
                    rw [h3] at hlk2
                    have HB2 := Lib.hid hb2
                    generalize nmI k = N at *
                    generalize byteI k = z at *
                    clear h3 hal hb2 hb
                    go_wp2_with fail
                    go_roundw
                    case rel => exact ⟨k + 1, hlk, by go_num, HB2⟩
                    case measure => simp [intOf]; omega
                  · obtain rfl : j = k := by omega
                    have hne3 : ¬ (j : Int) < j := by omega
                    have HBF := Lib.hid (HBI.out.trans (hb.out.mono HBI.out.size))
                    go_wp2_with fail
                    go_ret
                    exact ⟨rfl, HBF.out⟩
    · have j1 : ¬ (j : Int) < xs.length := by omega
      exfalso; have := HX12.out; omega
end Go.Proofs.YtpjbdejgamajlabDoor

