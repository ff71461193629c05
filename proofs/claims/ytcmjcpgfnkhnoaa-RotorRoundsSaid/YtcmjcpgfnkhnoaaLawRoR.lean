/- The law RotorRounds. -/
import Derived.Test.YtcmjcpgfnkhnoaaRoJ
namespace Go.Proofs.Ytcmjcpgfnkhnoaa
open Go.RowKit Go.Maps

theorem own_someR {w : World} {base : Nat} {e : TypeId} {a : Option Addr} {m c : Nat} {xs : List Value} (h : w.ownsRow base e 2 (.slice a m c) m xs) (hm : 0 < m) : ∃ g, a = some ⟨g, 0, none⟩ := by
  rcases h.2 with ⟨h1, h2⟩ | ⟨g, cap, cur, h1, _⟩
  · omega
  · injection h1 with h1; exact ⟨g, h1⟩
set_option maxHeartbeats 8000000 in
set_option maxRecDepth 100000 in
theorem lawRotorRounds (a : Option Addr) (c : Nat) (es0 : List Ent) (hfl : es0.length ≤ 9223372036854775807) (W : World) (hf : IsEnts W a c es0) :
    Calls Try.prog 4 #[.slice a es0.length c] W fun e w' => e = .returned (.bool true) ∧ Below W.heap.size W w' := by
  have HF := Lib.hid hf
  clear hf
  go_enter Try.func4, Try.ntmps4
  go_wp2_with (go_at_call 7; refine (awake7 _).mono ?_; rintro e w1 ⟨rfl, hb1⟩)
  have HFW := Lib.hid (few10 a c es0 6 (by omega) hfl w1 (HF.out.below hb1))
  go_wp2_with (go_at_call 10; refine HFW.out.mono ?_; rintro e w2 ⟨u, rfl, ho2, hb2⟩)
  obtain ⟨ua, uc, rfl⟩ := own_slice ho2
  obtain ⟨_, hie2, _⟩ := isEnts_own ho2
  have hl6 := fewE_len es0 6
  have HON := Lib.hid (once14 ua uc (fewE es0 6) (by omega) w2 hie2)
  have hB2 := Lib.hid (hb1.trans (hb2.mono hb1.size))
  clear ho2 hie2 hb1 hb2 HFW HF
  go_wp2_with (go_at_call 14; refine HON.out.mono ?_; rintro e w3 ⟨xa, xc, rfl, ho3, hb3⟩)
  have hap := once_apart (fewE es0 6)
  have hl := once_len (fewE es0 6)
  have hsz : ∀ e ∈ once (fewE es0 6), e.1.size ≤ 12 := fun e he => fewE_size (once_sub he)
  have HB3 := Lib.hid (hB2.out.trans (hb3.mono hB2.out.size))
  generalize once (fewE es0 6) = es at *
  have hl5 : es.length ≤ 6 := by omega
  have HO3 := Lib.hid (own_base ho3 hB2.out.size)
  have HAP := Lib.hid hap
  have HSZ := Lib.hid hsz
  clear ho3 hb3 hB2 HON hap hsz hl hl6
  go_loopw [4, 5, 22] (fun s _ i wr => ∃ j : Nat, j ≤ es.length ∧ i = .int .i64 (j : Int) ∧ s = .int .i64 (sumW ((mskL 15 es).take j)) ∧ Hid (wr.ownsRow W.heap.size 34 2 (.slice xa es.length xc) es.length (cellsE (mskE 15 es j))) ∧ Hid (Below W.heap.size W wr)) (fun _ _ i _ => es.length - (intOf i).toNat)
  case atStart => exact ⟨0, Nat.zero_le _, rfl, rfl, by rw [mskE_zero]; exact HO3, HB3⟩
  case round =>
    obtain ⟨j, hj, rfl, rfl, ho, hb⟩ := hrel
    by_cases hlt : j < es.length
    · obtain ⟨g, rfl⟩ := own_someR ho.out (by omega)
      have c1 := (cellsE_at _ _ _ (mskE_at 15 hlt)).2
      have c2 := ho.out.cellAt (j * 2 + 1) (by omega)
      rw [c1] at c2
      have f2 := ho.out.frozenAt (j * 2 + 1)
      have hms := mskE_set 15 hlt
      have hst := mskL_step 15 hlt
      obtain ⟨V, hV⟩ : ∃ V, V = es[j].2 := ⟨_, rfl⟩
      rw [← hV] at c2 hms hst
      have hbd := and_small V 15 (by omega)
      have hO2 := (ho.out.stored (j * 2 + 1) (.int .i64 (1 + bits .and .i64 V ((15 : Nat) : Int)))).1
      rw [hms] at hO2
      have hge := (ho.out.lt g rfl)
      have HO2 := Lib.hid hO2
      have HB2 : Hid (Below W.heap.size W (wr.setCell ⟨g, j * 2 + 1, none⟩ (.int .i64 (1 + bits .and .i64 V ((15 : Nat) : Int))))) := hb.out.setCell (p := ⟨g, j * 2 + 1, none⟩) hge.1 _
      have HST := Lib.hid hst
      have hs := sumW_bound ((mskL 15 es).take j) (fun e he => mskL_weights 15 (by omega) es e (List.mem_of_mem_take he))
      have hs2 : ((mskL 15 es).take j).length ≤ 6 := by simp [mskL]; omega
      generalize sumW ((mskL 15 es).take j) = S at *
      have j1 : (j : Int) < es.length := by omega
      clear hO2 hst hms c1 hV ho hb hge
      rw [show ((15 : Nat) : Int) = 15 from rfl] at hbd HO2 HB2 HST
      go_wp2_with fail
      go_roundw
      case rel => exact ⟨j + 1, hlt, by go_num, by rw [HST.out], HO2, HB2⟩
      case measure => simp [intOf]; omega
    · obtain rfl : es.length = j := by omega
      rw [mskE_all] at ho
      have hlE : (mskL 15 es).length = es.length := by simp [mskL]
      have HWT := Lib.hid (mskL_weights 15 (by omega) es)
      have HAE := Lib.hid (mskL_apart 15 HAP.out)
      have HZE : Hid (∀ e ∈ mskL 15 es, e.1.size ≤ maxLen) := by
        intro e he
        obtain ⟨x, hx, rfl⟩ := List.mem_map.1 he
        have := HSZ.out x hx
        show x.1.size ≤ maxLen
        unfold maxLen; omega
      have ho2 : wr.ownsRow W.heap.size 34 2 (.slice xa es.length xc) (mskL 15 es).length (cellsE (mskL 15 es)) := by rw [hlE]; exact ho.out
      obtain ⟨_, hie, hblk⟩ := isEnts_own ho2
      rw [show (mskL 15 es).take es.length = mskL 15 es by rw [List.take_of_length_le (by omega)]]
      have HIE := Lib.hid hie
      have HBK := Lib.hid hblk
      have hle6 : (mskL 15 es).length ≤ 6 := by omega
      have hnE : ¬ ((es.length : Int) < es.length) := by omega
      clear ho ho2 hie hblk HO3 HSZ HAP HB3
      generalize mskL 15 es = E at *
      rw [← hlE] at hnE ⊢
      clear hlE
      have hmm := @run_makeMap Try.prog
      have hSb0 := sumW_bound E HWT.out
      obtain ⟨T, hTe⟩ : ∃ T : Nat, sumW E = (T : Int) := ⟨(sumW E).toNat, by omega⟩
      have hT2 : T ≤ 65535 * 6 := by omega
      have HTE : Hid (sumW E = (T : Int)) := hTe
      rw [hTe]
      clear hTe hSb0
      go_wp2_with (go_at_call 8; refine (new8 _).mono ?_; rintro e w5 ⟨rfl, hr5, hb5⟩)
      obtain ⟨rb, hrb⟩ : ∃ rb, rb = wr.heap.size := ⟨_, rfl⟩
      rw [← hrb] at hr5 ⊢
      have hbw := hb.out.size
      have hbw5 := hb5.size
      have hb55 := hb.out.trans (hb5.mono hbw)
      have hrl := hr5.lt
      have hal := below_alloc w5 (.map #[] 0)
      have hmem : MemS W.heap.size rb w5.heap.size E xa xc none 0 (fun _ => 0) (fun _ => 0) (w5.alloc (.map #[] 0)) := by
        refine ⟨hr5.below hal, MapI.new w5, ?_, (HIE.out.below hb5).below hal, fun p hp => ⟨?_, ?_⟩, ?_, by omega⟩
        · rintro (h | h)
          · omega
          · cases h
        · have := (HBK.out p hp).2
          rintro (h | h)
          · omega
          · cases h
        · have := (HBK.out p hp).2; omega
        · rintro k (h | h)
          · omega
          · cases h
      have HM := Lib.hid hmem
      have HBA := Lib.hid (hb55.alloc hb55.size (.map #[] 0))
      clear hmem hal hb55 hr5 hb5 hb HIE HBK hrl hbw5 hbw hrb
      generalize w5.heap.size = nb at *
      generalize w5.alloc (.map #[] 0) = w6 at *
      have hA := HAE.out
      have hcn : cnt E = E := cnt_id hA HWT.out
      have hSb := sumW_bound E HWT.out
      go_loopw [49] (fun i wi => ∃ t : Nat, t ≤ T ∧ i = .int .i64 (t : Int) ∧ ∃ v n f c, n ≤ 10 * t ∧ MemS W.heap.size rb nb E xa xc v n f c wi ∧ Share E t f c ∧ Below W.heap.size W wi) (fun i _ => T - (intOf i).toNat)
      case atStart => exact ⟨0, Nat.zero_le _, rfl, none, 0, _, _, Nat.le_refl _, HM.out, Share.start HWT.out, HBA.out⟩
      case round =>
        obtain ⟨t, ht, rfl, v, n, f, c, hn, hM, hS, hbl⟩ := hrel
        obtain ⟨wi, rfl⟩ : ∃ wi, wi = wr := ⟨_, rfl⟩
        by_cases hlt : t < T
        · have j1 : (t : Int) < T := by omega
          have hE : E ≠ [] := fun h => by have := HTE.out; rw [h] at this; simp [sumW] at this; omega
          have hbn := Share.bound HWT.out (by omega) (by omega) hS
          have hS2 := hS.step hA hE HWT.out
          obtain ⟨p, hp, hpt⟩ := turn_mem f hE
          have hc1 := hS.cle hp
          have hc2 := hS.pos p hp
          have hzt := HZE.out p hp
          rw [hpt] at hc1 hc2 hzt
          have HOW := Lib.hid (own16 xa xc E (by omega) wi hM.ents)
          have HMI := Lib.hid hM
          have HBI := Lib.hid hbl
          have HSH := Lib.hid hS2
          clear hM hS hS2 hbl hp hpt
          go_wp2_with (go_at_call 16; refine HOW.out.mono ?_; rintro e w7 ⟨u, rfl, ho7, hb7⟩)
          obtain ⟨ya, yc, rfl⟩ := own_slice ho7
          obtain ⟨_, hie7, _⟩ := isEnts_own ho7
          have hM7 := HMI.out.below hb7
          have hB7 := HBI.out.trans (hb7.mono HBI.out.size)
          have hpk := pick15 rb v n f 1000000000000000 (Int.le_refl _) hbn ya yc E hE (by omega) HZE.out (by omega) w7 hM7.rot hie7
          rw [hcn] at hpk
          have HPK := Lib.hid hpk
          have HM7 := Lib.hid hM7
          have HB7 := Lib.hid hB7
          clear ho7 hie7 hb7 hM7 hB7 hpk HOW HMI HBI
          go_wp2_with (first
            | (go_at_call 15; refine HPK.out.mono ?_; rintro e w8 ⟨rfl, hp8⟩; obtain ⟨v8, hM8, hb8⟩ := HM7.out.pick hE HB7.out.size (by omega) hp8; have hlk := hM8.cm.look hzt; have HM8 := Lib.hid hM8; have HB8 := Lib.hid (HB7.out.trans hb8); clear hM8 hp8 hb8)
            | (at_mapUpdate; refine wpl_store _ rfl _ _ _ rfl nb _ _ rfl HM8.out.cm (by unfold maxLen; omega) (turn f E) (c (turn f E) + 1) rfl rfl hzt ⟨by omega, by omega⟩ ?_; intro w9 hm9 hg9))
          obtain ⟨hM9, hb9⟩ := HM8.out.count HB8.out.size hm9 hg9
          have HM9 := Lib.hid hM9
          have HB9 := Lib.hid (HB8.out.trans hb9)
          generalize after f E = f9 at *
          generalize upd c (turn f E) (c (turn f E) + 1) = c9 at *
          clear hM9 hb9 hm9 hg9 HM8 HB8 HPK HM7 HB7
          obtain ⟨wi, rfl⟩ : ∃ wi, wi = w9 := ⟨_, rfl⟩
          go_loopw [66] (fun i w2 => ∃ k : Nat, k ≤ E.length ∧ i = .int .i64 (k : Int) ∧ Below wi.heap.size wi w2) (fun i _ => E.length - (intOf i).toNat)
          case atStart => exact ⟨0, Nat.zero_le _, rfl, Below.refl _ _⟩
          case round =>
            obtain ⟨k, hk, rfl, hbk⟩ := hrel
            by_cases hlk : k < E.length
            · have hMk := HM9.out.below hbk
              obtain h0 | ⟨bk, o, rfl, hbk2, hc, hcell⟩ := hMk.ents
              · exact absurd h0 hE
              obtain ⟨c1, c2⟩ := hcell k E[k] (by simp [hlk])
              have hmem := List.getElem_mem hlk
              have hlo := HSH.out.low _ hmem
              have hsi := HSH.out.single HWT.out hmem
              have hz := HZE.out _ hmem
              have hw := HWT.out _ hmem
              obtain ⟨e, hee⟩ : ∃ e, e = E[k] := ⟨_, rfl⟩
              rw [← hee] at c1 c2 hlo hsi hz hw
              clear hcell hmem hee
              obtain ⟨N, V⟩ := e
              simp only at c1 c2 hlo hsi hz hw
              rw [HTE.out] at hlo hsi
              have hal := below_alloc wr (.cells #[.string N, .int .i64 V] 34)
              have hM2 := hMk.below hal
              have hma := Lib.hid (mark11 rb _ _ f9 N hz _ hM2.rot)
              have HBn := Lib.hid (hbk.alloc hbk.size (.cells #[.string N, .int .i64 V] 34))
              have k1 : (k : Int) < E.length := by omega
              have hng : ¬ f9 N ≤ -(T : Int) := by omega
              clear hM2 hMk hal hbk
              by_cases hf0 : f9 N = 0
              · clear hsi
                go_wp2_with (go_at_call 11; refine hma.out.mono ?_; rintro e w3 ⟨rfl, rfl⟩)
                go_roundw
                case rel => exact ⟨k + 1, hlk, by go_num, HBn.out⟩
                case measure => simp [intOf]; omega
              · have hsv : ¬ (T : Int) = V := fun h => hf0 (hsi h)
                have hf1 : (f9 N != 0) = true := by simp [hf0]
                have hs1 : ((T : Int) == V) = false := by simp [hsv]
                clear hsi hf0 hsv
                go_wp2_with (go_at_call 11; refine hma.out.mono ?_; rintro e w3 ⟨rfl, rfl⟩)
                go_roundw
                case rel => exact ⟨k + 1, hlk, by go_num, HBn.out⟩
                case measure => simp [intOf]; omega
            · obtain rfl : E.length = k := by omega
              have hne : ¬ ((E.length : Int) < E.length) := by omega
              have HM10 := Lib.hid (HM9.out.below hbk)
              have HB10 := Lib.hid (HB9.out.trans (hbk.mono HB9.out.size))
              clear hbk
              go_wp2_with fail
              go_roundw
              case rel => exact ⟨t + 1, hlt, by go_num, v8, _, f9, c9, by omega, HM10.out, HSH.out, HB10.out⟩
              case measure => simp [intOf]; omega
        · obtain rfl : T = t := by omega
          have j1 : ¬ ((T : Int) < T) := by omega
          have HMI := Lib.hid hM
          have HSH := Lib.hid hS
          have HBI := Lib.hid hbl
          clear hM hS hbl
          go_wp2_with fail
          go_loopw [92] (fun i w2 => ∃ k : Nat, k ≤ E.length ∧ i = .int .i64 (k : Int) ∧ Below wi.heap.size wi w2) (fun i _ => E.length - (intOf i).toNat)
          case atStart => exact ⟨0, Nat.zero_le _, rfl, Below.refl _ _⟩
          case round =>
            obtain ⟨k, hk, rfl, hbk⟩ := hrel
            by_cases hlk : k < E.length
            · have hMk := HMI.out.below hbk
              have hE : E ≠ [] := fun h => by rw [h] at hlk; simp at hlk
              obtain h0 | ⟨bk, o, rfl, hbk2, hc, hcell⟩ := hMk.ents
              · exact absurd h0 hE
              obtain ⟨c1, c2⟩ := hcell k E[k] (by simp [hlk])
              have hmem := List.getElem_mem hlk
              have hfu := Share.full (k := 1) hE HWT.out (by rw [Int.one_mul, HTE.out]; exact HSH.out) _ hmem
              have hz := HZE.out _ hmem
              have hw := HWT.out _ hmem
              rw [Int.one_mul] at hfu
              obtain ⟨e, hee⟩ : ∃ e, e = E[k] := ⟨_, rfl⟩
              rw [← hee] at c1 c2 hfu hz hw
              clear hcell hmem hee
              obtain ⟨N, V⟩ := e
              simp only at c1 c2 hfu hz hw
              have hal := below_alloc wr (.cells #[.string N, .int .i64 V] 34)
              have hM2 := hMk.below hal
              have hma := mark11 rb _ _ f N hz _ hM2.rot
              have hlk2 := hM2.cm.look hz
              rw [hfu.1] at hlk2
              rw [hfu.2] at hma
              have HMA := Lib.hid hma
              have HBn := Lib.hid (hbk.alloc hbk.size (.cells #[.string N, .int .i64 V] 34))
              have k1 : (k : Int) < E.length := by omega
              clear hM2 hMk hal hbk hma hfu
              go_wp2_with (go_at_call 11; refine HMA.out.mono ?_; rintro e w3 ⟨rfl, rfl⟩)
              go_roundw
              case rel => exact ⟨k + 1, hlk, by go_num, HBn.out⟩
              case measure => simp [intOf]; omega
            · obtain rfl : E.length = k := by omega
              have hne : ¬ ((E.length : Int) < E.length) := by omega
              go_wp2_with fail
              go_ret
              exact ⟨rfl, HBI.out.trans (hbk.mono HBI.out.size)⟩
end Go.Proofs.Ytcmjcpgfnkhnoaa
