/- The law RotorFair. -/
import Derived.Test.YtcmjcpgfnkhnoaaRoJ
namespace Go.Proofs.Ytcmjcpgfnkhnoaa
open Go.RowKit Go.Maps

theorem own_some {w : World} {base : Nat} {e : TypeId} {a : Option Addr} {m c : Nat} {xs : List Value} (h : w.ownsRow base e 2 (.slice a m c) m xs) (hm : 0 < m) : ∃ g, a = some ⟨g, 0, none⟩ := by
  rcases h.2 with ⟨h1, h2⟩ | ⟨g, cap, cur, h1, _⟩
  · omega
  · injection h1 with h1; exact ⟨g, h1⟩
set_option maxHeartbeats 8000000 in
set_option maxRecDepth 100000 in
theorem lawRotorFair (a : Option Addr) (c : Nat) (es0 : List Ent) (turns : Int) (hfl : es0.length ≤ 9223372036854775807) (W : World) (hf : IsEnts W a c es0) :
    Calls Try.prog 5 #[.slice a es0.length c, .int .i64 turns] W fun e w' => e = .returned (.bool true) ∧ Below W.heap.size W w' := by
  have HF := Lib.hid hf
  clear hf
  go_enter Try.func5, Try.ntmps5
  go_wp2_with (go_at_call 7; refine (awake7 _).mono ?_; rintro e w1 ⟨rfl, hb1⟩)
  have HFW := Lib.hid (few10 a c es0 6 (by omega) hfl w1 (HF.out.below hb1))
  go_wp2_with (go_at_call 10; refine HFW.out.mono ?_; rintro e w2 ⟨u, rfl, ho2, hb2⟩)
  obtain ⟨ua, uc, rfl⟩ := own_slice ho2
  obtain ⟨_, hie2, _⟩ := isEnts_own ho2
  have hl6 := fewE_len es0 6
  have HON := Lib.hid (once14 ua uc (fewE es0 6) (by omega) w2 hie2)
  have hB2 := Lib.hid (hb1.trans (hb2.mono hb1.size))
  clear ho2 hie2 hb1 hb2 HFW HF
  go_wp2_with (go_at_call 14; refine HON.out.mono ?_; rintro e w3 ⟨xa, xc, rfl, ho3, hb3⟩)
  have hap := once_apart (fewE es0 6)
  have hl := once_len (fewE es0 6)
  have hsz : ∀ e ∈ once (fewE es0 6), e.1.size ≤ 12 := fun e he => fewE_size (once_sub he)
  have HB3 := Lib.hid (hB2.out.trans (hb3.mono hB2.out.size))
  generalize once (fewE es0 6) = es at *
  have hl5 : es.length ≤ 6 := by omega
  have HO3 := Lib.hid (own_base ho3 hB2.out.size)
  have HAP := Lib.hid hap
  have HSZ := Lib.hid hsz
  clear ho3 hb3 hB2 HON hap hsz hl hl6
  go_loopw [6, 7, 21] (fun s _ i wr => ∃ j : Nat, j ≤ es.length ∧ i = .int .i64 (j : Int) ∧ s = .int .i64 (sumW ((mskL 31 es).take j)) ∧ Hid (wr.ownsRow W.heap.size 34 2 (.slice xa es.length xc) es.length (cellsE (mskE 31 es j))) ∧ Hid (Below W.heap.size W wr)) (fun _ _ i _ => es.length - (intOf i).toNat)
  case atStart => exact ⟨0, Nat.zero_le _, rfl, rfl, by rw [mskE_zero]; exact HO3, HB3⟩
  case round =>
    obtain ⟨j, hj, rfl, rfl, ho, hb⟩ := hrel
    by_cases hlt : j < es.length
    · obtain ⟨g, rfl⟩ := own_some ho.out (by omega)
      have c1 := (cellsE_at _ _ _ (mskE_at 31 hlt)).2
      have c2 := ho.out.cellAt (j * 2 + 1) (by omega)
      rw [c1] at c2
      have f2 := ho.out.frozenAt (j * 2 + 1)
      have hms := mskE_set 31 hlt
      have hst := mskL_step 31 hlt
      obtain ⟨V, hV⟩ : ∃ V, V = es[j].2 := ⟨_, rfl⟩
      rw [← hV] at c2 hms hst
      have hbd := and_small V 31 (by omega)
      have hO2 := (ho.out.stored (j * 2 + 1) (.int .i64 (1 + bits .and .i64 V ((31 : Nat) : Int)))).1
      rw [hms] at hO2
      have hge := (ho.out.lt g rfl)
      have HO2 := Lib.hid hO2
      have HB2 : Hid (Below W.heap.size W (wr.setCell ⟨g, j * 2 + 1, none⟩ (.int .i64 (1 + bits .and .i64 V ((31 : Nat) : Int))))) := hb.out.setCell (p := ⟨g, j * 2 + 1, none⟩) hge.1 _
      have HST := Lib.hid hst
      have hs := sumW_bound ((mskL 31 es).take j) (fun e he => mskL_weights 31 (by omega) es e (List.mem_of_mem_take he))
      have hs2 : ((mskL 31 es).take j).length ≤ 6 := by simp [mskL]; omega
      generalize sumW ((mskL 31 es).take j) = S at *
      have j1 : (j : Int) < es.length := by omega
      clear hO2 hst hms c1 hV ho hb hge
      rw [show ((31 : Nat) : Int) = 31 from rfl] at hbd HO2 HB2 HST
      go_wp2_with fail
      go_roundw
      case rel => exact ⟨j + 1, hlt, by go_num, by rw [HST.out], HO2, HB2⟩
      case measure => simp [intOf]; omega
    · obtain rfl : es.length = j := by omega
      rw [mskE_all] at ho
      have hlE : (mskL 31 es).length = es.length := by simp [mskL]
      have HWT := Lib.hid (mskL_weights 31 (by omega) es)
      have HAE := Lib.hid (mskL_apart 31 HAP.out)
      have HZE : Hid (∀ e ∈ mskL 31 es, e.1.size ≤ maxLen) := by
        intro e he
        obtain ⟨x, hx, rfl⟩ := List.mem_map.1 he
        have := HSZ.out x hx
        show x.1.size ≤ maxLen
        unfold maxLen; omega
      have ho2 : wr.ownsRow W.heap.size 34 2 (.slice xa es.length xc) (mskL 31 es).length (cellsE (mskL 31 es)) := by rw [hlE]; exact ho.out
      obtain ⟨_, hie, hblk⟩ := isEnts_own ho2
      rw [show (mskL 31 es).take es.length = mskL 31 es by rw [List.take_of_length_le (by omega)]]
      have HIE := Lib.hid hie
      have HBK := Lib.hid hblk
      have hle6 : (mskL 31 es).length ≤ 6 := by omega
      have hnE : ¬ ((es.length : Int) < es.length) := by omega
      clear ho ho2 hie hblk HO3 HSZ HAP HB3
      generalize mskL 31 es = E at *
      rw [← hlE] at hnE ⊢
      clear hlE
      have hmm := @run_makeMap Try.prog
      cases hz : ((E.length : Int) == 0)
      · have h0 : ¬ (E.length : Int) = 0 := by simpa using hz
        have hE : E ≠ [] := fun h => h0 (by rw [h]; rfl)
        have hT := and_small turns 127 (by omega)
        rw [show ((127 : Nat) : Int) = 127 from rfl] at hT
        obtain ⟨T, hTe⟩ : ∃ T : Nat, bits .and .i64 turns 127 = (T : Int) := ⟨(bits .and .i64 turns 127).toNat, by omega⟩
        have hT2 : T ≤ 127 := by omega
        clear hT
        go_wp2_with (go_at_call 8; refine (new8 _).mono ?_; rintro e w5 ⟨rfl, hr5, hb5⟩)
        obtain ⟨rb, hrb⟩ : ∃ rb, rb = wr.heap.size := ⟨_, rfl⟩
        rw [← hrb] at hr5 ⊢
        have hbw := hb.out.size
        have hbw5 := hb5.size
        have hb55 := hb.out.trans (hb5.mono hbw)
        have hrl := hr5.lt
        have hal := below_alloc w5 (.map #[] 0)
        have hmem : MemS W.heap.size rb w5.heap.size E xa xc none 0 (fun _ => 0) (fun _ => 0) (w5.alloc (.map #[] 0)) := by
          refine ⟨hr5.below hal, MapI.new w5, ?_, (HIE.out.below hb5).below hal, fun p hp => ⟨?_, ?_⟩, ?_, by omega⟩
          · rintro (h | h)
            · omega
            · cases h
          · have := (HBK.out p hp).2
            rintro (h | h)
            · omega
            · cases h
          · have := (HBK.out p hp).2; omega
          · rintro k (h | h)
            · omega
            · cases h
        have HM := Lib.hid hmem
        have HBA := Lib.hid (hb55.alloc hb55.size (.map #[] 0))
        clear hmem hal hb55 hr5 hb5 hb HIE HBK hrl hbw5 hbw hrb
        generalize w5.heap.size = nb at *
        generalize w5.alloc (.map #[] 0) = w6 at *
        have hA := HAE.out
        have hcn : cnt E = E := cnt_id hA HWT.out
        have hSb := sumW_bound E HWT.out
        go_loopw [57] (fun i wi => ∃ t : Nat, t ≤ T ∧ i = .int .i64 (t : Int) ∧ ∃ v n f c, n ≤ 10 * t ∧ MemS W.heap.size rb nb E xa xc v n f c wi ∧ Share E t f c ∧ Below W.heap.size W wi) (fun i _ => T - (intOf i).toNat)
        case atStart => exact ⟨0, Nat.zero_le _, rfl, none, 0, _, _, Nat.le_refl _, HM.out, Share.start HWT.out, HBA.out⟩
        case round =>
          obtain ⟨t, ht, rfl, v, n, f, c, hn, hM, hS, hbl⟩ := hrel
          obtain ⟨wi, rfl⟩ : ∃ wi, wi = wr := ⟨_, rfl⟩
          by_cases hlt : t < T
          · have j1 : (t : Int) < T := by omega
            have hbn := Share.bound HWT.out (by omega) (by omega) hS
            have hS2 := hS.step hA hE HWT.out
            obtain ⟨p, hp, hpt⟩ := turn_mem f hE
            have hc1 := hS.cle hp
            have hc2 := hS.pos p hp
            have hzt := HZE.out p hp
            rw [hpt] at hc1 hc2 hzt
            have HOW := Lib.hid (own16 xa xc E (by omega) wi hM.ents)
            have HMI := Lib.hid hM
            have HBI := Lib.hid hbl
            have HSH := Lib.hid hS2
            clear hM hS hS2 hbl hp hpt
            go_wp2_with (go_at_call 16; refine HOW.out.mono ?_; rintro e w7 ⟨u, rfl, ho7, hb7⟩)
            obtain ⟨ya, yc, rfl⟩ := own_slice ho7
            obtain ⟨_, hie7, _⟩ := isEnts_own ho7
            have hM7 := HMI.out.below hb7
            have hB7 := HBI.out.trans (hb7.mono HBI.out.size)
            have hpk := pick15 rb v n f 1000000000000000 (Int.le_refl _) hbn ya yc E hE (by omega) HZE.out (by omega) w7 hM7.rot hie7
            rw [hcn] at hpk
            have HPK := Lib.hid hpk
            have HM7 := Lib.hid hM7
            have HB7 := Lib.hid hB7
            clear ho7 hie7 hb7 hM7 hB7 hpk HOW HMI HBI
            go_wp2_with (first
              | (go_at_call 15; refine HPK.out.mono ?_; rintro e w8 ⟨rfl, hp8⟩; obtain ⟨v8, hM8, hb8⟩ := HM7.out.pick hE HB7.out.size (by omega) hp8; have hlk := hM8.cm.look hzt; have HM8 := Lib.hid hM8; have HB8 := Lib.hid (HB7.out.trans hb8); clear hM8 hp8 hb8)
              | (at_mapUpdate; refine wpl_store _ rfl _ _ _ rfl nb _ _ rfl HM8.out.cm (by unfold maxLen; omega) (turn f E) (c (turn f E) + 1) rfl rfl hzt ⟨by omega, by omega⟩ ?_; intro w9 hm9 hg9))
            obtain ⟨hM9, hb9⟩ := HM8.out.count HB8.out.size hm9 hg9
            go_roundw
            case rel => exact ⟨t + 1, hlt, by go_num, v8, _, _, _, by omega, hM9, HSH.out, HB8.out.trans hb9⟩
            case measure => simp [intOf]; omega
          · obtain rfl : T = t := by omega
            have j1 : ¬ ((T : Int) < T) := by omega
            have HMI := Lib.hid hM
            have HSH := Lib.hid hS
            have HBI := Lib.hid hbl
            have hnt := hM.rot
            clear hM hS hbl
            go_wp2_with fail
            go_loopw [73] (fun i w2 => ∃ k : Nat, k ≤ E.length ∧ i = .int .i64 (k : Int) ∧ Below wi.heap.size wi w2) (fun i _ => E.length - (intOf i).toNat)
            case atStart => exact ⟨0, Nat.zero_le _, rfl, Below.refl _ _⟩
            case round =>
              obtain ⟨k, hk, rfl, hbk⟩ := hrel
              by_cases hlk : k < E.length
              · have hMk := HMI.out.below hbk
                obtain h0 | ⟨bk, o, rfl, hbk2, hc, hcell⟩ := hMk.ents
                · exact absurd h0 hE
                obtain ⟨c1, c2⟩ := hcell k E[k] (by simp [hlk])
                have hmem := List.getElem_mem hlk
                have he := HSH.out.eq _ hmem
                have hfr := HSH.out.fair hmem
                have hcl := HSH.out.cle hmem
                have hcp := HSH.out.pos _ hmem
                have hz := HZE.out _ hmem
                have hw := HWT.out _ hmem
                obtain ⟨e, hee⟩ : ∃ e, e = E[k] := ⟨_, rfl⟩
                rw [← hee] at c1 c2 he hfr hcl hcp hz hw
                clear hcell hmem hee
                obtain ⟨N, V⟩ := e
                simp only at c1 c2 he hfr hcl hcp hz hw
                have hal := below_alloc wr (.cells #[.string N, .int .i64 V] 34)
                have hM2 := hMk.below hal
                have hlk2 : ∀ nq, (Instr.lookup 41 (.map (some nb)) (.string N) false).run Try.prog ((wr.alloc (.cells #[.string N, .int .i64 V] 34)).drewN nq) = .ok (.int .i64 (c N)) ((wr.alloc (.cells #[.string N, .int .i64 V] 34)).drewN nq) := fun nq => (hM2.cm.same (w' := (wr.alloc (.cells #[.string N, .int .i64 V] 34)).drewN nq) rfl).look hz
                have HM2 := Lib.hid hM2.rot
                have HBn : Hid (∀ nq, Below wi.heap.size wi ((wr.alloc (.cells #[.string N, .int .i64 V] 34)).drewN nq)) := fun nq => (hbk.alloc hbk.size _).trans ⟨rfl, rfl, rfl, Nat.le_refl _, fun _ _ => rfl⟩
                have k1 : (k : Int) < E.length := by omega
                have hp1 : 0 ≤ (T : Int) * V := Int.mul_nonneg (by omega) (by omega)
                have hp2 : (T : Int) * V ≤ 127 * 65535 := Int.mul_le_mul (by omega) hw.2 (by omega) (by omega)
                have hp3 : 0 ≤ c N * sumW E := Int.mul_nonneg hcp (by omega)
                have hp4 : c N * sumW E ≤ 127 * 1000000 := Int.mul_le_mul (by omega) (by omega) (by omega) (by omega)
                rw [Int.mul_comm (sumW E)] at he
                have hgt : ¬ (T : Int) * V + sumW E ≤ c N * sumW E := by omega
                have hma := fun nq => mark11 rb _ v f N hz _ (HM2.out.drewN nq)
                clear hM2 hMk hal hbk
                go_wp2_with fail
                go_quiet ((go_at_call 11; exact Calls.quiet_of_same (hma _)))
                go_wp2_with fail
                go_roundw
                case rel => exact ⟨k + 1, hlk, by go_num, HBn.out nq⟩
                case measure => simp [intOf]; omega
              · obtain rfl : E.length = k := by omega
                have hne : ¬ ((E.length : Int) < E.length) := by omega
                go_wp2_with fail
                go_ret
                exact ⟨rfl, HBI.out.trans (hbk.mono HBI.out.size)⟩
      · have h0 : (E.length : Int) = 0 := by simpa using hz
        go_wp2_with (go_at_call 8; refine (new8 _).mono ?_; rintro e w5 ⟨rfl, hr5, hb5⟩)
        go_ret
        exact ⟨rfl, hb.out.trans (hb5.mono hb.out.size)⟩
end Go.Proofs.Ytcmjcpgfnkhnoaa
