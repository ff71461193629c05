/- stewardref18.Build. -/
import Derived.Test.YtlcpkplipfcdaaaDoorMgBe
namespace Go.Proofs.YtlcpkplipfcdaaaDoor
open Go.RowKit

set_option maxRecDepth 100000 in
set_option maxHeartbeats 4000000 in
theorem rbuild12 (k : Nat → UInt8) (kb : ByteArray) (hk1 : (16 : Int) ≤ kb.size) (e1 : kb.extract 0 8 = ⟨(keyPart k 0).toArray⟩) (e2 : kb.extract 8 16 = ⟨(keyPart k 8).toArray⟩) (es : List Ent) (hl : es.length ≤ 6) (hz : ∀ e ∈ es, e.1.size ≤ 1000) (hv : ∀ e ∈ es, okW e = true) (m : Nat) (hm : m ≤ 2000) (hp : primeB m = true) (a : Option Addr) (c : Nat) (w : World) (hf : IsEnts w a c es) :
    Calls Tryd.prog 16 #[.string kb, .slice a es.length c, .int .i64 (m : Int)] w fun e w' => ∃ (a' : Option Addr) (c' : Nat) (own : Nat → Int), e = .returned (.slice a' m c') ∧ Assigned k (srtE es) m own ∧ IsStrs w' a' c' (placesL (srtE es) m own) ∧ Below w.heap.size w w' := by
  have hm2 := (primeB_spec hp).1
  obtain ⟨i0, hi, hz0, hz1, hz2⟩ := info_parts infoSt
  obtain ⟨i1, hi1, hy0, hy1, hy2⟩ := info_parts infoRow
  obtain ⟨i2, hi2, hx0, hx1, hx2⟩ := info_parts infoInt
  have HF := Lib.hid hf
  have O0 : Hid ((w.alloc (.cells #[] 9)).ownsRow w.heap.size 9 1 (.slice (some ⟨w.heap.size, 0, none⟩) 0 0) 0 (List.replicate 0 (.string ⟨#[]⟩))) := World.ownsRow_lit w #[] 0 (Nat.le_refl _) (by decide) (by simp)
  have L0 := Lib.hid (below_alloc w (.cells #[] 9))
  clear hf
  go_enter Tryd.func16, Tryd.ntmps16
  go_wp2_with fail
  go_loopw [7, 8] (fun v i wr => ∃ (j : Nat), j ≤ m ∧ i = .int .i64 (j : Int) ∧ Hid (wr.ownsRow w.heap.size 9 1 v j (List.replicate j (.string ⟨#[]⟩))) ∧ Hid (Below w.heap.size w wr)) (fun _ i _ => m - (intOf i).toNat)
  case atStart => exact ⟨0, Nat.zero_le _, rfl, O0, L0⟩
  case round =>
    clear O0 L0
    obtain ⟨j, hj, rfl, HO, HB⟩ := hrel
    by_cases hlt : j < m
    · have j1 : (j : Int) < m := by omega
      have HOa := Lib.hid (HO.out.alloc (.cells #[.string ⟨#[]⟩] 9))
      have HBa := Lib.hid (HB.out.alloc HB.out.size (.cells #[.string ⟨#[]⟩] 9))
      have HNW := Lib.hid (cells_str wr ⟨#[]⟩ 9)
      have HON : Hid (∀ u ∈ [Value.string ⟨#[]⟩], u.oneCell' = true) := by intro u hu; simp at hu; subst hu; rfl
      go_wp2_with (at_builtin; refine wpList_append_own _ rfl _ _ 36 rfl w.heap.size 9 i0 (.string ⟨#[]⟩) 1 16 Tryd.underlying36 hi hz0 hz1 hz2 rfl (by decide) _ _ _ rfl HOa.out ⟨wr.heap.size, 0, none⟩ 1 1 [.string ⟨#[]⟩] rfl rfl HNW.out HON.out (by unfold maxLen; omega) (by omega) HBa.out.size ?_; intro v' w10 hown' hgrow _)
      have HB10 := Lib.hid (HBa.out.grown hgrow HBa.out.size (fun q e => (HOa.out.lt q e).1))
      have HO10 := Lib.hid hown'
      clear hown' hgrow
      go_roundw
      case rel => exact ⟨j + 1, hlt, by go_num, by rw [List.replicate_succ']; exact HO10, HB10⟩
      case measure => simp [intOf]; omega
    · obtain rfl : j = m := by omega
      have hne : ¬ (j : Int) < j := by omega
      go_upto_region 6 with fail
      have HE1 := Lib.hid (HF.out.below HB.out)
      have HS := Lib.hid (sortedR a c es hl wr HE1.out)
      clear HE1
      go_upto_region 11 with (go_at_call 18; refine HS.out.mono ?_; rintro e w2 ⟨a2, c2, rfl, hO2, hB2⟩; have HO2 := Lib.hid hO2; have HB2 := Lib.hid hB2; clear hO2 hB2)
      have hal : (srtE es).length = es.length := (srtE_spec es).1.length_eq
      have HAM : Hid (∀ e ∈ srtE es, okW e = true ∧ e.1.size ≤ 1000) := fun e he => by
        have h1 := ((srtE_spec es).1.mem_iff).1 he
        exact ⟨hv e h1, hz e h1⟩
      have ho2 := HO2.out
      rw [← hal] at ho2
      have HEA := Lib.hid (isEnts_own ho2).2.1
      have HEB := Lib.hid (isEnts_own ho2).2.2
      have HWS := Lib.hid HB2.out.size
      have hl2 : (srtE es).length ≤ 6 := by omega
      rw [← hal]
      clear ho2 HO2 hal hv hz HS hlt hne
      generalize hall : srtE es = all at *
      have HALL := Lib.hid hall
      clear hall
      have H0 := Lib.hid (RbS.start w2 j (parOf k all j).F (parOf k all j).S)
      go_wp2_with fail
      generalize ((w2.alloc (.cells #[] 46)).alloc (.cells #[] 3)).alloc (.cells #[] 3) = w3 at *
      go_loopw [10, 11, 12, 13, 38] (fun rv nv ov g i wr => ∃ (q gr gn go cr cn co : Nat) (rb rc : Nat → Nat), q ≤ all.length ∧ rv = .slice (some ⟨gr, 0, none⟩) q cr ∧ nv = .slice (some ⟨gn, 0, none⟩) q cn ∧ ov = .slice (some ⟨go, 0, none⟩) q co ∧ g = .int .i64 (gm (parOf k all j).W q : Nat) ∧ i = .int .i64 (q : Int) ∧ Hid (RbS w2 j (parOf k all j).F (parOf k all j).S q q q gr gn go cr cn co rb rc wr)) (fun _ _ _ _ i _ => all.length - (intOf i).toNat)
      case atStart => exact ⟨0, _, _, _, _, _, _, _, _, Nat.zero_le _, rfl, rfl, rfl, rfl, rfl, H0⟩
      case round =>
        clear H0
        obtain ⟨q, gr, gn, go, cr, cn, co, rb, rc, hq, rfl, rfl, rfl, rfl, rfl, HR⟩ := hrel
        by_cases hlt : q < all.length
        · obtain h0 | ⟨bk, o, rfl, hbk, hc, hcell⟩ := HEA.out.below HR.out.bel
          · subst h0; simp at hlt
          obtain ⟨c1, c2'⟩ := hcell q all[q] (by simp [hlt])
          have hva := HAM.out all[q] (List.getElem_mem hlt)
          have hWq := parOf_W (k := k) (m := j) hlt
          have hFq := parOf_F (k := k) (m := j) hlt
          have hSq := parOf_S (k := k) (m := j) hlt
          have q1 : (q : Int) < all.length := by omega
          generalize all[q] = e at *
          obtain ⟨N, V⟩ := e
          simp only at c1 c2' hva hWq hFq hSq
          have hvr := okW_range hva.1
          have hwv : V = ((parOf k all j).W q : Nat) := by rw [hWq]; simp only at hvr; omega
          subst hwv
          have hns := hva.2
          have HGS : Hid (gm (parOf k all j).W (q + 1) = max (gm (parOf k all j).W q) ((parOf k all j).W q)) := rfl
          have HFQ := Lib.hid hFq
          have HSQ := Lib.hid hSq
          have hflt := firstN_lt k N (m := j) (by omega)
          have hslt := stepN_lt k N hm2
          have hs1 := hashN_is k (offB.data.toList ++ N.data.toList)
          have hs2 := hashN_is k (stepB.data.toList ++ N.data.toList)
          have hz1 : (⟨#[111, 102, 102, 115, 101, 116]⟩ ++ N : ByteArray).size = 6 + N.size := by rw [ByteArray.size_append]; rfl
          have hz2' : (⟨#[115, 116, 101, 112]⟩ ++ N : ByteArray).size = 4 + N.size := by rw [ByteArray.size_append]; rfl
          have HS1 : Hid (∀ W, Calls Tryd.prog 44 #[.string kb, .string (⟨#[111, 102, 102, 115, 101, 116]⟩ ++ N)] W fun e w' => e = .returned (.int .u64 (hashN k (offB.data.toList ++ N.data.toList) : Nat)) ∧ Below W.heap.size W w') := fun W => by
            have := sum13 k kb hk1 e1 e2 (⟨#[111, 102, 102, 115, 101, 116]⟩ ++ N) (by omega) W
            rw [cat_data, show (⟨#[111, 102, 102, 115, 101, 116]⟩ : ByteArray) = offB from rfl, hs1.1] at this
            exact this
          have HS2 : Hid (∀ W, Calls Tryd.prog 44 #[.string kb, .string (⟨#[115, 116, 101, 112]⟩ ++ N)] W fun e w' => e = .returned (.int .u64 (hashN k (stepB.data.toList ++ N.data.toList) : Nat)) ∧ Below W.heap.size W w') := fun W => by
            have := sum13 k kb hk1 e1 e2 (⟨#[115, 116, 101, 112]⟩ ++ N) (by omega) W
            rw [cat_data, show (⟨#[115, 116, 101, 112]⟩ : ByteArray) = stepB from rfl, hs2.1] at this
            exact this
          have HL1 : Hid (∀ W, Calls Tryd.prog 19 #[.int .u64 (hashN k (offB.data.toList ++ N.data.toList) : Nat), .int .i64 (j : Nat)] W fun e w' => e = .returned (.int .i64 (firstN k N j : Nat)) ∧ W = w') := fun W => below16 _ j hs1.2 (by omega) (by omega) W
          obtain ⟨t1, ht1⟩ : ∃ t1 : Nat, stepN k N j = 1 + t1 := ⟨_, rfl⟩
          have HL2 : Hid (∀ W, Calls Tryd.prog 19 #[.int .u64 (hashN k (stepB.data.toList ++ N.data.toList) : Nat), .int .i64 ((j : Int) - 1)] W fun e w' => e = .returned (.int .i64 (t1 : Nat)) ∧ W = w') := fun W => by
            have := below16 _ (j - 1) hs2.2 (by omega) (by omega) W
            have hst : belowN (hashN k (stepB.data.toList ++ N.data.toList)) (j - 1) = (t1 : Int) := by have : stepN k N j = 1 + hashN k (stepB.data.toList ++ N.data.toList) * (j - 1) / 18446744073709551616 := rfl; unfold belowN; omega
            rw [hst, show ((j - 1 : Nat) : Int) = (j : Int) - 1 by omega] at this
            exact this
          have HRW : Hid (∀ W, Calls Tryd.prog 45 #[.int .i64 (j : Int), .int .i64 (firstN k N j : Nat), .int .i64 (1 + (t1 : Int))] W fun e w' => ∃ v, e = .returned v ∧ w'.ownsRow W.heap.size 3 1 v j (cellsN (rowL j (firstN k N j) (stepN k N j))) ∧ Below W.heap.size W w') := fun W => refrowM j (firstN k N j) (stepN k N j) _ _ (by omega) hm (by rw [Int.emod_eq_of_lt (by omega) (by omega)]) (by rw [Int.emod_eq_of_lt (by omega) (by omega)]; omega) W
          have HRa := Lib.hid (HR.out.below (below_alloc wr (.cells #[.string N, .int .i64 ((parOf k all j).W q : Nat)] 44)))
          have HBX := Lib.hid (Row.new wr 44 #[.string N, .int .i64 ((parOf k all j).W q : Nat)])
          clear hs1 hs2 HR hva hWq hFq hSq hcell
          have hns1 : ¬ (9223372036854775807 < 6 + N.size) := by omega
          have hns2 : ¬ (9223372036854775807 < 4 + N.size) := by omega
          have HHT := Lib.hid ht1
          have ht1b : t1 < 2000 := by omega
          clear ht1 hz1 hz2'
          generalize hashN k (offB.data.toList ++ N.data.toList) = x1 at *
          generalize hashN k (stepB.data.toList ++ N.data.toList) = x2 at *
          generalize firstN k N j = f1 at *
          generalize stepN k N j = s1 at *
          go_upto_region 15 with (first
            | (go_at_call 44; refine (HS1.out _).mono ?_; rintro e w4 ⟨rfl, hB4⟩; have HR4 := Lib.hid (HRa.out.below hB4); have HX4 := Lib.hid (HBX.out.below hB4); clear hB4)
            | (go_at_call 19; refine (HL1.out _).mono ?_; rintro e w5 ⟨rfl, hw5⟩; subst hw5))
          clear HRa HBX c1 c2'
          generalize wr.heap.size = eb at *
          have b0 : w4.cell? ⟨eb, 0, none⟩ = some (.string N) := by rw [HX4.out.cell]; rfl
          go_upto_region 16 with (first
            | (go_at_call 44; refine (HS2.out _).mono ?_; rintro e w6 ⟨rfl, hB6⟩; have HR6 := Lib.hid (HR4.out.below hB6); have HX6 := Lib.hid (HX4.out.below hB6); clear hB6)
            | (go_at_call 19; refine (HL2.out _).mono ?_; rintro e w7 ⟨rfl, hw7⟩; subst hw7))
          clear HR4 HX4 b0 HS1 HS2 HL1 HL2
          go_wp2_with fail
          refine (HRW.out _).mono ?_
          rintro e w8 ⟨v, rfl, hv8, hB8⟩
          obtain ⟨g, cg, rfl, _, _⟩ := hv8.form (by omega)
          have hg8 := (own_capM hv8).2.1
          have HD1 : Hid (gn ≠ g ∧ go ≠ g) := by
            have h1 := (own_capM HR6.out.next).2.2
            have h3 := (own_capM HR6.out.owed).2.2
            exact ⟨by omega, by omega⟩
          have HN8 := Lib.hid ((own_base hv8 HR6.out.bel.size).alloc (.cells #[.slice (some ⟨g, 0, none⟩) j cg] 46))
          have HR8 := Lib.hid ((HR6.out.below hB8).below (below_alloc w8 (.cells #[.slice (some ⟨g, 0, none⟩) j cg] 46)))
          have HX8 := Lib.hid ((HX6.out.below hB8).alloc (.cells #[.slice (some ⟨g, 0, none⟩) j cg] 46))
          have HC8 := Lib.hid (cells_one w8 (.slice (some ⟨g, 0, none⟩) j cg) 46)
          have HCO : Hid (∀ u ∈ [Value.slice (some ⟨g, 0, none⟩) j cg], u.oneCell' = true) := by intro u hu; simp at hu; subst hu; rfl
          clear hv8 hB8 hg8 HR6 HX6
          go_upto_region 17 with (at_builtin; refine wpList_append_own _ rfl _ _ 84 rfl w2.heap.size 46 i1 (.slice none 0 0) 1 24 Tryd.underlying84 hi1 hy0 hy1 hy2 rfl (by decide) _ _ _ rfl HR8.out.rows ⟨w8.heap.size, 0, none⟩ 1 1 [.slice (some ⟨g, 0, none⟩) j cg] rfl rfl HC8.out HCO.out (by unfold maxLen; omega) (by omega) HR8.out.bel.size ?_; intro v9 w9 hown9 hgrow9 _)
          obtain ⟨gr', cr', rfl⟩ := ownsRow_succ hown9
          have HR9 := Lib.hid ((HR8.out.addRow hown9 hgrow9 (by rw [HFQ.out, HSQ.out]; exact HN8.out) HD1.out.1 HD1.out.2).below (below_alloc w9 (.cells #[.int .i64 0] 3)))
          have HX9 := Lib.hid ((HX8.out.grown hgrow9 (own_ne (own_zero HR8.out.rows) HX8.out (by decide))).alloc (.cells #[.int .i64 0] 3))
          have HC9 := Lib.hid (cells_one w9 (.int .i64 0) 3)
          clear hown9 hgrow9 HR8 HX8 HC8 HCO HN8 HD1
          go_upto_region 18 with (at_builtin; refine wpList_append_lies _ rfl _ _ 46 rfl w2.heap.size 3 i2 (.int .i64 0) 1 8 Tryd.underlying46 hi2 hx0 hx1 hx2 rfl (by decide) _ _ _ rfl HR9.out.next ⟨w9.heap.size, 0, none⟩ 1 1 [.int .i64 0] rfl rfl HC9.out (one_int 0) (by decide) (by unfold maxLen; omega) (by omega) HR9.out.bel.size _ rfl ?_; intro g10 c10 w10 hown10 hgrow10 hfr10 _)
          have HR10 := Lib.hid ((HR9.out.addNext hown10 hgrow10 hfr10).below (below_alloc w10 (.cells #[.int .i64 0] 3)))
          have HX10 := Lib.hid ((HX9.out.grown hgrow10 (own_ne (own_zero HR9.out.next) HX9.out (by decide))).alloc (.cells #[.int .i64 0] 3))
          have HC10 := Lib.hid (cells_one w10 (.int .i64 0) 3)
          clear hown10 hgrow10 hfr10 HR9 HX9 HC9
          go_upto_region 19 with (at_builtin; refine wpList_append_lies _ rfl _ _ 46 rfl w2.heap.size 3 i2 (.int .i64 0) 1 8 Tryd.underlying46 hi2 hx0 hx1 hx2 rfl (by decide) _ _ _ rfl HR10.out.owed ⟨w10.heap.size, 0, none⟩ 1 1 [.int .i64 0] rfl rfl HC10.out (one_int 0) (by decide) (by unfold maxLen; omega) (by omega) HR10.out.bel.size _ rfl ?_; intro g11 c11 w11 hown11 hgrow11 hfr11 _)
          have HR11 := Lib.hid (HR10.out.addOwed hown11 hgrow11 hfr11)
          have HX11 := Lib.hid (HX10.out.grown hgrow11 (own_ne (own_zero HR10.out.owed) HX10.out (by decide)))
          clear hown11 hgrow11 hfr11 HR10 HX10 HC10
          have b1 : w11.cell? ⟨eb, 1, none⟩ = some (.int .i64 ((parOf k all j).W q : Nat)) := by rw [HX11.out.cell]; rfl
          go_wp2_with fail
          go_roundw
          case rel => exact ⟨q + 1, gr', g10, g11, cr', c10, c11, _, _, hlt, rfl, rfl, rfl, by rw [HGS.out]; congr 1; omega, by go_num, HR11⟩
          case measure => simp [intOf]; omega
        · obtain rfl : q = all.length := by omega
          have hne : ¬ (all.length : Int) < all.length := by omega
          have hj2 : j ≤ 4096 := by omega
          obtain ⟨cs, hmk0, hT⟩ := makeBM j hj2 wr
          have hmk := hmk0 wr rfl
          have hO := HO.out
          obtain ⟨pb, cp, hve, _, _⟩ := hO.form (by omega)
          subst hve
          have HT := Lib.hid hT
          have HR3 := Lib.hid (R3.start (ns := all.map fun e => e.1) hO HB2.out HR.out hT rfl)
          have HPB := Lib.hid (own_capM hO)
          clear hmk0 hT
          by_cases hn0 : all = []
          · subst hn0
            have hzz : ¬ ((0 : Nat) : Int) > 0 := by decide
            have hj1 : (0 : Int) < (j : Int) := by omega
            go_upto_region 23 with fail
            go_wp2_with fail
            go_loopw [19] (fun g w5 => g = .int .i64 0 ∧ w5 = wr.alloc (.cells cs 4)) (fun _ _ => 0)
            case atStart => exact ⟨rfl, rfl⟩
            case round =>
              obtain ⟨rfl, rfl⟩ := hrel
              go_wp2_with fail
              go_ret
              have h1 := HR3.out.pl
              refine ⟨some ⟨pb, 0, none⟩, cp, fun _ => -1, rfl, by rw [HALL.out]; exact .inl ⟨rfl, rfl⟩, by rw [HALL.out]; exact placesL_at HPB.out.1 h1, ?_⟩
              exact (HB.out.trans (HB2.out.mono HB.out.size)).trans ((HR.out.bel.alloc HR.out.bel.size _).mono (Nat.le_trans HB.out.size HB2.out.size))
          · have hpos : 0 < all.length := List.length_pos_iff.2 hn0
            have hg2 : (0 : Int) < all.length := by omega
            obtain ⟨hOk, hS, hG5⟩ := parOf_ok (k := k) hn0 hp (fun e he => (HAM.out e he).1)
            have hGe : gm (parOf k all j).W all.length = (parOf k all j).G := rfl
            have hGB : Hid (w2.heap.size ≤ go ∧ w2.heap.size ≤ gn ∧ w2.heap.size ≤ wr.heap.size) := ⟨(own_capM HR.out.owed).2.1, (own_capM HR.out.next).2.1, HR.out.bel.size⟩
            have HK : Hid (Keep (fun x => x = pb ∨ w2.heap.size ≤ x) w2 (wr.alloc (.cells cs 4))) := Keep.of_below (HR.out.bel.alloc HR.out.bel.size _)
            obtain h0 | ⟨bk, o, rfl, hbk, hcc, hcell⟩ := HEA.out
            · exact absurd h0 hn0
            have HBK : Hid (bk < w2.heap.size ∧ bk ≠ pb) := ⟨hbk, by have := (HEB.out _ rfl).1; have := HPB.out.2.2; simp only at *; omega⟩
            have HCL := Lib.hid hcell
            rw [hGe]
            go_upto_region 22 with fail
            have HPE0 : Hid (∃ P, P = parOf k all j) := ⟨_, rfl⟩
            obtain ⟨P, hPe⟩ := HPE0.out
            rw [← hPe] at hOk hS hG5 HR3
            rw [← hPe]
            have hPn : P.n = all.length := by rw [hPe]; rfl
            have hPm : P.m = j := by rw [hPe]; rfl
            have HPE := Lib.hid hPe
            clear hPe HPE0 hGe hcell HR HEA HT hO
            subst hPm
            generalize hns : (all.map fun e => e.1) = ns at HR3
            have HNS := Lib.hid hns
            clear hns
            generalize htb : wr.heap.size = tb at *
            generalize wr.alloc (.cells cs 4) = w4 at *
            clear htb hmk
            go_wp2_with fail
            go_loopw [19] (fun g w5 => ∃ (r : Nat) (ow : Nat → Int), Hid ((P.run (r * P.n)).cnt < P.m → ow = (P.run (r * P.n)).ow) ∧ g = .int .i64 ((P.run (r * P.n)).cnt : Nat) ∧ Hid (R3 P ns pb tb gn go gr rb rc (P.run (r * P.n)).own (P.run (r * P.n)).own (P.run (r * P.n)).nx ow w5) ∧ Hid (Keep (fun x => x = pb ∨ w2.heap.size ≤ x) w2 w5)) (fun g _ => P.m - (intOf g).toNat)
            case atStart => exact ⟨0, fun _ => 0, fun _ => by rw [Nat.zero_mul]; rfl, by rw [Nat.zero_mul]; rfl, by rw [Nat.zero_mul]; exact HR3, HK⟩
            case round =>
              clear HR3 HK
              rename_i w5
              obtain ⟨r, ow0, HOW, rfl, HR3, HK⟩ := hrel
              have hI0 := Par.run_inv hOk (r * P.n)
              have hle := hI0.le
              by_cases hlt : (P.run (r * P.n)).cnt < P.m
              · have HMORE := Lib.hid (Par.run_more hOk r)
                have howe := HOW.out hlt
                subst howe
                have HST0 : Hid (∃ st0, st0 = P.run (r * P.n)) := ⟨_, rfl⟩
                obtain ⟨st0, hst0⟩ := HST0.out
                rw [← hst0] at hI0 hle hlt HR3 ⊢
                have HSE := Lib.hid hst0
                clear HST0 hst0 HOW
                have g1 : ((st0.cnt : Nat) : Int) < P.m := by omega
                go_wp2_with fail
                go_loopw [19, 88] (fun g i w6 => ∃ (q : Nat) (st : St) (ow : Nat → Int), q ≤ all.length ∧ Hid (st = P.run (r * P.n + q)) ∧ st0.cnt ≤ st.cnt ∧ st.cnt ≤ P.m ∧ Hid (st.cnt < P.m → ow = st.ow) ∧ Hid (∀ k, q ≤ k → k < P.n → 0 ≤ ow k ∧ ow k < P.G) ∧ g = .int .i64 (st.cnt : Nat) ∧ i = .int .i64 (q : Int) ∧ Hid (R3 P ns pb tb gn go gr rb rc st.own st.own st.nx ow w6) ∧ Hid (Keep (fun x => x = pb ∨ w2.heap.size ≤ x) w2 w6)) (fun _ i _ => all.length - (intOf i).toNat)
                case atStart => exact ⟨0, st0, st0.ow, Nat.zero_le _, HSE, Nat.le_refl _, hle, fun _ => rfl, fun k _ hk => hI0.ow k hk, rfl, rfl, HR3, HK⟩
                case round =>
                  clear HR3 HK
                  rename_i w6
                  obtain ⟨q, st, ow, hq, HST, hc0, hcm, HOW, HOB, rfl, rfl, HR3, HK⟩ := hrel
                  by_cases hlt2 : q < all.length
                  · have hqn : q < P.n := by omega
                    have hwk := hOk.w1 q hqn
                    have hob := HOB.out q (Nat.le_refl _) hqn
                    have hWq : P.W q = all[q].2.toNat := by rw [HPE.out]; exact parOf_W hlt2
                    have hva := HAM.out all[q] (List.getElem_mem hlt2)
                    obtain ⟨k1, k2⟩ := HCL.out q all[q] (by simp [hlt2])
                    have hnsl : q < ns.length := by rw [← HNS.out, List.length_map]; exact hlt2
                    have hnsq : ns[q] = all[q].1 := by simp only [← HNS.out, List.getElem_map]
                    have kc := fun o => keep_cell HK.out HBK.out.1 (fun h => h.elim HBK.out.2 (fun h2 => absurd HBK.out.1 (by omega))) o
                    rw [← kc] at k1 k2
                    generalize all[q] = e at *
                    obtain ⟨N, V⟩ := e
                    simp only at k1 k2 hWq hnsq hva
                    have hvr := okW_range hva.1
                    have hwv : V = (P.W q : Nat) := by rw [hWq]; simp only at hvr; omega
                    subst hwv
                    have HNQ := Lib.hid hnsq
                    have i1 : (q : Int) < all.length := by omega
                    have HRa := Lib.hid (HR3.out.below (below_alloc wr (.cells #[.string N, .int .i64 (P.W q : Nat)] 44)))
                    have HKa : Hid (Keep (fun x => x = pb ∨ w2.heap.size ≤ x) w2 (wr.alloc (.cells #[.string N, .int .i64 (P.W q : Nat)] 44))) := HK.out.trans (Keep.alloc wr _)
                    have HXa := Lib.hid (Row.new wr 44 #[.string N, .int .i64 (P.W q : Nat)])
                    have HEN : Hid (wr.heap.size ≠ go ∧ wr.heap.size ≠ gn ∧ wr.heap.size ≠ tb ∧ wr.heap.size ≠ pb) := by
                      have a1 := HR3.out.ow.1
                      have a2 := HR3.out.nx.1
                      have a3 := HR3.out.tk.1
                      have a4 := HR3.out.pl.1
                      show _ ∧ _ ∧ _ ∧ _
                      omega
                    clear HR3 HK kc hva hWq hnsq hvr
                    go_upto_region 27 with fail
                    clear k1 k2
                    generalize wr.heap.size = eb at *
                    generalize wr.alloc (.cells #[.string N, .int .i64 (P.W q : Nat)] 44) = W1 at *
                    have o1 : W1.drew.cell? ⟨go, q, none⟩ = some (.int .i64 (ow q)) := (HRa.out.ow.2 q hqn).1
                    have o2 : W1.drew.frozen? ⟨go, q, none⟩ = false := (HRa.out.ow.2 q hqn).2
                    have o3 : W1.drew.cell? ⟨eb, 1, none⟩ = some (.int .i64 (P.W q : Nat)) := by rw [HXa.out.drew.cell]; rfl
                    have hw1 := wrapI (ow q + P.W q) (by omega) (by omega)
                    have HR1 := Lib.hid (HRa.out.drew.setOwed hqn (ow q + P.W q))
                    have HK1 := Lib.hid ((HKa.out.trans (Keep.drew W1)).trans (Keep.setCell (G := fun x => x = pb ∨ w2.heap.size ≤ x) W1.drew (p := ⟨go, q, none⟩) (.inr hGB.out.1) (.int .i64 (ow q + P.W q))))
                    have HX1 := Lib.hid (HXa.out.drew.far (p := ⟨go, q, none⟩) HEN.out.1 (.int .i64 (ow q + P.W q)))
                    clear HRa HKa HXa
                    refine region_tail 8 (by kernel_rfl) (by kernel_rfl) ?_
                    simp only [List.take_succ_cons, List.take_zero, List.drop_succ_cons, List.drop_zero]
                    iterate 8 still_step
                    refine still_tail_nil ?_
                    generalize W1.drew = W2 at *
                    go_upto_region 28 with fail
                    clear o1 o2 o3
                    generalize W2.setCell ⟨go, q, none⟩ (.int .i64 (ow q + P.W q)) = W3 at *
                    have d1 : W3.cell? ⟨go, q, none⟩ = some (.int .i64 (ow q + P.W q)) := by have := (HR1.out.ow.2 q hqn).1; simpa only [setI_same] using this
                    have HOB2 : Hid (∀ u, ∀ k, q + 1 ≤ k → k < P.n → 0 ≤ setI ow q u k ∧ setI ow q u k < P.G) := fun u k h1 h2 => by
                      unfold setI; rw [if_neg (by omega)]; exact HOB.out k (by omega) h2
                    by_cases hgt : ow q + P.W q < P.G
                    · have HI := Lib.hid (stp_idle hqn HST.out HOW.out hcm (.inl hgt))
                      obtain ⟨st', e1, e2, e3, e4, e5⟩ := HI.out
                      rw [← e3, ← e4] at HR1
                      have HE1 := Lib.hid e1
                      have HE5 := Lib.hid e5
                      clear HI e1 e5
                      go_wp2_with fail
                      go_roundw
                      case rel => exact ⟨q + 1, st', _, hlt2, HE1, by omega, by omega, by rw [e2]; exact HE5, HOB2.out _, by rw [e2], by go_num, HR1, HK1⟩
                      case measure => simp [intOf]; omega
                    · by_cases hcf : st.cnt = P.m
                      · have HI := Lib.hid (stp_idle hqn HST.out HOW.out hcm (.inr hcf))
                        obtain ⟨st', e1, e2, e3, e4, e5⟩ := HI.out
                        rw [← e3, ← e4] at HR1
                        have HE1 := Lib.hid e1
                        have HE5 := Lib.hid e5
                        have h3 : ((st.cnt : Int) == (P.m : Int)) = true := by rw [beq_iff_eq]; omega
                        clear HI e1 e5
                        go_wp2_with fail
                        go_roundw
                        case rel => exact ⟨q + 1, st', _, hlt2, HE1, by omega, by omega, by rw [e2]; exact HE5, HOB2.out _, by rw [e2], by go_num, HR1, HK1⟩
                        case measure => simp [intOf]; omega
                      · have hcl : st.cnt < P.m := by omega
                        have h3 : ((st.cnt : Int) == (P.m : Int)) = false := by rw [beq_eq_false_iff_ne]; omega
                        have hI : P.Inv st := by rw [HST.out]; exact Par.run_inv hOk _
                        obtain ⟨f1, f2, f3, f4⟩ := hI.free hOk hcl hqn
                        have HTK := Lib.hid (stp_take hqn HST.out HOW.out hcl hgt)
                        have d2 : W3.frozen? ⟨go, q, none⟩ = false := (HR1.out.ow.2 q hqn).2
                        have hw2 := wrapI (ow q + P.W q - P.G) (by omega) (by omega)
                        have HR2 := Lib.hid (HR1.out.setOwed hqn (ow q + P.W q - P.G))
                        rw [setI_twice] at HR2
                        have HK2 := Lib.hid (HK1.out.trans (Keep.setCell (G := fun x => x = pb ∨ w2.heap.size ≤ x) W3 (p := ⟨go, q, none⟩) (.inr hGB.out.1) (.int .i64 (ow q + P.W q - P.G))))
                        have HX2 := Lib.hid (HX1.out.far (p := ⟨go, q, none⟩) HEN.out.1 (.int .i64 (ow q + P.W q - P.G)))
                        have HF3 := Lib.hid f3
                        have HF4 := Lib.hid f4
                        clear HR1 HK1 HX1 hI f3 f4
                        generalize P.nxt q st = v at *
                        go_wp2_with fail
                        clear d1 d2
                        generalize W3.setCell ⟨go, q, none⟩ (.int .i64 (ow q + P.W q - P.G)) = W4 at *
                        go_loopw [131] (fun _ w7 => ∃ t, st.nx q ≤ t ∧ t ≤ v ∧ Hid (R3 P ns pb tb gn go gr rb rc st.own st.own (setN st.nx q t) (setI ow q (ow q + P.W q - P.G)) w7) ∧ Hid (Keep (fun x => x = pb ∨ w2.heap.size ≤ x) w2 w7) ∧ Hid (Row w7 eb 44 #[.string N, .int .i64 (P.W q : Nat)])) (fun _ w7 => v - nextOf w7 gn q)
                        case atStart => exact ⟨st.nx q, Nat.le_refl _, f1, by rw [setN_id]; exact HR2, HK2, HX2⟩
                        case round =>
                          clear HR2 HK2 HX2
                          rename_i w7
                          obtain ⟨t, ht1, ht2, HR, HK, HX⟩ := hrel
                          have hpl := Par.pl_lt hOk q t
                          have htm : t < P.m := by omega
                          have t1 : ((t : Nat) : Int) < P.m := by omega
                          have p1 : ((P.pl q t : Nat) : Int) < P.m := by omega
                          have n1 : wr.cell? ⟨gn, q, none⟩ = some (.int .i64 (t : Nat)) := by have := (HR.out.nx.2 q hqn).1; simpa only [setN_same] using this
                          have n2 : wr.cell? ⟨gr, q, none⟩ = some (.slice (some ⟨rb q, 0, none⟩) P.m (rc q)) := (HR.out.rows.2 q hqn).1
                          have n3 : wr.cell? ⟨rb q, t, none⟩ = some (.int .i64 (P.pl q t : Nat)) := ((HR.out.inn q hqn).2 t htm).1
                          have n4 : wr.cell? ⟨tb, P.pl q t, none⟩ = some (.bool (decide (st.own (P.pl q t) ≠ -1))) := (HR.out.tk.2 (P.pl q t) hpl).1
                          have HNX := Lib.hid (nextOf_is n1)
                          by_cases htv : t = v
                          · subst htv
                            rw [show decide (st.own (P.pl q t) ≠ -1) = false by have := HF3.out; simp [this]] at n4
                            obtain ⟨st', e1, e2, e3, e4, e5⟩ := HTK.out
                            have HE := Lib.hid (And.intro e1 (And.intro e2 (And.intro e3 (And.intro e4 e5))))
                            clear e1 e2 e3 e4 e5 HNX HF4 HTK hpl
                            have hplc := Par.pl_lt hOk q t
                            have HZ0 : Hid (∃ z, P.pl q t = z) := ⟨_, rfl⟩
                            obtain ⟨z, hz⟩ := HZ0.out
                            rw [hz] at n3 n4 hplc p1
                            have HZE := Lib.hid hz
                            clear HZ0 hz
                            go_wp2_with fail
                            go_quiet (fail)
                            go_upto_region 32 with fail
                            clear n1 n2 n3 n4
                            generalize hW0 : wr.drewN nq = W5
                            have HR5 : Hid (R3 P ns pb tb gn go gr rb rc st.own st.own (setN st.nx q t) (setI ow q (ow q + P.W q - P.G)) W5) := by rw [← hW0]; exact HR.out.drewN nq
                            have HK5 : Hid (Keep (fun x => x = pb ∨ w2.heap.size ≤ x) w2 W5) := by rw [← hW0]; exact HK.out.trans (Keep.drewN wr nq)
                            have HX5 : Hid (Row W5 eb 44 #[.string N, .int .i64 (P.W q : Nat)]) := by rw [← hW0]; exact HX.out
                            clear HR HK HX hW0
                            have hqt : setN st.nx q t q = t := setN_same _ _ _
                            have HZL : Hid (P.pl q t = z) := HZE.out
                            have m1 : W5.drew.cell? ⟨gn, q, none⟩ = some (.int .i64 (t : Nat)) := by have := (HR5.out.nx.2 q hqn).1; simp only [hqt] at this; exact this
                            have m2 : W5.drew.cell? ⟨gr, q, none⟩ = some (.slice (some ⟨rb q, 0, none⟩) P.m (rc q)) := (HR5.out.rows.2 q hqn).1
                            have m3 : W5.drew.cell? ⟨rb q, t, none⟩ = some (.int .i64 (z : Nat)) := by have := ((HR5.out.inn q hqn).2 t htm).1; simp only [HZL.out] at this; exact this
                            have m4 : W5.drew.cell? ⟨tb, z, none⟩ = some (.bool (decide (st.own z ≠ -1))) := (HR5.out.tk.2 z hplc).1
                            have m5 : W5.drew.frozen? ⟨tb, z, none⟩ = false := (HR5.out.tk.2 z hplc).2
                            have HR6 := Lib.hid (HR5.out.drew.setTaken (i := q) hplc)
                            have HK6 := Lib.hid ((HK5.out.trans (Keep.drew W5)).trans (Keep.setCell (G := fun x => x = pb ∨ w2.heap.size ≤ x) W5.drew (p := ⟨tb, z, none⟩) (.inr hGB.out.2.2) (.bool true)))
                            have HX6 := Lib.hid (HX5.out.drew.far (p := ⟨tb, z, none⟩) HEN.out.2.2.1 (.bool true))
                            clear HR5 HK5 HX5
                            refine region_tail 12 (by kernel_rfl) (by kernel_rfl) ?_
                            simp only [List.take_succ_cons, List.take_zero, List.drop_succ_cons, List.drop_zero]
                            iterate 12 still_step
                            refine still_tail_nil ?_
                            generalize W5.drew = W6 at *
                            go_upto_region 33 with fail
                            clear m1 m2 m3 m4 m5
                            generalize W6.setCell ⟨tb, z, none⟩ (.bool true) = W7 at *
                            have m1 : W7.drew.cell? ⟨gn, q, none⟩ = some (.int .i64 (t : Nat)) := by have := (HR6.out.nx.2 q hqn).1; simp only [hqt] at this; exact this
                            have m2 : W7.drew.cell? ⟨gr, q, none⟩ = some (.slice (some ⟨rb q, 0, none⟩) P.m (rc q)) := (HR6.out.rows.2 q hqn).1
                            have m3 : W7.drew.cell? ⟨rb q, t, none⟩ = some (.int .i64 (z : Nat)) := by have := ((HR6.out.inn q hqn).2 t htm).1; simp only [HZL.out] at this; exact this
                            have m4 : W7.drew.cell? ⟨pb, z, none⟩ = some (.string (atN ns P.m st.own (z : Int))) := (HR6.out.pl.2 z hplc).1
                            have m5 : W7.drew.frozen? ⟨pb, z, none⟩ = false := (HR6.out.pl.2 z hplc).2
                            have m6 : W7.drew.cell? ⟨eb, 0, none⟩ = some (.string N) := by rw [HX6.out.drew.cell]; rfl
                            have HR7 := Lib.hid (HR6.out.drew.setPlace hplc hnsl)
                            rw [HNQ.out] at HR7
                            have HK7 := Lib.hid ((HK6.out.trans (Keep.drew W7)).trans (Keep.setCell (G := fun x => x = pb ∨ w2.heap.size ≤ x) W7.drew (p := ⟨pb, z, none⟩) (.inl rfl) (.string N)))
                            clear HR6 HK6 HX6
                            refine region_tail 14 (by kernel_rfl) (by kernel_rfl) ?_
                            simp only [List.take_succ_cons, List.take_zero, List.drop_succ_cons, List.drop_zero]
                            iterate 14 still_step
                            refine still_tail_nil ?_
                            generalize W7.drew = W8 at *
                            have hw5 := wrapI ((st.cnt : Int) + 1) (by omega) (by omega)
                            go_wp2_with fail
                            go_roundw
                            case rel =>
                              obtain ⟨x1, x2, x3, x4, x5⟩ := HE.out
                              rw [HZL.out] at x3
                              rw [← x3, ← x4, x5] at HR7
                              refine ⟨q + 1, st', st'.ow, hlt2, x1, by omega, by omega, fun _ => rfl, ?_, by rw [x2]; go_num, by go_num, HR7, HK7⟩
                              rw [← x5]; exact HOB2.out _
                            case measure => simp [intOf]; omega
                          · have hov := HF4.out t ht1 (by omega)
                            rw [show decide (st.own (P.pl q t) ≠ -1) = true by simp [hov]] at n4
                            have hct : ((t + 1 : Nat) : Int) = (t : Int) + 1 := by omega
                            have hw4 := wrapI ((t : Int) + 1) (by omega) (by omega)
                            have n5 : wr.frozen? ⟨gn, q, none⟩ = false := (HR.out.nx.2 q hqn).2
                            have HR6 := Lib.hid (fun nq => ((HR.out.drewN nq).setNext hqn (t + 1)))
                            rw [setN_twice, hct] at HR6
                            have HK6 := Lib.hid (fun nq => (HK.out.trans (Keep.drewN wr nq)).trans (Keep.setCell (G := fun x => x = pb ∨ w2.heap.size ≤ x) (wr.drewN nq) (p := ⟨gn, q, none⟩) (.inr hGB.out.2.1) (.int .i64 ((t : Int) + 1))))
                            have HX6 : Hid (∀ nq, Row ((wr.drewN nq).setCell ⟨gn, q, none⟩ (.int .i64 ((t : Int) + 1))) eb 44 #[.string N, .int .i64 (P.W q : Nat)]) := fun nq => Row.far (w := wr.drewN nq) HX.out (p := ⟨gn, q, none⟩) HEN.out.2.1 _
                            have HNY : Hid (∀ nq, nextOf ((wr.drewN nq).setCell ⟨gn, q, none⟩ (.int .i64 ((t : Int) + 1))) gn q = t + 1) := fun nq => nextOf_is (by have := ((HR6.out nq).nx.2 q hqn).1; simpa only [setN_same] using this)
                            clear HR HK HX hov HF3 HTK
                            generalize P.pl q t = z at *
                            go_wp2_with fail
                            go_quiet (fail)
                            go_wp2_with fail
                            go_roundw
                            case rel => exact ⟨t + 1, by omega, by omega, HR6.out nq, HK6.out nq, HX6.out nq⟩
                            case measure =>
                              rw [HNX.out, HNY.out nq]
                              omega
                  · obtain rfl : q = all.length := by omega
                    have hne2 : ¬ (all.length : Int) < all.length := by omega
                    have hr : r * P.n + P.n = (r + 1) * P.n := by rw [Nat.add_mul, Nat.one_mul]
                    have HS9 : Hid (st = P.run ((r + 1) * P.n)) := by show _ = _; rw [← hr, hPn]; rw [hPn] at HST; exact HST.out
                    have HM9 : Hid (st0.cnt < st.cnt) := by
                      show st0.cnt < _
                      by_cases e : st.cnt < P.m
                      · rw [HSE.out, HS9.out, ← hr]
                        exact HMORE.out (by rw [hr, ← HS9.out]; exact e)
                      · omega
                    clear hr HMORE
                    go_wp2_with fail
                    go_roundw
                    case rel => exact ⟨r + 1, ow, by rw [← HS9.out]; exact HOW, by rw [← HS9.out], by rw [← HS9.out]; exact HR3, HK⟩
                    case measure =>
                      have m1 := HM9.out
                      simp only [intOf, Int.toNat_natCast]
                      omega
              · have HSE : Hid ((P.run (r * P.n)).cnt = P.m) := by show _ = _; omega
                have HS0 : Hid (∃ st0, st0 = P.run (r * P.n)) := ⟨_, rfl⟩
                obtain ⟨st0, hst0⟩ := HS0.out
                rw [← hst0] at hlt ⊢
                have hlz : ¬ ((st0.cnt : Nat) : Int) < P.m := by omega
                clear HS0 hst0 hlt hle hI0 HOW
                go_wp2_with fail
                go_ret
                have hA : Assigned k all P.m (P.run (r * P.n)).own := .inr ⟨hn0, r * P.n, by rw [← HPE.out]; exact HSE.out, by rw [← HPE.out]⟩
                refine ⟨some ⟨pb, 0, none⟩, cp, rfl, (P.run (r * P.n)).own, by rw [HALL.out]; exact hA, ?_, ?_⟩
                · have h1 := HR3.out.pl
                  rw [← HNS.out] at h1
                  rw [HALL.out]
                  exact placesL_at HPB.out.1 h1
                · exact (HB.out.trans (HB2.out.mono HB.out.size)).trans (HK.out.bel (fun x hx => hx.elim (fun e => by rw [e]; exact HPB.out.2.1) (fun e => Nat.le_trans (Nat.le_trans HB.out.size HB2.out.size) e)) (Nat.le_trans HB.out.size HB2.out.size))
end Go.Proofs.YtlcpkplipfcdaaaDoor
