/- The law RotorPlays. -/
import Derived.Test.YtcmjcpgfnkhnoaaRpI
namespace Go.Proofs.Ytcmjcpgfnkhnoaa
open Go.RowKit Go.Maps

theorem do9 (k : Bool) (rb : Nat) (v : Option Nat) (n : Nat) (hn : n ≤ 1000000) (xa : Option Addr) (xc : Nat) (x : List Ent) (hxl : x.length ≤ 50000) (M : Int) (hM0 : 0 ≤ M) (hM1 : M ≤ 100000000000) (hM : ∀ s, -M ≤ ofL x s ∧ ofL x s ≤ M) (la : Option Addr) (lc : Nat) (l : List Ent) (hfl : l.length ≤ 9223372036854775807) (w : World) (hS : ActS w rb v n xa xc x) (hl : IsEnts w la lc l) :
    Calls Try.prog 9 #[.pointer (some ⟨rb, 0, none⟩), .slice xa x.length xc, .agg #[.bool k, .slice la l.length lc]] w (ActPost w rb v n x M) := by
  cases k
  · exact do9_pick rb v n hn xa xc x hxl M hM0 hM1 hM la lc l hfl w hS hl
  · exact do9_keep rb v n xa xc x hxl M hM0 hM la lc l hfl w hS hl
/-- An act that is handed in. -/
structure AD where
  k : Bool
  la : Option Addr
  lc : Nat
  l : List Ent
/-- A slice of acts in memory. -/
def IsActs (w : World) (a : Option Addr) (c : Nat) (ats : List AD) : Prop :=
  ats = [] ∨ ∃ bk o, a = some ⟨bk, o, none⟩ ∧ bk < w.heap.size ∧ ats.length ≤ c ∧ ∀ (j : Nat) e, ats[j]? = some e → w.cell? ⟨bk, o + j * 2, none⟩ = some (.bool e.k) ∧ w.cell? ⟨bk, o + j * 2 + 1, none⟩ = some (.slice e.la e.l.length e.lc) ∧ IsEnts w e.la e.lc e.l ∧ e.l.length ≤ maxLen
theorem IsActs.below {w w' : World} {a : Option Addr} {c : Nat} {ats : List AD} (h : IsActs w a c ats) (hb : Below w.heap.size w w') : IsActs w' a c ats := by
  obtain h | ⟨bk, o, ha, hlt, hc, hcell⟩ := h
  · exact .inl h
  · refine .inr ⟨bk, o, ha, Nat.lt_of_lt_of_le hlt hb.size, hc, fun j e he => ?_⟩
    obtain ⟨c1, c2, c3, c4⟩ := hcell j e he
    exact ⟨by rw [(bcell hb).1 _ _ hlt]; exact c1, by rw [(bcell hb).1 _ _ hlt]; exact c2, c3.below hb, c4⟩
/-- What holds while a drawn region runs. -/
structure PlB (w0 : World) (L : Nat → Bool) (x : Nat → Value) (w : World) : Prop where
  bel : Below w0.heap.size w0 w
/-- Between two rounds of the law's first loop: B is where the law's own blocks begin. -/
structure RunS (w : World) (B rb : Nat) (v : Option Nat) (t : Nat) (xa : Option Addr) (xc : Nat) (x : List Ent) (wr : World) : Prop where
  act : ActS wr rb v (10 * t) xa xc x
  len : x.length ≤ 10 * t
  abs : ∀ s, -(600000 * (t : Int)) ≤ ofL x s ∧ ofL x s ≤ 600000 * (t : Int)
  bel : Below B w wr
  flo : Floor (RG rb v) B
theorem RunS.below {w wr w' : World} {B rb t xc : Nat} {v : Option Nat} {xa : Option Addr} {x : List Ent} (h : RunS w B rb v t xa xc x wr) (hB : B ≤ w.heap.size) (hb : Below wr.heap.size wr w') : RunS w B rb v t xa xc x w' :=
  ⟨h.act.below hb, h.len, h.abs, h.bel.trans (hb.mono (Nat.le_trans hB h.bel.size)), h.flo⟩
theorem RunS.next {w wr w' : World} {B rb t xc xc' : Nat} {v v' : Option Nat} {xa xa' : Option Addr} {x x' : List Ent} (h : RunS w B rb v t xa xc x wr) (hB : B ≤ w.heap.size) (hA : ActS w' rb v' (10 * t + 10) xa' xc' x') (hk : Keep (RG rb v) wr w') (hf : Fresh wr v v') (hl : x'.length ≤ x.length + 10) (hb : ∀ s, -(600000 * (t : Int) + 600000) ≤ ofL x' s ∧ ofL x' s ≤ 600000 * (t : Int) + 600000) : RunS w B rb v' (t + 1) xa' xc' x' w' := by
  refine ⟨hA, by have := h.len; omega, fun s => by have := hb s; omega, h.bel.trans (hk.bel h.flo (Nat.le_trans hB h.bel.size)), ?_⟩
  rintro k (rfl | hk2)
  · exact h.flo _ (.inl rfl)
  · rcases hf with rfl | ⟨b, hb2, hle⟩
    · exact h.flo _ (.inr hk2)
    · rw [hb2] at hk2
      injection hk2 with hk2
      have h1 := h.bel.size
      omega
set_option maxHeartbeats 8000000 in
set_option maxRecDepth 100000 in
theorem lawRotorPlays (a : Option Addr) (c : Nat) (ats : List AD) (hal : ats.length ≤ 9223372036854775807) (a2 : Option Addr) (c2 : Nat) (bs : List AD) (hbl : bs.length ≤ 9223372036854775807) (W : World) (hA : IsActs W a c ats) (hB : IsActs W a2 c2 bs) :
    Calls Try.prog 3 #[.slice a ats.length c, .slice a2 bs.length c2] W fun e w' => e = .returned (.bool true) ∧ Below W.heap.size W w' := by
  have HA := Lib.hid hA
  have HB := Lib.hid hB
  clear hA hB
  go_enter Try.func3, Try.ntmps3
  go_wp2_with fail
  refine (awake7 _).mono ?_
  rintro e w1 ⟨rfl, hb1⟩
  have HB1 := Lib.hid hb1
  clear hb1
  go_wp2_with fail
  refine (new8 _).mono ?_
  rintro e w2 ⟨rfl, hr2, hb2⟩
  obtain ⟨rb, hrb⟩ : ∃ rb, rb = w1.heap.size := ⟨_, rfl⟩
  rw [← hrb] at hr2 ⊢
  have hrun : RunS W W.heap.size rb none 0 none 0 [] w2 := by
    have h1 := HB1.out.size
    refine ⟨⟨hr2, List.Pairwise.nil, .inl rfl, (fun p hp => by cases hp), (fun p hp => by cases hp), (fun e he => by cases he)⟩, Nat.zero_le _, (fun s => by simp [ofL]), HB1.out.trans (hb2.mono h1), ?_⟩
    rintro k (h | h)
    · omega
    · cases h
  have HRUN := Lib.hid hrun
  clear hrun hr2 hb2 HB1 hrb
  go_wp2_with fail
  go_loopw [6, 8] (fun x i wr => ∃ (t : Nat) (v : Option Nat) (xa : Option Addr) (xc : Nat) (y : List Ent), t ≤ 30 ∧ t ≤ ats.length ∧ i = .int .i64 (t : Int) ∧ x = .slice xa y.length xc ∧ Hid (RunS W W.heap.size rb v t xa xc y wr)) (fun _ i _ => ats.length - (intOf i).toNat)
  case atStart => exact ⟨0, none, none, 0, [], by omega, Nat.zero_le _, rfl, rfl, HRUN⟩
  case round =>
    obtain ⟨t, v, xa, xc, y, ht, hta, rfl, rfl, hrun⟩ := hrel
    by_cases hlt : t < ats.length
    · have j1 : (t : Int) < ats.length := by omega
      by_cases hl3 : t < 30
      · have j2 : (t : Int) < 30 := by omega
        obtain h0 | ⟨bk, o, rfl, hbk, hc, hcell⟩ := HA.out.below hrun.out.bel
        · subst h0; simp at hlt
        obtain ⟨c1, c3, c4, c5⟩ := hcell t ats[t] (by simp [hlt])
        obtain ⟨D, hD⟩ : ∃ D, D = ats[t] := ⟨_, rfl⟩
        rw [← hD] at c1 c3 c4 c5
        clear hcell hD
        obtain ⟨k, la, lc, l⟩ := D
        simp only at c1 c3 c4 c5
        have hl5 : l.length ≤ 9223372036854775807 := by unfold maxLen at c5; omega
        have HC4 := Lib.hid c4
        have hyl := hrun.out.len
        have hdo := Lib.hid (do9 k rb v (10 * t) (by omega) xa xc y (by omega) (600000 * (t : Int)) (by omega) (by omega) hrun.out.abs la lc l hl5 wr hrun.out.act c4)
        clear c4 c5
        go_wp2_with fail
        refine hdo.out.mono ?_
        rintro e w3 ⟨xa', xc', x', v', rfl, hact, hk, hf, hlen, habs⟩
        clear hdo
        have HR3 : Hid (RunS W W.heap.size rb v' (t + 1) xa' xc' x' w3) := hrun.out.next (Nat.le_refl _) hact hk hf hlen habs
        clear hrun hact hk hf hlen habs c1 c3 HC4 hyl hl5 hbk
        obtain h0 | ⟨bk', o', hoe, hbk, _, hcell⟩ := HA.out.below HR3.out.bel
        · subst h0; simp at hlt
        cases hoe
        obtain ⟨c1, c3, c4, c5⟩ := hcell t ats[t] (by simp [hlt])
        obtain ⟨D, hD⟩ : ∃ D, D = ats[t] := ⟨_, rfl⟩
        rw [← hD] at c1 c3 c4 c5
        clear hcell hD
        obtain ⟨k2, la2, lc2, l2⟩ := D
        simp only at c1 c3 c4 c5
        have hl5 : l2.length ≤ 9223372036854775807 := by unfold maxLen at c5; omega
        have HC4 := Lib.hid c4
        clear c4 c5
        go_wp2_with fail
        refine (few10 la2 lc2 l2 8 (by omega) hl5 _ HC4.out).mono ?_
        rintro e w4 ⟨u, rfl, ho4, hb4⟩
        obtain ⟨fa, fc, rfl⟩ := own_slice ho4
        obtain ⟨_, hie4, _⟩ := isEnts_own ho4
        have HIE4 := Lib.hid hie4
        have HR4 := Lib.hid (HR3.out.below (Nat.le_refl _) hb4)
        have HSZ : Hid (∀ e ∈ fewE l2 8, e.1.size ≤ 12) := fun e he => fewE_size he
        have hl8 := fewE_len l2 8
        clear ho4 hie4 hb4 HR3 HC4 c1 c3 hbk
        generalize fewE l2 8 = F at *
        go_wp2_with fail
        obtain ⟨wv, rfl⟩ : ∃ wv, wv = w4 := ⟨w4, rfl⟩
        go_loopw [52] (fun i wr => ∃ j : Nat, j ≤ F.length ∧ i = .int .i64 (j : Int) ∧ Hid (Below wv.heap.size wv wr)) (fun i _ => F.length - (intOf i).toNat)
        case atStart => exact ⟨0, Nat.zero_le _, rfl, Below.refl _ _⟩
        case round =>
          obtain ⟨j, hj, rfl, hbj⟩ := hrel
          by_cases hjl : j < F.length
          · have k1 : (j : Int) < F.length := by omega
            obtain h0 | ⟨bf, of, rfl, hbf, _, hcell⟩ := HIE4.out.below hbj.out
            · subst h0; simp at hjl
            obtain ⟨c1, c3⟩ := hcell j F[j] (by simp [hjl])
            have hsz := HSZ.out F[j] (List.getElem_mem hjl)
            obtain ⟨D, hD⟩ : ∃ D, D = F[j] := ⟨_, rfl⟩
            rw [← hD] at c1 c3 hsz
            clear hcell hD
            obtain ⟨N, V⟩ := D
            simp only at c1 c3 hsz
            have hsm : N.size ≤ maxLen := by unfold maxLen; omega
            have HR5 := Lib.hid (HR4.out.below (Nat.le_refl _) hbj.out)
            go_wp2_with fail
            obtain ⟨R, hR⟩ : ∃ R, R = wr.heap.size := ⟨_, rfl⟩
            have HRA := Lib.hid (Row.new wr 34 #[.string N, .int .i64 V])
            have HR6 := Lib.hid (HR5.out.below (Nat.le_refl _) (below_alloc wr (.cells #[.string N, .int .i64 V] 34)))
            have HB6 := Lib.hid (hbj.out.alloc hbj.out.size (.cells #[.string N, .int .i64 V] 34))
            have hsz2 : (wr.alloc (.cells #[.string N, .int .i64 V] 34)).heap.size = wr.heap.size + 1 := World.size_alloc _ _
            rw [← hR] at HRA hsz2 ⊢
            obtain ⟨W1, hW1⟩ : ∃ W1, W1 = (wr.alloc (.cells #[.string N, .int .i64 V] 34)).drew := ⟨_, rfl⟩
            have HB7 : Hid (Below wv.heap.size wv W1) := by rw [hW1]; exact HB6.out.drew
            have HR7 : Hid (RunS W W.heap.size rb v' (t + 1) xa' xc' x' W1) := by rw [hW1]; exact HR6.out.below (Nat.le_refl _) (Below.refl _ _).drew
            have HRW : Hid (Row W1 R 34 #[.string N, .int .i64 V]) := by rw [hW1]; exact HRA.out
            have hs1 : W1.heap.size = R + 1 := by rw [hW1]; exact hsz2
            have HWW := Lib.hid hW1
            obtain ⟨P, hP⟩ : ∃ P, P = ofL x' N := ⟨_, rfl⟩
            have HP := Lib.hid hP
            have hxl := HR7.out.len
            clear hsz2 hW1 hP HRA HR6 HB6 HR5 hbj c1 c3 hR hbf
            refine region_mixt 9 [some (.pointer (some ⟨rb, 0, none⟩)), some (.pointer (some ⟨R, 0, none⟩)), some (.string N), some (.int .i64 P), some ((.slice xa' x'.length xc')), some (.pointer (some ⟨R, 0, none⟩)), some (.string N), some (.int .i64 P), some (.bool false)]
              [[false, false, false, false, false, false, false, false, false], [false, false, false, false, false, false, false, false, false], [false, true, false, false, false, false, false, false, false], [true, false, true, false, false, false, false, false, false], [false, false, false, false, false, false, false, false, false], [false, false, false, false, false, false, false, false, false], [false, false, false, false, false, true, false, false, false], [false, false, false, true, true, false, true, false, false], [false, false, false, true, false, false, false, true, false]]
              (fun LL x w1 => PlB W1 LL x w1)
              (by kernel_rfl) (by kernel_rfl) (by kernel_rfl) (by kernel_rfl) (by kernel_rfl) (by decide) ?_ ?_ ?_
            · intro _
              exact HWW.out ▸ ⟨Below.refl _ _⟩
            · simp only [List.take_succ_cons, List.take_zero]
              refine ⟨?_, ?_, ?_, ?_, ?_, ?_, ?_, ?_, ?_, trivial⟩
              all_goals
                intro LL x w9 hS hl9 hp K hK
                have hs9 : PlB W1 LL x w9 := hS
                clear hS hp
                have r1 : w9.cell? ⟨R, 0, none⟩ = some (.string N) := by rw [(bcell hs9.bel).1 _ _ (by omega)]; exact HRW.out.cell 0
                replace hK := hK.out
                simp only [actMix, pickV, List.tail_cons, List.headD_cons, Act.put, List.setIfInBounds_toArray, List.set_cons_zero, List.set_cons_succ] at hK ⊢
              iterate 3
                · go_simp
                  with_reducible refine hK _ ?_
                  exact ⟨hs9.bel⟩
              · have hmk := mark11 rb _ v' (ofL x') N hsm w9 (HR7.out.act.rot.below hs9.bel)
                rw [← HP.out] at hmk
                go_simp
                refine hmk.mono ?_
                rintro e w' ⟨rfl, rfl⟩
                with_reducible refine hK _ ?_
                exact ⟨hs9.bel⟩
              iterate 3
                · go_simp
                  with_reducible refine hK _ ?_
                  exact ⟨hs9.bel⟩
              · have hof := of12 xa' xc' x' (by omega) N w9 (HR7.out.act.ents.below hs9.bel)
                rw [← HP.out] at hof
                go_simp
                refine hof.mono ?_
                rintro e w' ⟨rfl, hbo⟩
                with_reducible refine hK _ ?_
                exact ⟨hs9.bel.trans (hbo.mono hs9.bel.size)⟩
              · go_simp
                with_reducible refine hK _ ?_
                exact ⟨hs9.bel⟩
            · intro LL x w9 hS hall
              have hs9 : PlB W1 LL x w9 := hS
              have HB9 := Lib.hid (HB7.out.trans (hs9.bel.mono HB7.out.size))
              clear hS hs9 hall
              simp only [actMix, pickV, List.tail_cons, List.headD_cons, Act.put, List.setIfInBounds_toArray, List.set_cons_zero, List.set_cons_succ, List.replicate_succ, List.replicate_zero, List.drop_succ_cons, List.drop_zero, List.take_succ_cons, List.take_zero]
              go_wp2_with fail
              go_roundw
              case rel => exact ⟨j + 1, hjl, by go_num, HB9⟩
              case measure => simp [intOf]; omega
          · obtain rfl : j = F.length := by omega
            have k1 : ¬ ((F.length : Int) < F.length) := by omega
            have HR5 := Lib.hid (HR4.out.below (Nat.le_refl _) hbj.out)
            clear hbj HR4 HIE4 HSZ
            go_wp2_with fail
            go_roundw
            case rel => exact ⟨t + 1, v', xa', xc', x', by omega, by omega, by go_num, rfl, HR5⟩
            case measure => simp [intOf]; omega
      · have j2 : ¬ (t : Int) < 30 := by omega
        go_wp2_with fail
        refine (pclone13 rb v _ (ofL y) _ hrun.out.act.rot).mono ?_
        rintro e w3 ⟨cb, vc, rfl, hcb, hvc, hrc, hb3⟩
        have hrs0 : RunS wr wr.heap.size cb vc (t + 0) xa xc y w3 := by
          refine ⟨⟨hrc, hrun.out.act.ap, hrun.out.act.ents.below hb3, ?_, fun p hp => Nat.lt_of_lt_of_le (hrun.out.act.lt p hp) hb3.size, hrun.out.act.sz⟩, hrun.out.len, hrun.out.abs, hb3, ?_⟩
          · rintro p hp (h | h)
            · have := hrun.out.act.lt p hp; omega
            · have := hrun.out.act.lt p hp; have := hvc _ h; omega
          · rintro k (h | h)
            · omega
            · exact hvc _ h
        have HRS0 := Lib.hid hrs0
        have HRX := hrun
        have hyl4 := hrun.out.len
        clear hrs0 hrc hcb hvc hb3 hrun
        obtain ⟨wv, rfl⟩ : ∃ wv, wv = wr := ⟨wr, rfl⟩
        go_wp2_with fail
        go_loopw [12, 13] (fun x i wr => ∃ (s : Nat) (v2 : Option Nat) (ya : Option Addr) (yc : Nat) (z : List Ent), s ≤ 10 ∧ s ≤ bs.length ∧ i = .int .i64 (s : Int) ∧ x = .slice ya z.length yc ∧ Hid (RunS wv wv.heap.size cb v2 (t + s) ya yc z wr)) (fun _ i _ => bs.length - (intOf i).toNat)
        case atStart => exact ⟨0, vc, xa, xc, y, by omega, Nat.zero_le _, rfl, rfl, HRS0⟩
        case round =>
          obtain ⟨s, v2, ya, yc, z, hs, hsb, rfl, rfl, hrs⟩ := hrel
          clear HRS0
          by_cases hlt2 : s < bs.length
          · have k1 : (s : Int) < bs.length := by omega
            by_cases hl2 : s < 10
            · have k2 : (s : Int) < 10 := by omega
              obtain h0 | ⟨bk3, o3, hoe, hbk, hc, hcell⟩ := HB.out.below (HRX.out.bel.trans (hrs.out.bel.mono HRX.out.bel.size))
              · subst h0; simp at hlt2
              subst hoe
              obtain ⟨c1, c3, c4, c5⟩ := hcell s bs[s] (by simp [hlt2])
              obtain ⟨D, hD⟩ : ∃ D, D = bs[s] := ⟨_, rfl⟩
              rw [← hD] at c1 c3 c4 c5
              clear hcell hD
              obtain ⟨k, la, lc, l⟩ := D
              simp only at c1 c3 c4 c5
              have hl5 : l.length ≤ 9223372036854775807 := by unfold maxLen at c5; omega
              have hyl := hrs.out.len
              have hdo := Lib.hid (do9 k cb v2 (10 * (t + s)) (by omega) ya yc z (by omega) (600000 * ((t + s : Nat) : Int)) (by omega) (by omega) hrs.out.abs la lc l hl5 wr hrs.out.act c4)
              clear c4 c5
              go_wp2_with fail
              refine hdo.out.mono ?_
              rintro e w5 ⟨ya', yc', z', v3, rfl, hact, hk, hf, hlen, habs⟩
              clear hdo
              have HR3 : Hid (RunS wv wv.heap.size cb v3 (t + s + 1) ya' yc' z' w5) := hrs.out.next (Nat.le_refl _) hact hk hf hlen habs
              clear hrs hact hk hf hlen habs c1 c3 hyl hl5 hbk
              go_wp2_with fail
              go_roundw
              case rel => exact ⟨s + 1, v3, ya', yc', z', by omega, by omega, by go_num, rfl, HR3⟩
              case measure => simp [intOf]; omega
            · have k2 : ¬ (s : Int) < 10 := by omega
              have HRY := Lib.hid (HRX.out.act.below (hrs.out.bel))
              have HCZ := Lib.hid (hrs.out.act)
              have HBQ : Hid (Below W.heap.size W wr) := HRX.out.bel.trans (hrs.out.bel.mono HRX.out.bel.size)
              have hzl4 := hrs.out.len
              clear hrs HRX
              obtain ⟨wq, rfl⟩ : ∃ wq, wq = wr := ⟨wr, rfl⟩
              go_wp2_with fail
              go_loopw [95] (fun i wr => ∃ j : Nat, j ≤ y.length ∧ i = .int .i64 (j : Int) ∧ Hid (Below wq.heap.size wq wr)) (fun i _ => y.length - (intOf i).toNat)
              case atStart => exact ⟨0, Nat.zero_le _, rfl, Below.refl _ _⟩
              case round =>
                obtain ⟨j, hj, rfl, hbj⟩ := hrel
                by_cases hjl : j < y.length
                · have k1 : (j : Int) < y.length := by omega
                  obtain h0 | ⟨bf, of, hoe, hbf, _, hcell⟩ := (HRY.out.ents).below hbj.out
                  · subst h0; simp at hjl
                  subst hoe
                  obtain ⟨c1, c3⟩ := hcell j y[j] (by simp [hjl])
                  have hsz := HRY.out.sz y[j] (List.getElem_mem hjl)
                  have hof := ofL_mem HRY.out.ap y[j] (List.getElem_mem hjl)
                  obtain ⟨D, hD⟩ : ∃ D, D = y[j] := ⟨_, rfl⟩
                  rw [← hD] at c1 c3 hsz hof
                  clear hcell hD
                  obtain ⟨N, V⟩ := D
                  simp only at c1 c3 hsz hof
                  have hsm : N.size ≤ maxLen := by unfold maxLen; omega
                  have HOF := Lib.hid hof
                  have HRT := Lib.hid (HRY.out.rot.below hbj.out)
                  clear hof hsz
                  go_wp2_with fail
                  obtain ⟨R, hR⟩ : ∃ R, R = wr.heap.size := ⟨_, rfl⟩
                  have HRA := Lib.hid (Row.new wr 38 #[.string N, .int .i64 V])
                  have HR6 := Lib.hid (HRT.out.below (below_alloc wr (.cells #[.string N, .int .i64 V] 38)))
                  have HB6 := Lib.hid (hbj.out.alloc hbj.out.size (.cells #[.string N, .int .i64 V] 38))
                  have hsz2 : (wr.alloc (.cells #[.string N, .int .i64 V] 38)).heap.size = wr.heap.size + 1 := World.size_alloc _ _
                  rw [← hR] at HRA hsz2 ⊢
                  obtain ⟨W1, hW1⟩ : ∃ W1, W1 = (wr.alloc (.cells #[.string N, .int .i64 V] 38)).drew := ⟨_, rfl⟩
                  have HB7 : Hid (Below wq.heap.size wq W1) := by rw [hW1]; exact HB6.out.drew
                  have HR7 : Hid (Rot W1 rb v (10 * t) (ofL y)) := by rw [hW1]; exact HR6.out.below (Below.refl _ _).drew
                  have HRW : Hid (Row W1 R 38 #[.string N, .int .i64 V]) := by rw [hW1]; exact HRA.out
                  have hs1 : W1.heap.size = R + 1 := by rw [hW1]; exact hsz2
                  have HWW := Lib.hid hW1
                  clear hsz2 hW1 HRA HR6 HB6 HRT hbj c1 c3 hR hbf
                  refine region_mixt 7 [some (.pointer (some ⟨rb, 0, none⟩)), some (.pointer (some ⟨R, 0, none⟩)), some (.string N), some (.int .i64 V), some (.pointer (some ⟨R, 1, none⟩)), some (.int .i64 V), some (.bool false)]
                    [[false, false, false, false, false, false, false], [false, false, false, false, false, false, false], [false, true, false, false, false, false, false], [true, false, true, false, false, false, false], [false, false, false, false, false, false, false], [false, false, false, false, true, false, false], [false, false, false, true, false, true, false]]
                    (fun LL x w1 => PlB W1 LL x w1)
                    (by kernel_rfl) (by kernel_rfl) (by kernel_rfl) (by kernel_rfl) (by kernel_rfl) (by decide) ?_ ?_ ?_
                  · intro _
                    exact HWW.out ▸ ⟨Below.refl _ _⟩
                  · simp only [List.take_succ_cons, List.take_zero]
                    refine ⟨?_, ?_, ?_, ?_, ?_, ?_, ?_, trivial⟩
                    all_goals
                      intro LL x9 w9 hS hl9 hp K hK
                      have hs9 : PlB W1 LL x9 w9 := hS
                      clear hS hp
                      have r1 : w9.cell? ⟨R, 0, none⟩ = some (.string N) := by rw [(bcell hs9.bel).1 _ _ (by omega)]; exact HRW.out.cell 0
                      have r2 : w9.cell? ⟨R, 1, none⟩ = some (.int .i64 V) := by rw [(bcell hs9.bel).1 _ _ (by omega)]; exact HRW.out.cell 1
                      replace hK := hK.out
                      simp only [actMix, pickV, List.tail_cons, List.headD_cons, Act.put, List.setIfInBounds_toArray, List.set_cons_zero, List.set_cons_succ] at hK ⊢
                    iterate 3
                      · go_simp
                        with_reducible refine hK _ ?_
                        exact ⟨hs9.bel⟩
                    · have hmk := mark11 rb _ v (ofL y) N hsm w9 (HR7.out.below hs9.bel)
                      rw [HOF.out] at hmk
                      go_simp
                      refine hmk.mono ?_
                      rintro e w' ⟨rfl, rfl⟩
                      with_reducible refine hK _ ?_
                      exact ⟨hs9.bel⟩
                    iterate 3
                      · go_simp
                        with_reducible refine hK _ ?_
                        exact ⟨hs9.bel⟩
                  · intro LL x9 w9 hS hall
                    have hs9 : PlB W1 LL x9 w9 := hS
                    have HB9 := Lib.hid (HB7.out.trans (hs9.bel.mono HB7.out.size))
                    clear hS hs9 hall
                    simp only [actMix, pickV, List.tail_cons, List.headD_cons, Act.put, List.setIfInBounds_toArray, List.set_cons_zero, List.set_cons_succ, List.replicate_succ, List.replicate_zero, List.drop_succ_cons, List.drop_zero, List.take_succ_cons, List.take_zero]
                    go_wp2_with fail
                    go_roundw
                    case rel => exact ⟨j + 1, hjl, by go_num, HB9⟩
                    case measure => simp [intOf]; omega
                · obtain rfl : j = y.length := by omega
                  have k1 : ¬ ((y.length : Int) < y.length) := by omega
                  have HCZ2 := Lib.hid (HCZ.out.below hbj.out)
                  have HBQ2 := Lib.hid (HBQ.out.trans (hbj.out.mono HBQ.out.size))
                  clear hbj HCZ HBQ HRY k1
                  obtain ⟨wp, rfl⟩ : ∃ wp, wp = wr := ⟨wr, rfl⟩
                  go_wp2_with fail
                  go_loopw [109] (fun i wr => ∃ j : Nat, j ≤ z.length ∧ i = .int .i64 (j : Int) ∧ Hid (Below wp.heap.size wp wr)) (fun i _ => z.length - (intOf i).toNat)
                  case atStart => exact ⟨0, Nat.zero_le _, rfl, Below.refl _ _⟩
                  case round =>
                    obtain ⟨j, hj, rfl, hbj⟩ := hrel
                    by_cases hjl : j < z.length
                    · have k1 : (j : Int) < z.length := by omega
                      obtain h0 | ⟨bf, of, hoe, hbf, _, hcell⟩ := (HCZ2.out.ents).below hbj.out
                      · subst h0; simp at hjl
                      subst hoe
                      obtain ⟨c1, c3⟩ := hcell j z[j] (by simp [hjl])
                      have hsz := HCZ2.out.sz z[j] (List.getElem_mem hjl)
                      have hof := ofL_mem HCZ2.out.ap z[j] (List.getElem_mem hjl)
                      obtain ⟨D, hD⟩ : ∃ D, D = z[j] := ⟨_, rfl⟩
                      rw [← hD] at c1 c3 hsz hof
                      clear hcell hD
                      obtain ⟨N, V⟩ := D
                      simp only at c1 c3 hsz hof
                      have hsm : N.size ≤ maxLen := by unfold maxLen; omega
                      have HOF := Lib.hid hof
                      have HRT := Lib.hid (HCZ2.out.rot.below hbj.out)
                      clear hof hsz
                      go_wp2_with fail
                      obtain ⟨R, hR⟩ : ∃ R, R = wr.heap.size := ⟨_, rfl⟩
                      have HRA := Lib.hid (Row.new wr 38 #[.string N, .int .i64 V])
                      have HR6 := Lib.hid (HRT.out.below (below_alloc wr (.cells #[.string N, .int .i64 V] 38)))
                      have HB6 := Lib.hid (hbj.out.alloc hbj.out.size (.cells #[.string N, .int .i64 V] 38))
                      have hsz2 : (wr.alloc (.cells #[.string N, .int .i64 V] 38)).heap.size = wr.heap.size + 1 := World.size_alloc _ _
                      rw [← hR] at HRA hsz2 ⊢
                      obtain ⟨W1, hW1⟩ : ∃ W1, W1 = (wr.alloc (.cells #[.string N, .int .i64 V] 38)).drew := ⟨_, rfl⟩
                      have HB7 : Hid (Below wp.heap.size wp W1) := by rw [hW1]; exact HB6.out.drew
                      have HR7 : Hid (Rot W1 cb v2 (10 * (t + s)) (ofL z)) := by rw [hW1]; exact HR6.out.below (Below.refl _ _).drew
                      have HRW : Hid (Row W1 R 38 #[.string N, .int .i64 V]) := by rw [hW1]; exact HRA.out
                      have hs1 : W1.heap.size = R + 1 := by rw [hW1]; exact hsz2
                      have HWW := Lib.hid hW1
                      clear hsz2 hW1 HRA HR6 HB6 HRT hbj c1 c3 hR hbf
                      refine region_mixt 7 [some (.pointer (some ⟨cb, 0, none⟩)), some (.pointer (some ⟨R, 0, none⟩)), some (.string N), some (.int .i64 V), some (.pointer (some ⟨R, 1, none⟩)), some (.int .i64 V), some (.bool false)]
                        [[false, false, false, false, false, false, false], [false, false, false, false, false, false, false], [false, true, false, false, false, false, false], [true, false, true, false, false, false, false], [false, false, false, false, false, false, false], [false, false, false, false, true, false, false], [false, false, false, true, false, true, false]]
                        (fun LL x w1 => PlB W1 LL x w1)
                        (by kernel_rfl) (by kernel_rfl) (by kernel_rfl) (by kernel_rfl) (by kernel_rfl) (by decide) ?_ ?_ ?_
                      · intro _
                        exact HWW.out ▸ ⟨Below.refl _ _⟩
                      · simp only [List.take_succ_cons, List.take_zero]
                        refine ⟨?_, ?_, ?_, ?_, ?_, ?_, ?_, trivial⟩
                        all_goals
                          intro LL x9 w9 hS hl9 hp K hK
                          have hs9 : PlB W1 LL x9 w9 := hS
                          clear hS hp
                          have r1 : w9.cell? ⟨R, 0, none⟩ = some (.string N) := by rw [(bcell hs9.bel).1 _ _ (by omega)]; exact HRW.out.cell 0
                          have r2 : w9.cell? ⟨R, 1, none⟩ = some (.int .i64 V) := by rw [(bcell hs9.bel).1 _ _ (by omega)]; exact HRW.out.cell 1
                          replace hK := hK.out
                          simp only [actMix, pickV, List.tail_cons, List.headD_cons, Act.put, List.setIfInBounds_toArray, List.set_cons_zero, List.set_cons_succ] at hK ⊢
                        iterate 3
                          · go_simp
                            with_reducible refine hK _ ?_
                            exact ⟨hs9.bel⟩
                        · have hmk := mark11 cb _ v2 (ofL z) N hsm w9 (HR7.out.below hs9.bel)
                          rw [HOF.out] at hmk
                          go_simp
                          refine hmk.mono ?_
                          rintro e w' ⟨rfl, rfl⟩
                          with_reducible refine hK _ ?_
                          exact ⟨hs9.bel⟩
                        iterate 3
                          · go_simp
                            with_reducible refine hK _ ?_
                            exact ⟨hs9.bel⟩
                      · intro LL x9 w9 hS hall
                        have hs9 : PlB W1 LL x9 w9 := hS
                        have HB9 := Lib.hid (HB7.out.trans (hs9.bel.mono HB7.out.size))
                        clear hS hs9 hall
                        simp only [actMix, pickV, List.tail_cons, List.headD_cons, Act.put, List.setIfInBounds_toArray, List.set_cons_zero, List.set_cons_succ, List.replicate_succ, List.replicate_zero, List.drop_succ_cons, List.drop_zero, List.take_succ_cons, List.take_zero]
                        go_wp2_with fail
                        go_roundw
                        case rel => exact ⟨j + 1, hjl, by go_num, HB9⟩
                        case measure => simp [intOf]; omega
                    · obtain rfl : j = z.length := by omega
                      have k1 : ¬ ((z.length : Int) < z.length) := by omega
                      have HE := Lib.hid (HBQ2.out.trans (hbj.out.mono HBQ2.out.size))
                      clear hbj
                      go_wp2_with fail
                      go_ret
                      exact ⟨rfl, HE.out⟩
          · have k1 : ¬ (s : Int) < bs.length := by omega
            have HRY := Lib.hid (HRX.out.act.below (hrs.out.bel))
            have HCZ := Lib.hid (hrs.out.act)
            have HBQ : Hid (Below W.heap.size W wr) := HRX.out.bel.trans (hrs.out.bel.mono HRX.out.bel.size)
            have hzl4 := hrs.out.len
            clear hrs HRX
            obtain ⟨wq, rfl⟩ : ∃ wq, wq = wr := ⟨wr, rfl⟩
            go_wp2_with fail
            go_loopw [95] (fun i wr => ∃ j : Nat, j ≤ y.length ∧ i = .int .i64 (j : Int) ∧ Hid (Below wq.heap.size wq wr)) (fun i _ => y.length - (intOf i).toNat)
            case atStart => exact ⟨0, Nat.zero_le _, rfl, Below.refl _ _⟩
            case round =>
              obtain ⟨j, hj, rfl, hbj⟩ := hrel
              by_cases hjl : j < y.length
              · have k1 : (j : Int) < y.length := by omega
                obtain h0 | ⟨bf, of, hoe, hbf, _, hcell⟩ := (HRY.out.ents).below hbj.out
                · subst h0; simp at hjl
                subst hoe
                obtain ⟨c1, c3⟩ := hcell j y[j] (by simp [hjl])
                have hsz := HRY.out.sz y[j] (List.getElem_mem hjl)
                have hof := ofL_mem HRY.out.ap y[j] (List.getElem_mem hjl)
                obtain ⟨D, hD⟩ : ∃ D, D = y[j] := ⟨_, rfl⟩
                rw [← hD] at c1 c3 hsz hof
                clear hcell hD
                obtain ⟨N, V⟩ := D
                simp only at c1 c3 hsz hof
                have hsm : N.size ≤ maxLen := by unfold maxLen; omega
                have HOF := Lib.hid hof
                have HRT := Lib.hid (HRY.out.rot.below hbj.out)
                clear hof hsz
                go_wp2_with fail
                obtain ⟨R, hR⟩ : ∃ R, R = wr.heap.size := ⟨_, rfl⟩
                have HRA := Lib.hid (Row.new wr 38 #[.string N, .int .i64 V])
                have HR6 := Lib.hid (HRT.out.below (below_alloc wr (.cells #[.string N, .int .i64 V] 38)))
                have HB6 := Lib.hid (hbj.out.alloc hbj.out.size (.cells #[.string N, .int .i64 V] 38))
                have hsz2 : (wr.alloc (.cells #[.string N, .int .i64 V] 38)).heap.size = wr.heap.size + 1 := World.size_alloc _ _
                rw [← hR] at HRA hsz2 ⊢
                obtain ⟨W1, hW1⟩ : ∃ W1, W1 = (wr.alloc (.cells #[.string N, .int .i64 V] 38)).drew := ⟨_, rfl⟩
                have HB7 : Hid (Below wq.heap.size wq W1) := by rw [hW1]; exact HB6.out.drew
                have HR7 : Hid (Rot W1 rb v (10 * t) (ofL y)) := by rw [hW1]; exact HR6.out.below (Below.refl _ _).drew
                have HRW : Hid (Row W1 R 38 #[.string N, .int .i64 V]) := by rw [hW1]; exact HRA.out
                have hs1 : W1.heap.size = R + 1 := by rw [hW1]; exact hsz2
                have HWW := Lib.hid hW1
                clear hsz2 hW1 HRA HR6 HB6 HRT hbj c1 c3 hR hbf
                refine region_mixt 7 [some (.pointer (some ⟨rb, 0, none⟩)), some (.pointer (some ⟨R, 0, none⟩)), some (.string N), some (.int .i64 V), some (.pointer (some ⟨R, 1, none⟩)), some (.int .i64 V), some (.bool false)]
                  [[false, false, false, false, false, false, false], [false, false, false, false, false, false, false], [false, true, false, false, false, false, false], [true, false, true, false, false, false, false], [false, false, false, false, false, false, false], [false, false, false, false, true, false, false], [false, false, false, true, false, true, false]]
                  (fun LL x w1 => PlB W1 LL x w1)
                  (by kernel_rfl) (by kernel_rfl) (by kernel_rfl) (by kernel_rfl) (by kernel_rfl) (by decide) ?_ ?_ ?_
                · intro _
                  exact HWW.out ▸ ⟨Below.refl _ _⟩
                · simp only [List.take_succ_cons, List.take_zero]
                  refine ⟨?_, ?_, ?_, ?_, ?_, ?_, ?_, trivial⟩
                  all_goals
                    intro LL x9 w9 hS hl9 hp K hK
                    have hs9 : PlB W1 LL x9 w9 := hS
                    clear hS hp
                    have r1 : w9.cell? ⟨R, 0, none⟩ = some (.string N) := by rw [(bcell hs9.bel).1 _ _ (by omega)]; exact HRW.out.cell 0
                    have r2 : w9.cell? ⟨R, 1, none⟩ = some (.int .i64 V) := by rw [(bcell hs9.bel).1 _ _ (by omega)]; exact HRW.out.cell 1
                    replace hK := hK.out
                    simp only [actMix, pickV, List.tail_cons, List.headD_cons, Act.put, List.setIfInBounds_toArray, List.set_cons_zero, List.set_cons_succ] at hK ⊢
                  iterate 3
                    · go_simp
                      with_reducible refine hK _ ?_
                      exact ⟨hs9.bel⟩
                  · have hmk := mark11 rb _ v (ofL y) N hsm w9 (HR7.out.below hs9.bel)
                    rw [HOF.out] at hmk
                    go_simp
                    refine hmk.mono ?_
                    rintro e w' ⟨rfl, rfl⟩
                    with_reducible refine hK _ ?_
                    exact ⟨hs9.bel⟩
                  iterate 3
                    · go_simp
                      with_reducible refine hK _ ?_
                      exact ⟨hs9.bel⟩
                · intro LL x9 w9 hS hall
                  have hs9 : PlB W1 LL x9 w9 := hS
                  have HB9 := Lib.hid (HB7.out.trans (hs9.bel.mono HB7.out.size))
                  clear hS hs9 hall
                  simp only [actMix, pickV, List.tail_cons, List.headD_cons, Act.put, List.setIfInBounds_toArray, List.set_cons_zero, List.set_cons_succ, List.replicate_succ, List.replicate_zero, List.drop_succ_cons, List.drop_zero, List.take_succ_cons, List.take_zero]
                  go_wp2_with fail
                  go_roundw
                  case rel => exact ⟨j + 1, hjl, by go_num, HB9⟩
                  case measure => simp [intOf]; omega
              · obtain rfl : j = y.length := by omega
                have k1 : ¬ ((y.length : Int) < y.length) := by omega
                have HCZ2 := Lib.hid (HCZ.out.below hbj.out)
                have HBQ2 := Lib.hid (HBQ.out.trans (hbj.out.mono HBQ.out.size))
                clear hbj HCZ HBQ HRY k1
                obtain ⟨wp, rfl⟩ : ∃ wp, wp = wr := ⟨wr, rfl⟩
                go_wp2_with fail
                go_loopw [109] (fun i wr => ∃ j : Nat, j ≤ z.length ∧ i = .int .i64 (j : Int) ∧ Hid (Below wp.heap.size wp wr)) (fun i _ => z.length - (intOf i).toNat)
                case atStart => exact ⟨0, Nat.zero_le _, rfl, Below.refl _ _⟩
                case round =>
                  obtain ⟨j, hj, rfl, hbj⟩ := hrel
                  by_cases hjl : j < z.length
                  · have k1 : (j : Int) < z.length := by omega
                    obtain h0 | ⟨bf, of, hoe, hbf, _, hcell⟩ := (HCZ2.out.ents).below hbj.out
                    · subst h0; simp at hjl
                    subst hoe
                    obtain ⟨c1, c3⟩ := hcell j z[j] (by simp [hjl])
                    have hsz := HCZ2.out.sz z[j] (List.getElem_mem hjl)
                    have hof := ofL_mem HCZ2.out.ap z[j] (List.getElem_mem hjl)
                    obtain ⟨D, hD⟩ : ∃ D, D = z[j] := ⟨_, rfl⟩
                    rw [← hD] at c1 c3 hsz hof
                    clear hcell hD
                    obtain ⟨N, V⟩ := D
                    simp only at c1 c3 hsz hof
                    have hsm : N.size ≤ maxLen := by unfold maxLen; omega
                    have HOF := Lib.hid hof
                    have HRT := Lib.hid (HCZ2.out.rot.below hbj.out)
                    clear hof hsz
                    go_wp2_with fail
                    obtain ⟨R, hR⟩ : ∃ R, R = wr.heap.size := ⟨_, rfl⟩
                    have HRA := Lib.hid (Row.new wr 38 #[.string N, .int .i64 V])
                    have HR6 := Lib.hid (HRT.out.below (below_alloc wr (.cells #[.string N, .int .i64 V] 38)))
                    have HB6 := Lib.hid (hbj.out.alloc hbj.out.size (.cells #[.string N, .int .i64 V] 38))
                    have hsz2 : (wr.alloc (.cells #[.string N, .int .i64 V] 38)).heap.size = wr.heap.size + 1 := World.size_alloc _ _
                    rw [← hR] at HRA hsz2 ⊢
                    obtain ⟨W1, hW1⟩ : ∃ W1, W1 = (wr.alloc (.cells #[.string N, .int .i64 V] 38)).drew := ⟨_, rfl⟩
                    have HB7 : Hid (Below wp.heap.size wp W1) := by rw [hW1]; exact HB6.out.drew
                    have HR7 : Hid (Rot W1 cb v2 (10 * (t + s)) (ofL z)) := by rw [hW1]; exact HR6.out.below (Below.refl _ _).drew
                    have HRW : Hid (Row W1 R 38 #[.string N, .int .i64 V]) := by rw [hW1]; exact HRA.out
                    have hs1 : W1.heap.size = R + 1 := by rw [hW1]; exact hsz2
                    have HWW := Lib.hid hW1
                    clear hsz2 hW1 HRA HR6 HB6 HRT hbj c1 c3 hR hbf
                    refine region_mixt 7 [some (.pointer (some ⟨cb, 0, none⟩)), some (.pointer (some ⟨R, 0, none⟩)), some (.string N), some (.int .i64 V), some (.pointer (some ⟨R, 1, none⟩)), some (.int .i64 V), some (.bool false)]
                      [[false, false, false, false, false, false, false], [false, false, false, false, false, false, false], [false, true, false, false, false, false, false], [true, false, true, false, false, false, false], [false, false, false, false, false, false, false], [false, false, false, false, true, false, false], [false, false, false, true, false, true, false]]
                      (fun LL x w1 => PlB W1 LL x w1)
                      (by kernel_rfl) (by kernel_rfl) (by kernel_rfl) (by kernel_rfl) (by kernel_rfl) (by decide) ?_ ?_ ?_
                    · intro _
                      exact HWW.out ▸ ⟨Below.refl _ _⟩
                    · simp only [List.take_succ_cons, List.take_zero]
                      refine ⟨?_, ?_, ?_, ?_, ?_, ?_, ?_, trivial⟩
                      all_goals
                        intro LL x9 w9 hS hl9 hp K hK
                        have hs9 : PlB W1 LL x9 w9 := hS
                        clear hS hp
                        have r1 : w9.cell? ⟨R, 0, none⟩ = some (.string N) := by rw [(bcell hs9.bel).1 _ _ (by omega)]; exact HRW.out.cell 0
                        have r2 : w9.cell? ⟨R, 1, none⟩ = some (.int .i64 V) := by rw [(bcell hs9.bel).1 _ _ (by omega)]; exact HRW.out.cell 1
                        replace hK := hK.out
                        simp only [actMix, pickV, List.tail_cons, List.headD_cons, Act.put, List.setIfInBounds_toArray, List.set_cons_zero, List.set_cons_succ] at hK ⊢
                      iterate 3
                        · go_simp
                          with_reducible refine hK _ ?_
                          exact ⟨hs9.bel⟩
                      · have hmk := mark11 cb _ v2 (ofL z) N hsm w9 (HR7.out.below hs9.bel)
                        rw [HOF.out] at hmk
                        go_simp
                        refine hmk.mono ?_
                        rintro e w' ⟨rfl, rfl⟩
                        with_reducible refine hK _ ?_
                        exact ⟨hs9.bel⟩
                      iterate 3
                        · go_simp
                          with_reducible refine hK _ ?_
                          exact ⟨hs9.bel⟩
                    · intro LL x9 w9 hS hall
                      have hs9 : PlB W1 LL x9 w9 := hS
                      have HB9 := Lib.hid (HB7.out.trans (hs9.bel.mono HB7.out.size))
                      clear hS hs9 hall
                      simp only [actMix, pickV, List.tail_cons, List.headD_cons, Act.put, List.setIfInBounds_toArray, List.set_cons_zero, List.set_cons_succ, List.replicate_succ, List.replicate_zero, List.drop_succ_cons, List.drop_zero, List.take_succ_cons, List.take_zero]
                      go_wp2_with fail
                      go_roundw
                      case rel => exact ⟨j + 1, hjl, by go_num, HB9⟩
                      case measure => simp [intOf]; omega
                  · obtain rfl : j = z.length := by omega
                    have k1 : ¬ ((z.length : Int) < z.length) := by omega
                    have HE := Lib.hid (HBQ2.out.trans (hbj.out.mono HBQ2.out.size))
                    clear hbj
                    go_wp2_with fail
                    go_ret
                    exact ⟨rfl, HE.out⟩
    · have j1 : ¬ (t : Int) < ats.length := by omega
      go_wp2_with fail
      refine (pclone13 rb v _ (ofL y) _ hrun.out.act.rot).mono ?_
      rintro e w3 ⟨cb, vc, rfl, hcb, hvc, hrc, hb3⟩
      have hrs0 : RunS wr wr.heap.size cb vc (t + 0) xa xc y w3 := by
        refine ⟨⟨hrc, hrun.out.act.ap, hrun.out.act.ents.below hb3, ?_, fun p hp => Nat.lt_of_lt_of_le (hrun.out.act.lt p hp) hb3.size, hrun.out.act.sz⟩, hrun.out.len, hrun.out.abs, hb3, ?_⟩
        · rintro p hp (h | h)
          · have := hrun.out.act.lt p hp; omega
          · have := hrun.out.act.lt p hp; have := hvc _ h; omega
        · rintro k (h | h)
          · omega
          · exact hvc _ h
      have HRS0 := Lib.hid hrs0
      have HRX := hrun
      have hyl4 := hrun.out.len
      clear hrs0 hrc hcb hvc hb3 hrun
      obtain ⟨wv, rfl⟩ : ∃ wv, wv = wr := ⟨wr, rfl⟩
      go_wp2_with fail
      go_loopw [12, 13] (fun x i wr => ∃ (s : Nat) (v2 : Option Nat) (ya : Option Addr) (yc : Nat) (z : List Ent), s ≤ 10 ∧ s ≤ bs.length ∧ i = .int .i64 (s : Int) ∧ x = .slice ya z.length yc ∧ Hid (RunS wv wv.heap.size cb v2 (t + s) ya yc z wr)) (fun _ i _ => bs.length - (intOf i).toNat)
      case atStart => exact ⟨0, vc, xa, xc, y, by omega, Nat.zero_le _, rfl, rfl, HRS0⟩
      case round =>
        obtain ⟨s, v2, ya, yc, z, hs, hsb, rfl, rfl, hrs⟩ := hrel
        clear HRS0
        by_cases hlt2 : s < bs.length
        · have k1 : (s : Int) < bs.length := by omega
          by_cases hl2 : s < 10
          · have k2 : (s : Int) < 10 := by omega
            obtain h0 | ⟨bk3, o3, hoe, hbk, hc, hcell⟩ := HB.out.below (HRX.out.bel.trans (hrs.out.bel.mono HRX.out.bel.size))
            · subst h0; simp at hlt2
            subst hoe
            obtain ⟨c1, c3, c4, c5⟩ := hcell s bs[s] (by simp [hlt2])
            obtain ⟨D, hD⟩ : ∃ D, D = bs[s] := ⟨_, rfl⟩
            rw [← hD] at c1 c3 c4 c5
            clear hcell hD
            obtain ⟨k, la, lc, l⟩ := D
            simp only at c1 c3 c4 c5
            have hl5 : l.length ≤ 9223372036854775807 := by unfold maxLen at c5; omega
            have hyl := hrs.out.len
            have hdo := Lib.hid (do9 k cb v2 (10 * (t + s)) (by omega) ya yc z (by omega) (600000 * ((t + s : Nat) : Int)) (by omega) (by omega) hrs.out.abs la lc l hl5 wr hrs.out.act c4)
            clear c4 c5
            go_wp2_with fail
            refine hdo.out.mono ?_
            rintro e w5 ⟨ya', yc', z', v3, rfl, hact, hk, hf, hlen, habs⟩
            clear hdo
            have HR3 : Hid (RunS wv wv.heap.size cb v3 (t + s + 1) ya' yc' z' w5) := hrs.out.next (Nat.le_refl _) hact hk hf hlen habs
            clear hrs hact hk hf hlen habs c1 c3 hyl hl5 hbk
            go_wp2_with fail
            go_roundw
            case rel => exact ⟨s + 1, v3, ya', yc', z', by omega, by omega, by go_num, rfl, HR3⟩
            case measure => simp [intOf]; omega
          · have k2 : ¬ (s : Int) < 10 := by omega
            have HRY := Lib.hid (HRX.out.act.below (hrs.out.bel))
            have HCZ := Lib.hid (hrs.out.act)
            have HBQ : Hid (Below W.heap.size W wr) := HRX.out.bel.trans (hrs.out.bel.mono HRX.out.bel.size)
            have hzl4 := hrs.out.len
            clear hrs HRX
            obtain ⟨wq, rfl⟩ : ∃ wq, wq = wr := ⟨wr, rfl⟩
            go_wp2_with fail
            go_loopw [95] (fun i wr => ∃ j : Nat, j ≤ y.length ∧ i = .int .i64 (j : Int) ∧ Hid (Below wq.heap.size wq wr)) (fun i _ => y.length - (intOf i).toNat)
            case atStart => exact ⟨0, Nat.zero_le _, rfl, Below.refl _ _⟩
            case round =>
              obtain ⟨j, hj, rfl, hbj⟩ := hrel
              by_cases hjl : j < y.length
              · have k1 : (j : Int) < y.length := by omega
                obtain h0 | ⟨bf, of, hoe, hbf, _, hcell⟩ := (HRY.out.ents).below hbj.out
                · subst h0; simp at hjl
                subst hoe
                obtain ⟨c1, c3⟩ := hcell j y[j] (by simp [hjl])
                have hsz := HRY.out.sz y[j] (List.getElem_mem hjl)
                have hof := ofL_mem HRY.out.ap y[j] (List.getElem_mem hjl)
                obtain ⟨D, hD⟩ : ∃ D, D = y[j] := ⟨_, rfl⟩
                rw [← hD] at c1 c3 hsz hof
                clear hcell hD
                obtain ⟨N, V⟩ := D
                simp only at c1 c3 hsz hof
                have hsm : N.size ≤ maxLen := by unfold maxLen; omega
                have HOF := Lib.hid hof
                have HRT := Lib.hid (HRY.out.rot.below hbj.out)
                clear hof hsz
                go_wp2_with fail
                obtain ⟨R, hR⟩ : ∃ R, R = wr.heap.size := ⟨_, rfl⟩
                have HRA := Lib.hid (Row.new wr 38 #[.string N, .int .i64 V])
                have HR6 := Lib.hid (HRT.out.below (below_alloc wr (.cells #[.string N, .int .i64 V] 38)))
                have HB6 := Lib.hid (hbj.out.alloc hbj.out.size (.cells #[.string N, .int .i64 V] 38))
                have hsz2 : (wr.alloc (.cells #[.string N, .int .i64 V] 38)).heap.size = wr.heap.size + 1 := World.size_alloc _ _
                rw [← hR] at HRA hsz2 ⊢
                obtain ⟨W1, hW1⟩ : ∃ W1, W1 = (wr.alloc (.cells #[.string N, .int .i64 V] 38)).drew := ⟨_, rfl⟩
                have HB7 : Hid (Below wq.heap.size wq W1) := by rw [hW1]; exact HB6.out.drew
                have HR7 : Hid (Rot W1 rb v (10 * t) (ofL y)) := by rw [hW1]; exact HR6.out.below (Below.refl _ _).drew
                have HRW : Hid (Row W1 R 38 #[.string N, .int .i64 V]) := by rw [hW1]; exact HRA.out
                have hs1 : W1.heap.size = R + 1 := by rw [hW1]; exact hsz2
                have HWW := Lib.hid hW1
                clear hsz2 hW1 HRA HR6 HB6 HRT hbj c1 c3 hR hbf
                refine region_mixt 7 [some (.pointer (some ⟨rb, 0, none⟩)), some (.pointer (some ⟨R, 0, none⟩)), some (.string N), some (.int .i64 V), some (.pointer (some ⟨R, 1, none⟩)), some (.int .i64 V), some (.bool false)]
                  [[false, false, false, false, false, false, false], [false, false, false, false, false, false, false], [false, true, false, false, false, false, false], [true, false, true, false, false, false, false], [false, false, false, false, false, false, false], [false, false, false, false, true, false, false], [false, false, false, true, false, true, false]]
                  (fun LL x w1 => PlB W1 LL x w1)
                  (by kernel_rfl) (by kernel_rfl) (by kernel_rfl) (by kernel_rfl) (by kernel_rfl) (by decide) ?_ ?_ ?_
                · intro _
                  exact HWW.out ▸ ⟨Below.refl _ _⟩
                · simp only [List.take_succ_cons, List.take_zero]
                  refine ⟨?_, ?_, ?_, ?_, ?_, ?_, ?_, trivial⟩
                  all_goals
                    intro LL x9 w9 hS hl9 hp K hK
                    have hs9 : PlB W1 LL x9 w9 := hS
                    clear hS hp
                    have r1 : w9.cell? ⟨R, 0, none⟩ = some (.string N) := by rw [(bcell hs9.bel).1 _ _ (by omega)]; exact HRW.out.cell 0
                    have r2 : w9.cell? ⟨R, 1, none⟩ = some (.int .i64 V) := by rw [(bcell hs9.bel).1 _ _ (by omega)]; exact HRW.out.cell 1
                    replace hK := hK.out
                    simp only [actMix, pickV, List.tail_cons, List.headD_cons, Act.put, List.setIfInBounds_toArray, List.set_cons_zero, List.set_cons_succ] at hK ⊢
                  iterate 3
                    · go_simp
                      with_reducible refine hK _ ?_
                      exact ⟨hs9.bel⟩
                  · have hmk := mark11 rb _ v (ofL y) N hsm w9 (HR7.out.below hs9.bel)
                    rw [HOF.out] at hmk
                    go_simp
                    refine hmk.mono ?_
                    rintro e w' ⟨rfl, rfl⟩
                    with_reducible refine hK _ ?_
                    exact ⟨hs9.bel⟩
                  iterate 3
                    · go_simp
                      with_reducible refine hK _ ?_
                      exact ⟨hs9.bel⟩
                · intro LL x9 w9 hS hall
                  have hs9 : PlB W1 LL x9 w9 := hS
                  have HB9 := Lib.hid (HB7.out.trans (hs9.bel.mono HB7.out.size))
                  clear hS hs9 hall
                  simp only [actMix, pickV, List.tail_cons, List.headD_cons, Act.put, List.setIfInBounds_toArray, List.set_cons_zero, List.set_cons_succ, List.replicate_succ, List.replicate_zero, List.drop_succ_cons, List.drop_zero, List.take_succ_cons, List.take_zero]
                  go_wp2_with fail
                  go_roundw
                  case rel => exact ⟨j + 1, hjl, by go_num, HB9⟩
                  case measure => simp [intOf]; omega
              · obtain rfl : j = y.length := by omega
                have k1 : ¬ ((y.length : Int) < y.length) := by omega
                have HCZ2 := Lib.hid (HCZ.out.below hbj.out)
                have HBQ2 := Lib.hid (HBQ.out.trans (hbj.out.mono HBQ.out.size))
                clear hbj HCZ HBQ HRY k1
                obtain ⟨wp, rfl⟩ : ∃ wp, wp = wr := ⟨wr, rfl⟩
                go_wp2_with fail
                go_loopw [109] (fun i wr => ∃ j : Nat, j ≤ z.length ∧ i = .int .i64 (j : Int) ∧ Hid (Below wp.heap.size wp wr)) (fun i _ => z.length - (intOf i).toNat)
                case atStart => exact ⟨0, Nat.zero_le _, rfl, Below.refl _ _⟩
                case round =>
                  obtain ⟨j, hj, rfl, hbj⟩ := hrel
                  by_cases hjl : j < z.length
                  · have k1 : (j : Int) < z.length := by omega
                    obtain h0 | ⟨bf, of, hoe, hbf, _, hcell⟩ := (HCZ2.out.ents).below hbj.out
                    · subst h0; simp at hjl
                    subst hoe
                    obtain ⟨c1, c3⟩ := hcell j z[j] (by simp [hjl])
                    have hsz := HCZ2.out.sz z[j] (List.getElem_mem hjl)
                    have hof := ofL_mem HCZ2.out.ap z[j] (List.getElem_mem hjl)
                    obtain ⟨D, hD⟩ : ∃ D, D = z[j] := ⟨_, rfl⟩
                    rw [← hD] at c1 c3 hsz hof
                    clear hcell hD
                    obtain ⟨N, V⟩ := D
                    simp only at c1 c3 hsz hof
                    have hsm : N.size ≤ maxLen := by unfold maxLen; omega
                    have HOF := Lib.hid hof
                    have HRT := Lib.hid (HCZ2.out.rot.below hbj.out)
                    clear hof hsz
                    go_wp2_with fail
                    obtain ⟨R, hR⟩ : ∃ R, R = wr.heap.size := ⟨_, rfl⟩
                    have HRA := Lib.hid (Row.new wr 38 #[.string N, .int .i64 V])
                    have HR6 := Lib.hid (HRT.out.below (below_alloc wr (.cells #[.string N, .int .i64 V] 38)))
                    have HB6 := Lib.hid (hbj.out.alloc hbj.out.size (.cells #[.string N, .int .i64 V] 38))
                    have hsz2 : (wr.alloc (.cells #[.string N, .int .i64 V] 38)).heap.size = wr.heap.size + 1 := World.size_alloc _ _
                    rw [← hR] at HRA hsz2 ⊢
                    obtain ⟨W1, hW1⟩ : ∃ W1, W1 = (wr.alloc (.cells #[.string N, .int .i64 V] 38)).drew := ⟨_, rfl⟩
                    have HB7 : Hid (Below wp.heap.size wp W1) := by rw [hW1]; exact HB6.out.drew
                    have HR7 : Hid (Rot W1 cb v2 (10 * (t + s)) (ofL z)) := by rw [hW1]; exact HR6.out.below (Below.refl _ _).drew
                    have HRW : Hid (Row W1 R 38 #[.string N, .int .i64 V]) := by rw [hW1]; exact HRA.out
                    have hs1 : W1.heap.size = R + 1 := by rw [hW1]; exact hsz2
                    have HWW := Lib.hid hW1
                    clear hsz2 hW1 HRA HR6 HB6 HRT hbj c1 c3 hR hbf
                    refine region_mixt 7 [some (.pointer (some ⟨cb, 0, none⟩)), some (.pointer (some ⟨R, 0, none⟩)), some (.string N), some (.int .i64 V), some (.pointer (some ⟨R, 1, none⟩)), some (.int .i64 V), some (.bool false)]
                      [[false, false, false, false, false, false, false], [false, false, false, false, false, false, false], [false, true, false, false, false, false, false], [true, false, true, false, false, false, false], [false, false, false, false, false, false, false], [false, false, false, false, true, false, false], [false, false, false, true, false, true, false]]
                      (fun LL x w1 => PlB W1 LL x w1)
                      (by kernel_rfl) (by kernel_rfl) (by kernel_rfl) (by kernel_rfl) (by kernel_rfl) (by decide) ?_ ?_ ?_
                    · intro _
                      exact HWW.out ▸ ⟨Below.refl _ _⟩
                    · simp only [List.take_succ_cons, List.take_zero]
                      refine ⟨?_, ?_, ?_, ?_, ?_, ?_, ?_, trivial⟩
                      all_goals
                        intro LL x9 w9 hS hl9 hp K hK
                        have hs9 : PlB W1 LL x9 w9 := hS
                        clear hS hp
                        have r1 : w9.cell? ⟨R, 0, none⟩ = some (.string N) := by rw [(bcell hs9.bel).1 _ _ (by omega)]; exact HRW.out.cell 0
                        have r2 : w9.cell? ⟨R, 1, none⟩ = some (.int .i64 V) := by rw [(bcell hs9.bel).1 _ _ (by omega)]; exact HRW.out.cell 1
                        replace hK := hK.out
                        simp only [actMix, pickV, List.tail_cons, List.headD_cons, Act.put, List.setIfInBounds_toArray, List.set_cons_zero, List.set_cons_succ] at hK ⊢
                      iterate 3
                        · go_simp
                          with_reducible refine hK _ ?_
                          exact ⟨hs9.bel⟩
                      · have hmk := mark11 cb _ v2 (ofL z) N hsm w9 (HR7.out.below hs9.bel)
                        rw [HOF.out] at hmk
                        go_simp
                        refine hmk.mono ?_
                        rintro e w' ⟨rfl, rfl⟩
                        with_reducible refine hK _ ?_
                        exact ⟨hs9.bel⟩
                      iterate 3
                        · go_simp
                          with_reducible refine hK _ ?_
                          exact ⟨hs9.bel⟩
                    · intro LL x9 w9 hS hall
                      have hs9 : PlB W1 LL x9 w9 := hS
                      have HB9 := Lib.hid (HB7.out.trans (hs9.bel.mono HB7.out.size))
                      clear hS hs9 hall
                      simp only [actMix, pickV, List.tail_cons, List.headD_cons, Act.put, List.setIfInBounds_toArray, List.set_cons_zero, List.set_cons_succ, List.replicate_succ, List.replicate_zero, List.drop_succ_cons, List.drop_zero, List.take_succ_cons, List.take_zero]
                      go_wp2_with fail
                      go_roundw
                      case rel => exact ⟨j + 1, hjl, by go_num, HB9⟩
                      case measure => simp [intOf]; omega
                  · obtain rfl : j = z.length := by omega
                    have k1 : ¬ ((z.length : Int) < z.length) := by omega
                    have HE := Lib.hid (HBQ2.out.trans (hbj.out.mono HBQ2.out.size))
                    clear hbj
                    go_wp2_with fail
                    go_ret
                    exact ⟨rfl, HE.out⟩
        · have k1 : ¬ (s : Int) < bs.length := by omega
          have HRY := Lib.hid (HRX.out.act.below (hrs.out.bel))
          have HCZ := Lib.hid (hrs.out.act)
          have HBQ : Hid (Below W.heap.size W wr) := HRX.out.bel.trans (hrs.out.bel.mono HRX.out.bel.size)
          have hzl4 := hrs.out.len
          clear hrs HRX
          obtain ⟨wq, rfl⟩ : ∃ wq, wq = wr := ⟨wr, rfl⟩
          go_wp2_with fail
          go_loopw [95] (fun i wr => ∃ j : Nat, j ≤ y.length ∧ i = .int .i64 (j : Int) ∧ Hid (Below wq.heap.size wq wr)) (fun i _ => y.length - (intOf i).toNat)
          case atStart => exact ⟨0, Nat.zero_le _, rfl, Below.refl _ _⟩
          case round =>
            obtain ⟨j, hj, rfl, hbj⟩ := hrel
            by_cases hjl : j < y.length
            · have k1 : (j : Int) < y.length := by omega
              obtain h0 | ⟨bf, of, hoe, hbf, _, hcell⟩ := (HRY.out.ents).below hbj.out
              · subst h0; simp at hjl
              subst hoe
              obtain ⟨c1, c3⟩ := hcell j y[j] (by simp [hjl])
              have hsz := HRY.out.sz y[j] (List.getElem_mem hjl)
              have hof := ofL_mem HRY.out.ap y[j] (List.getElem_mem hjl)
              obtain ⟨D, hD⟩ : ∃ D, D = y[j] := ⟨_, rfl⟩
              rw [← hD] at c1 c3 hsz hof
              clear hcell hD
              obtain ⟨N, V⟩ := D
              simp only at c1 c3 hsz hof
              have hsm : N.size ≤ maxLen := by unfold maxLen; omega
              have HOF := Lib.hid hof
              have HRT := Lib.hid (HRY.out.rot.below hbj.out)
              clear hof hsz
              go_wp2_with fail
              obtain ⟨R, hR⟩ : ∃ R, R = wr.heap.size := ⟨_, rfl⟩
              have HRA := Lib.hid (Row.new wr 38 #[.string N, .int .i64 V])
              have HR6 := Lib.hid (HRT.out.below (below_alloc wr (.cells #[.string N, .int .i64 V] 38)))
              have HB6 := Lib.hid (hbj.out.alloc hbj.out.size (.cells #[.string N, .int .i64 V] 38))
              have hsz2 : (wr.alloc (.cells #[.string N, .int .i64 V] 38)).heap.size = wr.heap.size + 1 := World.size_alloc _ _
              rw [← hR] at HRA hsz2 ⊢
              obtain ⟨W1, hW1⟩ : ∃ W1, W1 = (wr.alloc (.cells #[.string N, .int .i64 V] 38)).drew := ⟨_, rfl⟩
              have HB7 : Hid (Below wq.heap.size wq W1) := by rw [hW1]; exact HB6.out.drew
              have HR7 : Hid (Rot W1 rb v (10 * t) (ofL y)) := by rw [hW1]; exact HR6.out.below (Below.refl _ _).drew
              have HRW : Hid (Row W1 R 38 #[.string N, .int .i64 V]) := by rw [hW1]; exact HRA.out
              have hs1 : W1.heap.size = R + 1 := by rw [hW1]; exact hsz2
              have HWW := Lib.hid hW1
              clear hsz2 hW1 HRA HR6 HB6 HRT hbj c1 c3 hR hbf
              refine region_mixt 7 [some (.pointer (some ⟨rb, 0, none⟩)), some (.pointer (some ⟨R, 0, none⟩)), some (.string N), some (.int .i64 V), some (.pointer (some ⟨R, 1, none⟩)), some (.int .i64 V), some (.bool false)]
                [[false, false, false, false, false, false, false], [false, false, false, false, false, false, false], [false, true, false, false, false, false, false], [true, false, true, false, false, false, false], [false, false, false, false, false, false, false], [false, false, false, false, true, false, false], [false, false, false, true, false, true, false]]
                (fun LL x w1 => PlB W1 LL x w1)
                (by kernel_rfl) (by kernel_rfl) (by kernel_rfl) (by kernel_rfl) (by kernel_rfl) (by decide) ?_ ?_ ?_
              · intro _
                exact HWW.out ▸ ⟨Below.refl _ _⟩
              · simp only [List.take_succ_cons, List.take_zero]
                refine ⟨?_, ?_, ?_, ?_, ?_, ?_, ?_, trivial⟩
                all_goals
                  intro LL x9 w9 hS hl9 hp K hK
                  have hs9 : PlB W1 LL x9 w9 := hS
                  clear hS hp
                  have r1 : w9.cell? ⟨R, 0, none⟩ = some (.string N) := by rw [(bcell hs9.bel).1 _ _ (by omega)]; exact HRW.out.cell 0
                  have r2 : w9.cell? ⟨R, 1, none⟩ = some (.int .i64 V) := by rw [(bcell hs9.bel).1 _ _ (by omega)]; exact HRW.out.cell 1
                  replace hK := hK.out
                  simp only [actMix, pickV, List.tail_cons, List.headD_cons, Act.put, List.setIfInBounds_toArray, List.set_cons_zero, List.set_cons_succ] at hK ⊢
                iterate 3
                  · go_simp
                    with_reducible refine hK _ ?_
                    exact ⟨hs9.bel⟩
                · have hmk := mark11 rb _ v (ofL y) N hsm w9 (HR7.out.below hs9.bel)
                  rw [HOF.out] at hmk
                  go_simp
                  refine hmk.mono ?_
                  rintro e w' ⟨rfl, rfl⟩
                  with_reducible refine hK _ ?_
                  exact ⟨hs9.bel⟩
                iterate 3
                  · go_simp
                    with_reducible refine hK _ ?_
                    exact ⟨hs9.bel⟩
              · intro LL x9 w9 hS hall
                have hs9 : PlB W1 LL x9 w9 := hS
                have HB9 := Lib.hid (HB7.out.trans (hs9.bel.mono HB7.out.size))
                clear hS hs9 hall
                simp only [actMix, pickV, List.tail_cons, List.headD_cons, Act.put, List.setIfInBounds_toArray, List.set_cons_zero, List.set_cons_succ, List.replicate_succ, List.replicate_zero, List.drop_succ_cons, List.drop_zero, List.take_succ_cons, List.take_zero]
                go_wp2_with fail
                go_roundw
                case rel => exact ⟨j + 1, hjl, by go_num, HB9⟩
                case measure => simp [intOf]; omega
            · obtain rfl : j = y.length := by omega
              have k1 : ¬ ((y.length : Int) < y.length) := by omega
              have HCZ2 := Lib.hid (HCZ.out.below hbj.out)
              have HBQ2 := Lib.hid (HBQ.out.trans (hbj.out.mono HBQ.out.size))
              clear hbj HCZ HBQ HRY k1
              obtain ⟨wp, rfl⟩ : ∃ wp, wp = wr := ⟨wr, rfl⟩
              go_wp2_with fail
              go_loopw [109] (fun i wr => ∃ j : Nat, j ≤ z.length ∧ i = .int .i64 (j : Int) ∧ Hid (Below wp.heap.size wp wr)) (fun i _ => z.length - (intOf i).toNat)
              case atStart => exact ⟨0, Nat.zero_le _, rfl, Below.refl _ _⟩
              case round =>
                obtain ⟨j, hj, rfl, hbj⟩ := hrel
                by_cases hjl : j < z.length
                · have k1 : (j : Int) < z.length := by omega
                  obtain h0 | ⟨bf, of, hoe, hbf, _, hcell⟩ := (HCZ2.out.ents).below hbj.out
                  · subst h0; simp at hjl
                  subst hoe
                  obtain ⟨c1, c3⟩ := hcell j z[j] (by simp [hjl])
                  have hsz := HCZ2.out.sz z[j] (List.getElem_mem hjl)
                  have hof := ofL_mem HCZ2.out.ap z[j] (List.getElem_mem hjl)
                  obtain ⟨D, hD⟩ : ∃ D, D = z[j] := ⟨_, rfl⟩
                  rw [← hD] at c1 c3 hsz hof
                  clear hcell hD
                  obtain ⟨N, V⟩ := D
                  simp only at c1 c3 hsz hof
                  have hsm : N.size ≤ maxLen := by unfold maxLen; omega
                  have HOF := Lib.hid hof
                  have HRT := Lib.hid (HCZ2.out.rot.below hbj.out)
                  clear hof hsz
                  go_wp2_with fail
                  obtain ⟨R, hR⟩ : ∃ R, R = wr.heap.size := ⟨_, rfl⟩
                  have HRA := Lib.hid (Row.new wr 38 #[.string N, .int .i64 V])
                  have HR6 := Lib.hid (HRT.out.below (below_alloc wr (.cells #[.string N, .int .i64 V] 38)))
                  have HB6 := Lib.hid (hbj.out.alloc hbj.out.size (.cells #[.string N, .int .i64 V] 38))
                  have hsz2 : (wr.alloc (.cells #[.string N, .int .i64 V] 38)).heap.size = wr.heap.size + 1 := World.size_alloc _ _
                  rw [← hR] at HRA hsz2 ⊢
                  obtain ⟨W1, hW1⟩ : ∃ W1, W1 = (wr.alloc (.cells #[.string N, .int .i64 V] 38)).drew := ⟨_, rfl⟩
                  have HB7 : Hid (Below wp.heap.size wp W1) := by rw [hW1]; exact HB6.out.drew
                  have HR7 : Hid (Rot W1 cb v2 (10 * (t + s)) (ofL z)) := by rw [hW1]; exact HR6.out.below (Below.refl _ _).drew
                  have HRW : Hid (Row W1 R 38 #[.string N, .int .i64 V]) := by rw [hW1]; exact HRA.out
                  have hs1 : W1.heap.size = R + 1 := by rw [hW1]; exact hsz2
                  have HWW := Lib.hid hW1
                  clear hsz2 hW1 HRA HR6 HB6 HRT hbj c1 c3 hR hbf
                  refine region_mixt 7 [some (.pointer (some ⟨cb, 0, none⟩)), some (.pointer (some ⟨R, 0, none⟩)), some (.string N), some (.int .i64 V), some (.pointer (some ⟨R, 1, none⟩)), some (.int .i64 V), some (.bool false)]
                    [[false, false, false, false, false, false, false], [false, false, false, false, false, false, false], [false, true, false, false, false, false, false], [true, false, true, false, false, false, false], [false, false, false, false, false, false, false], [false, false, false, false, true, false, false], [false, false, false, true, false, true, false]]
                    (fun LL x w1 => PlB W1 LL x w1)
                    (by kernel_rfl) (by kernel_rfl) (by kernel_rfl) (by kernel_rfl) (by kernel_rfl) (by decide) ?_ ?_ ?_
                  · intro _
                    exact HWW.out ▸ ⟨Below.refl _ _⟩
                  · simp only [List.take_succ_cons, List.take_zero]
                    refine ⟨?_, ?_, ?_, ?_, ?_, ?_, ?_, trivial⟩
                    all_goals
                      intro LL x9 w9 hS hl9 hp K hK
                      have hs9 : PlB W1 LL x9 w9 := hS
                      clear hS hp
                      have r1 : w9.cell? ⟨R, 0, none⟩ = some (.string N) := by rw [(bcell hs9.bel).1 _ _ (by omega)]; exact HRW.out.cell 0
                      have r2 : w9.cell? ⟨R, 1, none⟩ = some (.int .i64 V) := by rw [(bcell hs9.bel).1 _ _ (by omega)]; exact HRW.out.cell 1
                      replace hK := hK.out
                      simp only [actMix, pickV, List.tail_cons, List.headD_cons, Act.put, List.setIfInBounds_toArray, List.set_cons_zero, List.set_cons_succ] at hK ⊢
                    iterate 3
                      · go_simp
                        with_reducible refine hK _ ?_
                        exact ⟨hs9.bel⟩
                    · have hmk := mark11 cb _ v2 (ofL z) N hsm w9 (HR7.out.below hs9.bel)
                      rw [HOF.out] at hmk
                      go_simp
                      refine hmk.mono ?_
                      rintro e w' ⟨rfl, rfl⟩
                      with_reducible refine hK _ ?_
                      exact ⟨hs9.bel⟩
                    iterate 3
                      · go_simp
                        with_reducible refine hK _ ?_
                        exact ⟨hs9.bel⟩
                  · intro LL x9 w9 hS hall
                    have hs9 : PlB W1 LL x9 w9 := hS
                    have HB9 := Lib.hid (HB7.out.trans (hs9.bel.mono HB7.out.size))
                    clear hS hs9 hall
                    simp only [actMix, pickV, List.tail_cons, List.headD_cons, Act.put, List.setIfInBounds_toArray, List.set_cons_zero, List.set_cons_succ, List.replicate_succ, List.replicate_zero, List.drop_succ_cons, List.drop_zero, List.take_succ_cons, List.take_zero]
                    go_wp2_with fail
                    go_roundw
                    case rel => exact ⟨j + 1, hjl, by go_num, HB9⟩
                    case measure => simp [intOf]; omega
                · obtain rfl : j = z.length := by omega
                  have k1 : ¬ ((z.length : Int) < z.length) := by omega
                  have HE := Lib.hid (HBQ2.out.trans (hbj.out.mono HBQ2.out.size))
                  clear hbj
                  go_wp2_with fail
                  go_ret
                  exact ⟨rfl, HE.out⟩
end Go.Proofs.Ytcmjcpgfnkhnoaa
