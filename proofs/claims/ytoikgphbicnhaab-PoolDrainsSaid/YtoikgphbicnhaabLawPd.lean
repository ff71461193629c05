/- The law PoolDrains (written by genlawpd.py). -/
import Derived.Test.YtoikgphbicnhaabPlK
namespace Go.Proofs.Ytoikgphbicnhaab
open Go.RowKit Go.Maps Go.Shelf Go.Sort

set_option maxHeartbeats 16000000 in
set_option maxRecDepth 100000 in
theorem lawPoolDrains (a : Option Addr) (c : Nat) (ats : List PAct) (hal : ats.length ≤ 9223372036854775807) (W : World) (hA : IsPacts W a c ats) :
    Calls Try.prog 5 #[.slice a ats.length c] W fun e w' => e = .returned (.bool true) ∧ Below W.heap.size W w' := by
  have HA := Lib.hid hA
  clear hA
  have hmm := @run_makeMap Try.prog
  go_enter Try.func5, Try.ntmps5
  go_wp2_with fail
  refine (awake7 _).mono ?_
  rintro e w1 ⟨rfl, hb1⟩
  have HB1 := Lib.hid hb1
  clear hb1
  go_wp2_with fail
  refine (pnew8 _).mono ?_
  rintro e w2 ⟨rfl, hp, hb2⟩
  obtain ⟨pb, hpb⟩ : ∃ pb, pb = w1.heap.size := ⟨_, rfl⟩
  rw [← hpb] at hp ⊢
  have HD : Hid (DrS W pb w2.heap.size 0 [] (fun _ => none) (w2.alloc (.map #[] 0))) := by
    have h1 := HB1.out.size
    have h2 := hb2.size
    have hbb := HB1.out.trans (hb2.mono h1)
    refine ⟨PoolB.below ⟨_, hp, fun k hk => ⟨by subst hk; omega, fun e => ?_⟩, hbb, Nat.le_refl _⟩ (below_alloc _ _), MapO.new MO w2, by omega, fun b hb => by cases hb⟩
    have := hp.lt hk
    omega
  clear hp hb2 hpb HB1
  obtain ⟨mb, hmb⟩ : ∃ mb, mb = w2.heap.size := ⟨_, rfl⟩
  rw [← hmb] at HD
  have HMB := Lib.hid hmb.symm
  clear hmb
  go_wp2_with fail
  rw [HMB.out]
  go_loopw [5] (fun i wr => ∃ (t : Nat) (l : List Bk) (f : ByteArray → Option Bool), t ≤ 60 ∧ t ≤ ats.length ∧ i = .int .i64 (t : Int) ∧ Hid (DrS W pb mb t l f wr)) (fun i _ => ats.length - (intOf i).toNat)
  case atStart => exact ⟨0, [], fun _ => none, by omega, Nat.zero_le _, rfl, HD⟩
  case round =>
    obtain ⟨t, l, f, ht, hta, rfl, hD⟩ := hrel
    by_cases hlt : t < ats.length
    · have j1 : (t : Int) < ats.length := by omega
      by_cases hl3 : t < 60
      · have j2 : (t : Int) < 60 := by omega
        obtain h0 | ⟨bk, oo, rfl, hbk, hc, hcell⟩ := HA.out.below hD.out.pool.bel
        · subst h0; simp at hlt
        obtain ⟨x0, x1, x2, x3⟩ := hcell t ats[t] (by simp [hlt])
        obtain ⟨E, hE⟩ : ∃ E, E = ats[t] := ⟨_, rfl⟩
        rw [← hE] at x0 x1 x2 x3
        clear hcell hE
        obtain ⟨k, u, v, N⟩ := E
        simp only at x0 x1 x2 x3
        have hn1 : t + 1 + 1 < maxLen := by unfold maxLen; omega
        have hn2 : t + 1 < maxLen := by unfold maxLen; omega
        have HN1 := Lib.hid hn1
        have HN2 := Lib.hid hn2
        have HREL := Lib.hid hD.out.rel
        have HMBL := Lib.hid hD.out.mbl
        have HRA := Lib.hid (Row.new wr 30 #[.int .i64 k, .int .i64 u, .int .i64 v, .string N])
        have hba := below_alloc wr (.cells #[.int .i64 k, .int .i64 u, .int .i64 v, .string N] 30)
        have hsa : (wr.alloc (.cells #[.int .i64 k, .int .i64 u, .int .i64 v, .string N] 30)).heap.size = wr.heap.size + 1 := World.size_alloc _ _
        obtain ⟨ab, hab⟩ : ∃ ab, ab = wr.heap.size := ⟨_, rfl⟩
        rw [← hab] at HRA
        obtain ⟨w3, hw3⟩ : ∃ w3, w3 = wr.alloc (.cells #[.int .i64 k, .int .i64 u, .int .i64 v, .string N] 30) := ⟨_, rfl⟩
        rw [← hw3] at HRA hba hsa
        have HP3 := Lib.hid (hD.out.pool.below hba)
        have HM3 := Lib.hid (hD.out.mp.below hba)
        have HBA := Lib.hid hba
        have HSA := Lib.hid hsa
        have HAB := Lib.hid hab
        have HD0 := Lib.hid hD.out
        clear hD hn1 hn2 hba hsa
        go_wp2_with fail
        refine (cut11 N 40 _).mono ?_
        rintro e w4 ⟨rfl, hw4⟩
        subst w4
        rw [← hw3, ← hab]
        clear hw3 hab x0 x1 x2 x3 hbk hc
        have hs40 := cutS_size N 40
        generalize cutS N 40 = s at *
        go_wp2_with fail
        refine (getB W W.heap.size pb t l (fun k => k = mb) s hs40 w3 HP3.out).mono ?_
        rintro e w4 ⟨rfl, hb4⟩
        have HB4 := Lib.hid hb4
        clear hb4
        obtain ⟨th, hth⟩ : ∃ th, th = (fndB l s).isSome := ⟨_, rfl⟩
        obtain ⟨b0, hb0⟩ : ∃ b0, b0 = (fndB l s).getD bk0 := ⟨_, rfl⟩
        rw [← hth, ← hb0]
        obtain ⟨n0, w0, c0, s0, z0⟩ := b0
        have HTH := Lib.hid hth
        have HB0 := Lib.hid hb0
        clear hth hb0
        simp only [bkV, bkC]
        have hrb := Row.new w4 33 #[.string n0, .int .i64 w0, .int .i64 c0, .int .i64 s0, .int .i64 z0]
        have hbb5 := below_alloc w4 (.cells #[.string n0, .int .i64 w0, .int .i64 c0, .int .i64 s0, .int .i64 z0] 33)
        have hsb : (w4.alloc (.cells #[.string n0, .int .i64 w0, .int .i64 c0, .int .i64 s0, .int .i64 z0] 33)).heap.size = w4.heap.size + 1 := World.size_alloc _ _
        obtain ⟨bb, hbb⟩ : ∃ bb, bb = w4.heap.size := ⟨_, rfl⟩
        obtain ⟨w5, hw5⟩ : ∃ w5, w5 = w4.alloc (.cells #[.string n0, .int .i64 w0, .int .i64 c0, .int .i64 s0, .int .i64 z0] 33) := ⟨_, rfl⟩
        rw [← hw5] at hrb hbb5 hsb
        rw [← hbb] at hrb
        have hb45 := HB4.out.trans (hbb5.mono HB4.out.size)
        have HM5 := Lib.hid (HM3.out.below hb45)
        have HRA5 := Lib.hid (HRA.out.below hb45)
        have HRB5 := Lib.hid hrb
        have hbw5 := HBA.out.trans (hb45.mono HBA.out.size)
        obtain ⟨O3, hO3⟩ : ∃ O3 : Nat → Prop, O3 = fun k => k = mb ∨ k = ab ∨ k = bb := ⟨_, rfl⟩
        have HP5 : Hid (PoolB W W.heap.size pb t l O3 w5) := by
          refine (HD0.out.pool.other (fun k hk => ?_)).below hbw5
          rw [hO3] at hk
          rcases hk with e | e | e
          · exact .inl e
          · right; have := HAB.out; omega
          · right
            have h1 := HB4.out.size
            have h2 := HSA.out
            omega
        have HO5 : Hid (∀ k, O3 k → k < w5.heap.size) := by
          intro k hk
          rw [hO3] at hk
          rcases hk with e | e | e
          · subst e; exact HM5.out.lt
          · subst e; exact HRA5.out.lt
          · subst e; exact HRB5.out.lt
        have HOM : Hid (O3 mb ∧ O3 ab ∧ O3 bb ∧ ∀ k, k = mb → O3 k) := by rw [hO3]; exact ⟨.inl rfl, .inr (.inl rfl), .inr (.inr rfl), fun k e => .inl e⟩
        have y0 : w5.cell? ⟨ab, 0, none⟩ = some (.int .i64 k) := HRA5.out.cell 0
        have HHS : Hid (bb ≠ mb) := fun e => HM5.out.ne_row HRB5.out e.symm
        rw [hw5] at y0
        clear hrb hbb5 hsb hb45 hbw5 hO3 HP3 HM3 HBA HSA HAB HB4 HRA
        go_upto_region 13 with fail
        rw [← hw5, ← hbb]
        rw [← hw5] at y0
        clear hw5 hbb HD0
        by_cases hk : k = 0
        · as_aux_lemma =>
            have k0 : (k == 0) = true := by subst hk; rfl
            have y1 : w5.cell? ⟨ab, 1, none⟩ = some (.int .i64 u) := HRA5.out.cell 1
            have y2 : w5.cell? ⟨ab, 2, none⟩ = some (.int .i64 v) := HRA5.out.cell 2
            clear hk
            go_wp2_with fail
            refine (addB W W.heap.size pb t HN2.out l O3 s hs40 w5 HP5.out HO5.out u v).mono ?_
            rintro e w6 ⟨rfl, hp6, hk6⟩
            have HP6 := Lib.hid hp6
            have HM6 := Lib.hid (HM5.out.keep hk6 (fun e => e HOM.out.1))
            have HR6 := Lib.hid (HRB5.out.keep hk6 (fun e => e HOM.out.2.2.1))
            clear hp6 hk6
            by_cases hE : addE (nameB s.data.toList) l s u v = 0
            · have HE := Lib.hid hE
              have tE : (addE (nameB s.data.toList) l s u v == 0) = true := by simp [hE]
              clear hE
              go_upto_region 34 with (at_mapUpdate; refine wpl_storeO MO _ rfl _ _ _ rfl mb t f rfl HM6.out (by have := HN2.out; omega) s false rfl rfl (by unfold maxLen; omega) ?_; intro w7 m7 g7)
              have HPT := Lib.hid (HP6.out.keep (G := fun k => k = mb) (Keep.turned g7 rfl) HOM.out.2.2.2 (fun k hk e => by have := HMBL.out; omega))
              have HMT := Lib.hid m7
              have HRT := Lib.hid (HR6.out.grown g7.grown (fun e => HHS.out (Option.some.inj e).symm))
              have HRELT : Hid (ShutR (addL (nameB s.data.toList) l s u v) (updO f s (some false))) := HREL.out.add HE.out
              have HSTL : Hid (th = true → 1 < z0 → (fndB (addL (nameB s.data.toList) l s u v) s).isSome = true) := add_still HTH.out
              clear HP6 HM6 HR6 m7 g7
              obtain ⟨l2, hl2⟩ : ∃ l2, l2 = addL (nameB s.data.toList) l s u v := ⟨_, rfl⟩
              rw [← hl2] at HPT HRELT HSTL
              clear hl2
              go_wp2_with fail
              refine (getB W W.heap.size pb (t + 1) l2 O3 s hs40 w7 HPT.out).mono ?_
              rintro e w9 ⟨rfl, hb9⟩
              obtain ⟨th2, hth2⟩ : ∃ th2, th2 = (fndB l2 s).isSome := ⟨_, rfl⟩
              rw [← hth2] at HSTL ⊢
              clear hth2
              obtain ⟨n2, w2, c2, s2, z2⟩ := (fndB l2 s).getD bk0
              simp only [bkV, bkC]
              have hbz := hb9.trans ((below_alloc w9 (.cells #[.string n2, .int .i64 w2, .int .i64 c2, .int .i64 s2, .int .i64 z2] 33)).mono hb9.size)
              have HEND : Hid (DrS W pb mb (t + 1) l2 (updO f s (some false)) (w9.alloc (.cells #[.string n2, .int .i64 w2, .int .i64 c2, .int .i64 s2, .int .i64 z2] 33))) := ⟨(HPT.out.other (fun k hk => .inl (HOM.out.2.2.2 k hk))).below hbz, HMT.out.below hbz, HMBL.out, HRELT.out⟩
              have hrz := HRT.out.below hbz
              have z4 : (w9.alloc (.cells #[.string n2, .int .i64 w2, .int .i64 c2, .int .i64 s2, .int .i64 z2] 33)).cell? ⟨bb, 4, none⟩ = some (.int .i64 z0) := hrz.cell 4
              clear hbz hrz hb9 HPT HMT HRT
              cases th with
              | false =>
                go_wp2_with fail
                go_roundw
                case rel => exact ⟨t + 1, l2, _, by omega, hlt, by go_num, HEND⟩
                case measure => simp [intOf]; omega
              | true =>
                by_cases hz1 : 1 < z0
                · obtain rfl : th2 = true := HSTL.out (by trivial) hz1
                  have hz2 : decide (1 < z0) = true := decide_eq_true hz1
                  go_wp2_with fail
                  go_roundw
                  case rel => exact ⟨t + 1, l2, _, by omega, hlt, by go_num, HEND⟩
                  case measure => simp [intOf]; omega
                · have hz2 : decide (1 < z0) = false := decide_eq_false hz1
                  clear hz1
                  go_wp2_with fail
                  go_roundw
                  case rel => exact ⟨t + 1, l2, _, by omega, hlt, by go_num, HEND⟩
                  case measure => simp [intOf]; omega
            · have HE := Lib.hid hE
              have tE : (addE (nameB s.data.toList) l s u v == 0) = false := by simp [hE]
              clear hE
              have HPT := HP6
              have HMT := Lib.hid (HM6.out.mono (Nat.le_succ t))
              have HRT := HR6
              have HRELT : Hid (ShutR (addL (nameB s.data.toList) l s u v) f) := by rw [add_not HE.out]; exact HREL.out
              have HSTL : Hid (th = true → 1 < z0 → (fndB (addL (nameB s.data.toList) l s u v) s).isSome = true) := add_still HTH.out
              clear HP6 HM6 HR6
              obtain ⟨l2, hl2⟩ : ∃ l2, l2 = addL (nameB s.data.toList) l s u v := ⟨_, rfl⟩
              rw [← hl2] at HPT HRELT HSTL
              clear hl2
              go_wp2_with fail
              refine (getB W W.heap.size pb (t + 1) l2 O3 s hs40 w6 HPT.out).mono ?_
              rintro e w9 ⟨rfl, hb9⟩
              obtain ⟨th2, hth2⟩ : ∃ th2, th2 = (fndB l2 s).isSome := ⟨_, rfl⟩
              rw [← hth2] at HSTL ⊢
              clear hth2
              obtain ⟨n2, w2, c2, s2, z2⟩ := (fndB l2 s).getD bk0
              simp only [bkV, bkC]
              have hbz := hb9.trans ((below_alloc w9 (.cells #[.string n2, .int .i64 w2, .int .i64 c2, .int .i64 s2, .int .i64 z2] 33)).mono hb9.size)
              have HEND : Hid (DrS W pb mb (t + 1) l2 (f) (w9.alloc (.cells #[.string n2, .int .i64 w2, .int .i64 c2, .int .i64 s2, .int .i64 z2] 33))) := ⟨(HPT.out.other (fun k hk => .inl (HOM.out.2.2.2 k hk))).below hbz, HMT.out.below hbz, HMBL.out, HRELT.out⟩
              have hrz := HRT.out.below hbz
              have z4 : (w9.alloc (.cells #[.string n2, .int .i64 w2, .int .i64 c2, .int .i64 s2, .int .i64 z2] 33)).cell? ⟨bb, 4, none⟩ = some (.int .i64 z0) := hrz.cell 4
              clear hbz hrz hb9 HPT HMT HRT
              cases th with
              | false =>
                go_wp2_with fail
                go_roundw
                case rel => exact ⟨t + 1, l2, _, by omega, hlt, by go_num, HEND⟩
                case measure => simp [intOf]; omega
              | true =>
                by_cases hz1 : 1 < z0
                · obtain rfl : th2 = true := HSTL.out (by trivial) hz1
                  have hz2 : decide (1 < z0) = true := decide_eq_true hz1
                  go_wp2_with fail
                  go_roundw
                  case rel => exact ⟨t + 1, l2, _, by omega, hlt, by go_num, HEND⟩
                  case measure => simp [intOf]; omega
                · have hz2 : decide (1 < z0) = false := decide_eq_false hz1
                  clear hz1
                  go_wp2_with fail
                  go_roundw
                  case rel => exact ⟨t + 1, l2, _, by omega, hlt, by go_num, HEND⟩
                  case measure => simp [intOf]; omega
        by_cases hk : k = 1
        · as_aux_lemma =>
            have k0 : (k == 0) = false := by subst hk; rfl
            have k1 : (k == 1) = true := by subst hk; rfl
            have y1 : w5.cell? ⟨ab, 1, none⟩ = some (.int .i64 u) := HRA5.out.cell 1
            clear hk
            go_wp2_with fail
            refine (rewB W W.heap.size pb t HN2.out l O3 s hs40 w5 HP5.out HO5.out u).mono ?_
            rintro e w6 ⟨rfl, hp6, hk6⟩
            have HP6 := Lib.hid hp6
            have HM6 := Lib.hid (HM5.out.keep hk6 (fun e => e HOM.out.1))
            have HR6 := Lib.hid (HRB5.out.keep hk6 (fun e => e HOM.out.2.2.1))
            clear hp6 hk6
            have HPT := HP6
            have HMT := Lib.hid (HM6.out.mono (Nat.le_succ t))
            have HRT := HR6
            have HRELT : Hid (ShutR (chL l s (rw2 u)) f) := HREL.out.ch (rw2_nm u) (fun b _ => by rw [rw2_st])
            have HSTL : Hid (th = true → 1 < z0 → (fndB (chL l s (rw2 u)) s).isSome = true) := Lib.hid (still_th HP5.out.good.1 HTH.out HB0.out (rw2_nm u) (fun b => by rw [rw2_bz]; omega))
            clear HP6 HM6 HR6
            obtain ⟨l2, hl2⟩ : ∃ l2, l2 = chL l s (rw2 u) := ⟨_, rfl⟩
            rw [← hl2] at HPT HRELT HSTL
            clear hl2
            go_wp2_with fail
            refine (getB W W.heap.size pb (t + 1) l2 O3 s hs40 w6 HPT.out).mono ?_
            rintro e w9 ⟨rfl, hb9⟩
            obtain ⟨th2, hth2⟩ : ∃ th2, th2 = (fndB l2 s).isSome := ⟨_, rfl⟩
            rw [← hth2] at HSTL ⊢
            clear hth2
            obtain ⟨n2, w2, c2, s2, z2⟩ := (fndB l2 s).getD bk0
            simp only [bkV, bkC]
            have hbz := hb9.trans ((below_alloc w9 (.cells #[.string n2, .int .i64 w2, .int .i64 c2, .int .i64 s2, .int .i64 z2] 33)).mono hb9.size)
            have HEND : Hid (DrS W pb mb (t + 1) l2 (f) (w9.alloc (.cells #[.string n2, .int .i64 w2, .int .i64 c2, .int .i64 s2, .int .i64 z2] 33))) := ⟨(HPT.out.other (fun k hk => .inl (HOM.out.2.2.2 k hk))).below hbz, HMT.out.below hbz, HMBL.out, HRELT.out⟩
            have hrz := HRT.out.below hbz
            have z4 : (w9.alloc (.cells #[.string n2, .int .i64 w2, .int .i64 c2, .int .i64 s2, .int .i64 z2] 33)).cell? ⟨bb, 4, none⟩ = some (.int .i64 z0) := hrz.cell 4
            clear hbz hrz hb9 HPT HMT HRT
            cases th with
            | false =>
              go_wp2_with fail
              go_roundw
              case rel => exact ⟨t + 1, l2, _, by omega, hlt, by go_num, HEND⟩
              case measure => simp [intOf]; omega
            | true =>
              by_cases hz1 : 1 < z0
              · obtain rfl : th2 = true := HSTL.out (by trivial) hz1
                have hz2 : decide (1 < z0) = true := decide_eq_true hz1
                go_wp2_with fail
                go_roundw
                case rel => exact ⟨t + 1, l2, _, by omega, hlt, by go_num, HEND⟩
                case measure => simp [intOf]; omega
              · have hz2 : decide (1 < z0) = false := decide_eq_false hz1
                clear hz1
                go_wp2_with fail
                go_roundw
                case rel => exact ⟨t + 1, l2, _, by omega, hlt, by go_num, HEND⟩
                case measure => simp [intOf]; omega
        by_cases hk : k = 2
        · as_aux_lemma =>
            have k0 : (k == 0) = false := by subst hk; rfl
            have k1 : (k == 1) = false := by subst hk; rfl
            have k2 : (k == 2) = true := by subst hk; rfl
            clear hk
            go_wp2_with fail
            refine (drainB W W.heap.size pb t HN2.out l O3 s hs40 w5 HP5.out HO5.out).mono ?_
            rintro e w6 ⟨rfl, hp6, hk6⟩
            have HP6 := Lib.hid hp6
            have HM6 := Lib.hid (HM5.out.keep hk6 (fun e => e HOM.out.1))
            have HR6 := Lib.hid (HRB5.out.keep hk6 (fun e => e HOM.out.2.2.1))
            clear hp6 hk6
            by_cases hE : chE l s tn1E = 0
            · have HE := Lib.hid hE
              have tE : (chE l s tn1E == 0) = true := by simp [hE]
              clear hE
              go_upto_region 34 with (at_mapUpdate; refine wpl_storeO MO _ rfl _ _ _ rfl mb t f rfl HM6.out (by have := HN2.out; omega) s true rfl rfl (by unfold maxLen; omega) ?_; intro w7 m7 g7)
              have HPT := Lib.hid (HP6.out.keep (G := fun k => k = mb) (Keep.turned g7 rfl) HOM.out.2.2.2 (fun k hk e => by have := HMBL.out; omega))
              have HMT := Lib.hid m7
              have HRT := Lib.hid (HR6.out.grown g7.grown (fun e => HHS.out (Option.some.inj e).symm))
              have HRELT : Hid (ShutR (chL l s (tn1 1)) (updO f s (some true))) := HREL.out.tn 1 HE.out
              have HSTL : Hid (th = true → 1 < z0 → (fndB (chL l s (tn1 1)) s).isSome = true) := Lib.hid (still_th HP5.out.good.1 HTH.out HB0.out (tn1_nm 1) (fun b => by rw [tn1_bz]; omega))
              clear HP6 HM6 HR6 m7 g7
              obtain ⟨l2, hl2⟩ : ∃ l2, l2 = chL l s (tn1 1) := ⟨_, rfl⟩
              rw [← hl2] at HPT HRELT HSTL
              clear hl2
              go_wp2_with fail
              refine (getB W W.heap.size pb (t + 1) l2 O3 s hs40 w7 HPT.out).mono ?_
              rintro e w9 ⟨rfl, hb9⟩
              obtain ⟨th2, hth2⟩ : ∃ th2, th2 = (fndB l2 s).isSome := ⟨_, rfl⟩
              rw [← hth2] at HSTL ⊢
              clear hth2
              obtain ⟨n2, w2, c2, s2, z2⟩ := (fndB l2 s).getD bk0
              simp only [bkV, bkC]
              have hbz := hb9.trans ((below_alloc w9 (.cells #[.string n2, .int .i64 w2, .int .i64 c2, .int .i64 s2, .int .i64 z2] 33)).mono hb9.size)
              have HEND : Hid (DrS W pb mb (t + 1) l2 (updO f s (some true)) (w9.alloc (.cells #[.string n2, .int .i64 w2, .int .i64 c2, .int .i64 s2, .int .i64 z2] 33))) := ⟨(HPT.out.other (fun k hk => .inl (HOM.out.2.2.2 k hk))).below hbz, HMT.out.below hbz, HMBL.out, HRELT.out⟩
              have hrz := HRT.out.below hbz
              have z4 : (w9.alloc (.cells #[.string n2, .int .i64 w2, .int .i64 c2, .int .i64 s2, .int .i64 z2] 33)).cell? ⟨bb, 4, none⟩ = some (.int .i64 z0) := hrz.cell 4
              clear hbz hrz hb9 HPT HMT HRT
              cases th with
              | false =>
                go_wp2_with fail
                go_roundw
                case rel => exact ⟨t + 1, l2, _, by omega, hlt, by go_num, HEND⟩
                case measure => simp [intOf]; omega
              | true =>
                by_cases hz1 : 1 < z0
                · obtain rfl : th2 = true := HSTL.out (by trivial) hz1
                  have hz2 : decide (1 < z0) = true := decide_eq_true hz1
                  go_wp2_with fail
                  go_roundw
                  case rel => exact ⟨t + 1, l2, _, by omega, hlt, by go_num, HEND⟩
                  case measure => simp [intOf]; omega
                · have hz2 : decide (1 < z0) = false := decide_eq_false hz1
                  clear hz1
                  go_wp2_with fail
                  go_roundw
                  case rel => exact ⟨t + 1, l2, _, by omega, hlt, by go_num, HEND⟩
                  case measure => simp [intOf]; omega
            · have HE := Lib.hid hE
              have tE : (chE l s tn1E == 0) = false := by simp [hE]
              clear hE
              have HPT := HP6
              have HMT := Lib.hid (HM6.out.mono (Nat.le_succ t))
              have HRT := HR6
              have HRELT : Hid (ShutR (chL l s (tn1 1)) f) := HREL.out.tn_no 1 HE.out
              have HSTL : Hid (th = true → 1 < z0 → (fndB (chL l s (tn1 1)) s).isSome = true) := Lib.hid (still_th HP5.out.good.1 HTH.out HB0.out (tn1_nm 1) (fun b => by rw [tn1_bz]; omega))
              clear HP6 HM6 HR6
              obtain ⟨l2, hl2⟩ : ∃ l2, l2 = chL l s (tn1 1) := ⟨_, rfl⟩
              rw [← hl2] at HPT HRELT HSTL
              clear hl2
              go_wp2_with fail
              refine (getB W W.heap.size pb (t + 1) l2 O3 s hs40 w6 HPT.out).mono ?_
              rintro e w9 ⟨rfl, hb9⟩
              obtain ⟨th2, hth2⟩ : ∃ th2, th2 = (fndB l2 s).isSome := ⟨_, rfl⟩
              rw [← hth2] at HSTL ⊢
              clear hth2
              obtain ⟨n2, w2, c2, s2, z2⟩ := (fndB l2 s).getD bk0
              simp only [bkV, bkC]
              have hbz := hb9.trans ((below_alloc w9 (.cells #[.string n2, .int .i64 w2, .int .i64 c2, .int .i64 s2, .int .i64 z2] 33)).mono hb9.size)
              have HEND : Hid (DrS W pb mb (t + 1) l2 (f) (w9.alloc (.cells #[.string n2, .int .i64 w2, .int .i64 c2, .int .i64 s2, .int .i64 z2] 33))) := ⟨(HPT.out.other (fun k hk => .inl (HOM.out.2.2.2 k hk))).below hbz, HMT.out.below hbz, HMBL.out, HRELT.out⟩
              have hrz := HRT.out.below hbz
              have z4 : (w9.alloc (.cells #[.string n2, .int .i64 w2, .int .i64 c2, .int .i64 s2, .int .i64 z2] 33)).cell? ⟨bb, 4, none⟩ = some (.int .i64 z0) := hrz.cell 4
              clear hbz hrz hb9 HPT HMT HRT
              cases th with
              | false =>
                go_wp2_with fail
                go_roundw
                case rel => exact ⟨t + 1, l2, _, by omega, hlt, by go_num, HEND⟩
                case measure => simp [intOf]; omega
              | true =>
                by_cases hz1 : 1 < z0
                · obtain rfl : th2 = true := HSTL.out (by trivial) hz1
                  have hz2 : decide (1 < z0) = true := decide_eq_true hz1
                  go_wp2_with fail
                  go_roundw
                  case rel => exact ⟨t + 1, l2, _, by omega, hlt, by go_num, HEND⟩
                  case measure => simp [intOf]; omega
                · have hz2 : decide (1 < z0) = false := decide_eq_false hz1
                  clear hz1
                  go_wp2_with fail
                  go_roundw
                  case rel => exact ⟨t + 1, l2, _, by omega, hlt, by go_num, HEND⟩
                  case measure => simp [intOf]; omega
        by_cases hk : k = 3
        · as_aux_lemma =>
            have k0 : (k == 0) = false := by subst hk; rfl
            have k1 : (k == 1) = false := by subst hk; rfl
            have k2 : (k == 2) = false := by subst hk; rfl
            have k3 : (k == 3) = true := by subst hk; rfl
            clear hk
            go_wp2_with fail
            refine (undrainB W W.heap.size pb t HN2.out l O3 s hs40 w5 HP5.out HO5.out).mono ?_
            rintro e w6 ⟨rfl, hp6, hk6⟩
            have HP6 := Lib.hid hp6
            have HM6 := Lib.hid (HM5.out.keep hk6 (fun e => e HOM.out.1))
            have HR6 := Lib.hid (HRB5.out.keep hk6 (fun e => e HOM.out.2.2.1))
            clear hp6 hk6
            by_cases hE : chE l s tn1E = 0
            · have HE := Lib.hid hE
              have tE : (chE l s tn1E == 0) = true := by simp [hE]
              clear hE
              go_upto_region 34 with (at_mapUpdate; refine wpl_storeO MO _ rfl _ _ _ rfl mb t f rfl HM6.out (by have := HN2.out; omega) s false rfl rfl (by unfold maxLen; omega) ?_; intro w7 m7 g7)
              have HPT := Lib.hid (HP6.out.keep (G := fun k => k = mb) (Keep.turned g7 rfl) HOM.out.2.2.2 (fun k hk e => by have := HMBL.out; omega))
              have HMT := Lib.hid m7
              have HRT := Lib.hid (HR6.out.grown g7.grown (fun e => HHS.out (Option.some.inj e).symm))
              have HRELT : Hid (ShutR (chL l s (tn1 0)) (updO f s (some false))) := HREL.out.tn 0 HE.out
              have HSTL : Hid (th = true → 1 < z0 → (fndB (chL l s (tn1 0)) s).isSome = true) := Lib.hid (still_th HP5.out.good.1 HTH.out HB0.out (tn1_nm 0) (fun b => by rw [tn1_bz]; omega))
              clear HP6 HM6 HR6 m7 g7
              obtain ⟨l2, hl2⟩ : ∃ l2, l2 = chL l s (tn1 0) := ⟨_, rfl⟩
              rw [← hl2] at HPT HRELT HSTL
              clear hl2
              go_wp2_with fail
              refine (getB W W.heap.size pb (t + 1) l2 O3 s hs40 w7 HPT.out).mono ?_
              rintro e w9 ⟨rfl, hb9⟩
              obtain ⟨th2, hth2⟩ : ∃ th2, th2 = (fndB l2 s).isSome := ⟨_, rfl⟩
              rw [← hth2] at HSTL ⊢
              clear hth2
              obtain ⟨n2, w2, c2, s2, z2⟩ := (fndB l2 s).getD bk0
              simp only [bkV, bkC]
              have hbz := hb9.trans ((below_alloc w9 (.cells #[.string n2, .int .i64 w2, .int .i64 c2, .int .i64 s2, .int .i64 z2] 33)).mono hb9.size)
              have HEND : Hid (DrS W pb mb (t + 1) l2 (updO f s (some false)) (w9.alloc (.cells #[.string n2, .int .i64 w2, .int .i64 c2, .int .i64 s2, .int .i64 z2] 33))) := ⟨(HPT.out.other (fun k hk => .inl (HOM.out.2.2.2 k hk))).below hbz, HMT.out.below hbz, HMBL.out, HRELT.out⟩
              have hrz := HRT.out.below hbz
              have z4 : (w9.alloc (.cells #[.string n2, .int .i64 w2, .int .i64 c2, .int .i64 s2, .int .i64 z2] 33)).cell? ⟨bb, 4, none⟩ = some (.int .i64 z0) := hrz.cell 4
              clear hbz hrz hb9 HPT HMT HRT
              cases th with
              | false =>
                go_wp2_with fail
                go_roundw
                case rel => exact ⟨t + 1, l2, _, by omega, hlt, by go_num, HEND⟩
                case measure => simp [intOf]; omega
              | true =>
                by_cases hz1 : 1 < z0
                · obtain rfl : th2 = true := HSTL.out (by trivial) hz1
                  have hz2 : decide (1 < z0) = true := decide_eq_true hz1
                  go_wp2_with fail
                  go_roundw
                  case rel => exact ⟨t + 1, l2, _, by omega, hlt, by go_num, HEND⟩
                  case measure => simp [intOf]; omega
                · have hz2 : decide (1 < z0) = false := decide_eq_false hz1
                  clear hz1
                  go_wp2_with fail
                  go_roundw
                  case rel => exact ⟨t + 1, l2, _, by omega, hlt, by go_num, HEND⟩
                  case measure => simp [intOf]; omega
            · have HE := Lib.hid hE
              have tE : (chE l s tn1E == 0) = false := by simp [hE]
              clear hE
              have HPT := HP6
              have HMT := Lib.hid (HM6.out.mono (Nat.le_succ t))
              have HRT := HR6
              have HRELT : Hid (ShutR (chL l s (tn1 0)) f) := HREL.out.tn_no 0 HE.out
              have HSTL : Hid (th = true → 1 < z0 → (fndB (chL l s (tn1 0)) s).isSome = true) := Lib.hid (still_th HP5.out.good.1 HTH.out HB0.out (tn1_nm 0) (fun b => by rw [tn1_bz]; omega))
              clear HP6 HM6 HR6
              obtain ⟨l2, hl2⟩ : ∃ l2, l2 = chL l s (tn1 0) := ⟨_, rfl⟩
              rw [← hl2] at HPT HRELT HSTL
              clear hl2
              go_wp2_with fail
              refine (getB W W.heap.size pb (t + 1) l2 O3 s hs40 w6 HPT.out).mono ?_
              rintro e w9 ⟨rfl, hb9⟩
              obtain ⟨th2, hth2⟩ : ∃ th2, th2 = (fndB l2 s).isSome := ⟨_, rfl⟩
              rw [← hth2] at HSTL ⊢
              clear hth2
              obtain ⟨n2, w2, c2, s2, z2⟩ := (fndB l2 s).getD bk0
              simp only [bkV, bkC]
              have hbz := hb9.trans ((below_alloc w9 (.cells #[.string n2, .int .i64 w2, .int .i64 c2, .int .i64 s2, .int .i64 z2] 33)).mono hb9.size)
              have HEND : Hid (DrS W pb mb (t + 1) l2 (f) (w9.alloc (.cells #[.string n2, .int .i64 w2, .int .i64 c2, .int .i64 s2, .int .i64 z2] 33))) := ⟨(HPT.out.other (fun k hk => .inl (HOM.out.2.2.2 k hk))).below hbz, HMT.out.below hbz, HMBL.out, HRELT.out⟩
              have hrz := HRT.out.below hbz
              have z4 : (w9.alloc (.cells #[.string n2, .int .i64 w2, .int .i64 c2, .int .i64 s2, .int .i64 z2] 33)).cell? ⟨bb, 4, none⟩ = some (.int .i64 z0) := hrz.cell 4
              clear hbz hrz hb9 HPT HMT HRT
              cases th with
              | false =>
                go_wp2_with fail
                go_roundw
                case rel => exact ⟨t + 1, l2, _, by omega, hlt, by go_num, HEND⟩
                case measure => simp [intOf]; omega
              | true =>
                by_cases hz1 : 1 < z0
                · obtain rfl : th2 = true := HSTL.out (by trivial) hz1
                  have hz2 : decide (1 < z0) = true := decide_eq_true hz1
                  go_wp2_with fail
                  go_roundw
                  case rel => exact ⟨t + 1, l2, _, by omega, hlt, by go_num, HEND⟩
                  case measure => simp [intOf]; omega
                · have hz2 : decide (1 < z0) = false := decide_eq_false hz1
                  clear hz1
                  go_wp2_with fail
                  go_roundw
                  case rel => exact ⟨t + 1, l2, _, by omega, hlt, by go_num, HEND⟩
                  case measure => simp [intOf]; omega
        by_cases hk : k = 4
        · as_aux_lemma =>
            have k0 : (k == 0) = false := by subst hk; rfl
            have k1 : (k == 1) = false := by subst hk; rfl
            have k2 : (k == 2) = false := by subst hk; rfl
            have k3 : (k == 3) = false := by subst hk; rfl
            have k4 : (k == 4) = true := by subst hk; rfl
            clear hk
            go_wp2_with fail
            refine (removeB W W.heap.size pb t HN2.out l O3 s hs40 w5 HP5.out HO5.out).mono ?_
            rintro e w6 ⟨rfl, hp6, hk6⟩
            have HP6 := Lib.hid hp6
            have HM6 := Lib.hid (HM5.out.keep hk6 (fun e => e HOM.out.1))
            have HR6 := Lib.hid (HRB5.out.keep hk6 (fun e => e HOM.out.2.2.1))
            clear hp6 hk6
            by_cases hE : chE l s tn1E = 0
            · have HE := Lib.hid hE
              have tE : (chE l s tn1E == 0) = true := by simp [hE]
              clear hE
              go_upto_region 34 with (at_mapUpdate; refine wpl_storeO MO _ rfl _ _ _ rfl mb t f rfl HM6.out (by have := HN2.out; omega) s true rfl rfl (by unfold maxLen; omega) ?_; intro w7 m7 g7)
              have HPT := Lib.hid (HP6.out.keep (G := fun k => k = mb) (Keep.turned g7 rfl) HOM.out.2.2.2 (fun k hk e => by have := HMBL.out; omega))
              have HMT := Lib.hid m7
              have HRT := Lib.hid (HR6.out.grown g7.grown (fun e => HHS.out (Option.some.inj e).symm))
              have HRELT : Hid (ShutR (chL l s (tn1 2)) (updO f s (some true))) := HREL.out.tn 2 HE.out
              have HSTL : Hid (th = true → 1 < z0 → (fndB (chL l s (tn1 2)) s).isSome = true) := Lib.hid (still_th HP5.out.good.1 HTH.out HB0.out (tn1_nm 2) (fun b => by rw [tn1_bz]; omega))
              clear HP6 HM6 HR6 m7 g7
              obtain ⟨l2, hl2⟩ : ∃ l2, l2 = chL l s (tn1 2) := ⟨_, rfl⟩
              rw [← hl2] at HPT HRELT HSTL
              clear hl2
              go_wp2_with fail
              refine (getB W W.heap.size pb (t + 1) l2 O3 s hs40 w7 HPT.out).mono ?_
              rintro e w9 ⟨rfl, hb9⟩
              obtain ⟨th2, hth2⟩ : ∃ th2, th2 = (fndB l2 s).isSome := ⟨_, rfl⟩
              rw [← hth2] at HSTL ⊢
              clear hth2
              obtain ⟨n2, w2, c2, s2, z2⟩ := (fndB l2 s).getD bk0
              simp only [bkV, bkC]
              have hbz := hb9.trans ((below_alloc w9 (.cells #[.string n2, .int .i64 w2, .int .i64 c2, .int .i64 s2, .int .i64 z2] 33)).mono hb9.size)
              have HEND : Hid (DrS W pb mb (t + 1) l2 (updO f s (some true)) (w9.alloc (.cells #[.string n2, .int .i64 w2, .int .i64 c2, .int .i64 s2, .int .i64 z2] 33))) := ⟨(HPT.out.other (fun k hk => .inl (HOM.out.2.2.2 k hk))).below hbz, HMT.out.below hbz, HMBL.out, HRELT.out⟩
              have hrz := HRT.out.below hbz
              have z4 : (w9.alloc (.cells #[.string n2, .int .i64 w2, .int .i64 c2, .int .i64 s2, .int .i64 z2] 33)).cell? ⟨bb, 4, none⟩ = some (.int .i64 z0) := hrz.cell 4
              clear hbz hrz hb9 HPT HMT HRT
              cases th with
              | false =>
                go_wp2_with fail
                go_roundw
                case rel => exact ⟨t + 1, l2, _, by omega, hlt, by go_num, HEND⟩
                case measure => simp [intOf]; omega
              | true =>
                by_cases hz1 : 1 < z0
                · obtain rfl : th2 = true := HSTL.out (by trivial) hz1
                  have hz2 : decide (1 < z0) = true := decide_eq_true hz1
                  go_wp2_with fail
                  go_roundw
                  case rel => exact ⟨t + 1, l2, _, by omega, hlt, by go_num, HEND⟩
                  case measure => simp [intOf]; omega
                · have hz2 : decide (1 < z0) = false := decide_eq_false hz1
                  clear hz1
                  go_wp2_with fail
                  go_roundw
                  case rel => exact ⟨t + 1, l2, _, by omega, hlt, by go_num, HEND⟩
                  case measure => simp [intOf]; omega
            · have HE := Lib.hid hE
              have tE : (chE l s tn1E == 0) = false := by simp [hE]
              clear hE
              have HPT := HP6
              have HMT := Lib.hid (HM6.out.mono (Nat.le_succ t))
              have HRT := HR6
              have HRELT : Hid (ShutR (chL l s (tn1 2)) f) := HREL.out.tn_no 2 HE.out
              have HSTL : Hid (th = true → 1 < z0 → (fndB (chL l s (tn1 2)) s).isSome = true) := Lib.hid (still_th HP5.out.good.1 HTH.out HB0.out (tn1_nm 2) (fun b => by rw [tn1_bz]; omega))
              clear HP6 HM6 HR6
              obtain ⟨l2, hl2⟩ : ∃ l2, l2 = chL l s (tn1 2) := ⟨_, rfl⟩
              rw [← hl2] at HPT HRELT HSTL
              clear hl2
              go_wp2_with fail
              refine (getB W W.heap.size pb (t + 1) l2 O3 s hs40 w6 HPT.out).mono ?_
              rintro e w9 ⟨rfl, hb9⟩
              obtain ⟨th2, hth2⟩ : ∃ th2, th2 = (fndB l2 s).isSome := ⟨_, rfl⟩
              rw [← hth2] at HSTL ⊢
              clear hth2
              obtain ⟨n2, w2, c2, s2, z2⟩ := (fndB l2 s).getD bk0
              simp only [bkV, bkC]
              have hbz := hb9.trans ((below_alloc w9 (.cells #[.string n2, .int .i64 w2, .int .i64 c2, .int .i64 s2, .int .i64 z2] 33)).mono hb9.size)
              have HEND : Hid (DrS W pb mb (t + 1) l2 (f) (w9.alloc (.cells #[.string n2, .int .i64 w2, .int .i64 c2, .int .i64 s2, .int .i64 z2] 33))) := ⟨(HPT.out.other (fun k hk => .inl (HOM.out.2.2.2 k hk))).below hbz, HMT.out.below hbz, HMBL.out, HRELT.out⟩
              have hrz := HRT.out.below hbz
              have z4 : (w9.alloc (.cells #[.string n2, .int .i64 w2, .int .i64 c2, .int .i64 s2, .int .i64 z2] 33)).cell? ⟨bb, 4, none⟩ = some (.int .i64 z0) := hrz.cell 4
              clear hbz hrz hb9 HPT HMT HRT
              cases th with
              | false =>
                go_wp2_with fail
                go_roundw
                case rel => exact ⟨t + 1, l2, _, by omega, hlt, by go_num, HEND⟩
                case measure => simp [intOf]; omega
              | true =>
                by_cases hz1 : 1 < z0
                · obtain rfl : th2 = true := HSTL.out (by trivial) hz1
                  have hz2 : decide (1 < z0) = true := decide_eq_true hz1
                  go_wp2_with fail
                  go_roundw
                  case rel => exact ⟨t + 1, l2, _, by omega, hlt, by go_num, HEND⟩
                  case measure => simp [intOf]; omega
                · have hz2 : decide (1 < z0) = false := decide_eq_false hz1
                  clear hz1
                  go_wp2_with fail
                  go_roundw
                  case rel => exact ⟨t + 1, l2, _, by omega, hlt, by go_num, HEND⟩
                  case measure => simp [intOf]; omega
        by_cases hk : k = 5
        · as_aux_lemma =>
            have k0 : (k == 0) = false := by subst hk; rfl
            have k1 : (k == 1) = false := by subst hk; rfl
            have k2 : (k == 2) = false := by subst hk; rfl
            have k3 : (k == 3) = false := by subst hk; rfl
            have k4 : (k == 4) = false := by subst hk; rfl
            have k5 : (k == 5) = true := by subst hk; rfl
            clear hk
            go_wp2_with fail
            refine (takeB W W.heap.size pb t HN2.out l O3 s hs40 w5 HP5.out HO5.out).mono ?_
            rintro e w6 ⟨rfl, hp6, hk6⟩
            have HP6 := Lib.hid hp6
            have HM6 := Lib.hid (HM5.out.keep hk6 (fun e => e HOM.out.1))
            have HR6 := Lib.hid (HRB5.out.keep hk6 (fun e => e HOM.out.2.2.1))
            clear hp6 hk6
            by_cases hE : chE l s tk1E = 0
            · have HE := Lib.hid hE
              have tE : (chE l s tk1E == 0) = true := by simp [hE]
              clear hE
              have hsh := take_shut HREL.out HE.out
              have hth1 : th = true := HTH.out.trans hsh.1
              have hlk := HM6.out.look (s := s) (by unfold maxLen; omega)
              simp only [MO] at hlk
              rw [hsh.2] at hlk
              subst hth1
              have HPT := HP6
              have HMT := Lib.hid (HM6.out.mono (Nat.le_succ t))
              have HRT := HR6
              have HRELT : Hid (ShutR (chL l s tk1) f) := HREL.out.ch tk1_nm (fun b _ => by rw [tk1_st])
              have HSTL : Hid (true = true → 1 < z0 → (fndB (chL l s tk1) s).isSome = true) := Lib.hid (still_th HP5.out.good.1 HTH.out HB0.out tk1_nm (fun b => by have := tk1_ge b; omega))
              clear HP6 HR6 hsh
              obtain ⟨l2, hl2⟩ : ∃ l2, l2 = chL l s tk1 := ⟨_, rfl⟩
              rw [← hl2] at HPT HRELT HSTL
              clear hl2
              go_wp2_with fail
              refine (getB W W.heap.size pb (t + 1) l2 O3 s hs40 w6 HPT.out).mono ?_
              rintro e w9 ⟨rfl, hb9⟩
              obtain ⟨th2, hth2⟩ : ∃ th2, th2 = (fndB l2 s).isSome := ⟨_, rfl⟩
              rw [← hth2] at HSTL ⊢
              clear hth2
              obtain ⟨n2, w2, c2, s2, z2⟩ := (fndB l2 s).getD bk0
              simp only [bkV, bkC]
              have hbz := hb9.trans ((below_alloc w9 (.cells #[.string n2, .int .i64 w2, .int .i64 c2, .int .i64 s2, .int .i64 z2] 33)).mono hb9.size)
              have HEND : Hid (DrS W pb mb (t + 1) l2 (f) (w9.alloc (.cells #[.string n2, .int .i64 w2, .int .i64 c2, .int .i64 s2, .int .i64 z2] 33))) := ⟨(HPT.out.other (fun k hk => .inl (HOM.out.2.2.2 k hk))).below hbz, HMT.out.below hbz, HMBL.out, HRELT.out⟩
              have hrz := HRT.out.below hbz
              have z4 : (w9.alloc (.cells #[.string n2, .int .i64 w2, .int .i64 c2, .int .i64 s2, .int .i64 z2] 33)).cell? ⟨bb, 4, none⟩ = some (.int .i64 z0) := hrz.cell 4
              clear hbz hrz hb9 HPT HMT HRT
              by_cases hz1 : 1 < z0
              · obtain rfl : th2 = true := HSTL.out (by trivial) hz1
                have hz2 : decide (1 < z0) = true := decide_eq_true hz1
                go_wp2_with fail
                go_roundw
                case rel => exact ⟨t + 1, l2, _, by omega, hlt, by go_num, HEND⟩
                case measure => simp [intOf]; omega
              · have hz2 : decide (1 < z0) = false := decide_eq_false hz1
                clear hz1
                go_wp2_with fail
                go_roundw
                case rel => exact ⟨t + 1, l2, _, by omega, hlt, by go_num, HEND⟩
                case measure => simp [intOf]; omega
            · have HE := Lib.hid hE
              have tE : (chE l s tk1E == 0) = false := by simp [hE]
              clear hE
              have HPT := HP6
              have HMT := Lib.hid (HM6.out.mono (Nat.le_succ t))
              have HRT := HR6
              have HRELT : Hid (ShutR (chL l s tk1) f) := HREL.out.ch tk1_nm (fun b _ => by rw [tk1_st])
              have HSTL : Hid (th = true → 1 < z0 → (fndB (chL l s tk1) s).isSome = true) := Lib.hid (still_th HP5.out.good.1 HTH.out HB0.out tk1_nm (fun b => by have := tk1_ge b; omega))
              clear HP6 HM6 HR6
              obtain ⟨l2, hl2⟩ : ∃ l2, l2 = chL l s tk1 := ⟨_, rfl⟩
              rw [← hl2] at HPT HRELT HSTL
              clear hl2
              go_wp2_with fail
              refine (getB W W.heap.size pb (t + 1) l2 O3 s hs40 w6 HPT.out).mono ?_
              rintro e w9 ⟨rfl, hb9⟩
              obtain ⟨th2, hth2⟩ : ∃ th2, th2 = (fndB l2 s).isSome := ⟨_, rfl⟩
              rw [← hth2] at HSTL ⊢
              clear hth2
              obtain ⟨n2, w2, c2, s2, z2⟩ := (fndB l2 s).getD bk0
              simp only [bkV, bkC]
              have hbz := hb9.trans ((below_alloc w9 (.cells #[.string n2, .int .i64 w2, .int .i64 c2, .int .i64 s2, .int .i64 z2] 33)).mono hb9.size)
              have HEND : Hid (DrS W pb mb (t + 1) l2 (f) (w9.alloc (.cells #[.string n2, .int .i64 w2, .int .i64 c2, .int .i64 s2, .int .i64 z2] 33))) := ⟨(HPT.out.other (fun k hk => .inl (HOM.out.2.2.2 k hk))).below hbz, HMT.out.below hbz, HMBL.out, HRELT.out⟩
              have hrz := HRT.out.below hbz
              have z4 : (w9.alloc (.cells #[.string n2, .int .i64 w2, .int .i64 c2, .int .i64 s2, .int .i64 z2] 33)).cell? ⟨bb, 4, none⟩ = some (.int .i64 z0) := hrz.cell 4
              clear hbz hrz hb9 HPT HMT HRT
              cases th with
              | false =>
                go_wp2_with fail
                go_roundw
                case rel => exact ⟨t + 1, l2, _, by omega, hlt, by go_num, HEND⟩
                case measure => simp [intOf]; omega
              | true =>
                by_cases hz1 : 1 < z0
                · obtain rfl : th2 = true := HSTL.out (by trivial) hz1
                  have hz2 : decide (1 < z0) = true := decide_eq_true hz1
                  go_wp2_with fail
                  go_roundw
                  case rel => exact ⟨t + 1, l2, _, by omega, hlt, by go_num, HEND⟩
                  case measure => simp [intOf]; omega
                · have hz2 : decide (1 < z0) = false := decide_eq_false hz1
                  clear hz1
                  go_wp2_with fail
                  go_roundw
                  case rel => exact ⟨t + 1, l2, _, by omega, hlt, by go_num, HEND⟩
                  case measure => simp [intOf]; omega
        as_aux_lemma =>
          have k0 : (k == 0) = false := by simp; omega
          have k1 : (k == 1) = false := by simp; omega
          have k2 : (k == 2) = false := by simp; omega
          have k3 : (k == 3) = false := by simp; omega
          have k4 : (k == 4) = false := by simp; omega
          have k5 : (k == 5) = false := by simp; omega
          clear hk
          go_wp2_with fail
          refine (giveB W W.heap.size pb t HN2.out l O3 s hs40 w5 HP5.out HO5.out).mono ?_
          rintro e w6 ⟨rfl, hp6, hk6⟩
          have HP6 := Lib.hid hp6
          have HM6 := Lib.hid (HM5.out.keep hk6 (fun e => e HOM.out.1))
          have HR6 := Lib.hid (HRB5.out.keep hk6 (fun e => e HOM.out.2.2.1))
          clear hp6 hk6
          have hlk := HM6.out.look (s := s) (by unfold maxLen; omega)
          simp only [MO] at hlk
          have v4 : w6.cell? ⟨bb, 4, none⟩ = some (.int .i64 z0) := HR6.out.cell 4
          rcases give_cases HP5.out.good.1 HREL.out HTH.out HB0.out with ⟨g1, g2, g3⟩ | ⟨g1, g2, g3, g4⟩ | ⟨g1, g2, g3, g4, g5⟩
          · subst g1
            rw [g2, g3]
            clear g2 g3
            have HPT := HP6
            have HMT := Lib.hid (HM6.out.mono (Nat.le_succ t))
            have HRT := HR6
            have HRELT : Hid (ShutR (chL l s gv1) f) := HREL.out.ch gv1_nm (fun b _ => by rw [gv1_st])
            have HSTL : Hid (false = true → 1 < z0 → (fndB (chL l s gv1) s).isSome = true) := Lib.hid (still_th HP5.out.good.1 HTH.out HB0.out gv1_nm (fun b => gv1_ge b))
            clear HP6 HR6
            obtain ⟨l2, hl2⟩ : ∃ l2, l2 = chL l s gv1 := ⟨_, rfl⟩
            rw [← hl2] at HPT HRELT HSTL
            clear hl2
            go_wp2_with fail
            refine (getB W W.heap.size pb (t + 1) l2 O3 s hs40 w6 HPT.out).mono ?_
            rintro e w9 ⟨rfl, hb9⟩
            obtain ⟨th2, hth2⟩ : ∃ th2, th2 = (fndB l2 s).isSome := ⟨_, rfl⟩
            rw [← hth2] at HSTL ⊢
            clear hth2
            obtain ⟨n2, w2, c2, s2, z2⟩ := (fndB l2 s).getD bk0
            simp only [bkV, bkC]
            have hbz := hb9.trans ((below_alloc w9 (.cells #[.string n2, .int .i64 w2, .int .i64 c2, .int .i64 s2, .int .i64 z2] 33)).mono hb9.size)
            have HEND : Hid (DrS W pb mb (t + 1) l2 (f) (w9.alloc (.cells #[.string n2, .int .i64 w2, .int .i64 c2, .int .i64 s2, .int .i64 z2] 33))) := ⟨(HPT.out.other (fun k hk => .inl (HOM.out.2.2.2 k hk))).below hbz, HMT.out.below hbz, HMBL.out, HRELT.out⟩
            have hrz := HRT.out.below hbz
            have z4 : (w9.alloc (.cells #[.string n2, .int .i64 w2, .int .i64 c2, .int .i64 s2, .int .i64 z2] 33)).cell? ⟨bb, 4, none⟩ = some (.int .i64 z0) := hrz.cell 4
            clear hbz hrz hb9 HPT HMT HRT
            go_wp2_with fail
            go_roundw
            case rel => exact ⟨t + 1, l2, _, by omega, hlt, by go_num, HEND⟩
            case measure => simp [intOf]; omega
          · subst g1 g2
            rw [g3, g4]
            clear g3 g4
            have HPT := HP6
            have HMT := Lib.hid (HM6.out.mono (Nat.le_succ t))
            have HRT := HR6
            have HRELT : Hid (ShutR (chL l s gv1) f) := HREL.out.ch gv1_nm (fun b _ => by rw [gv1_st])
            have HSTL : Hid (true = true → 1 < (0 : Int) → (fndB (chL l s gv1) s).isSome = true) := Lib.hid (still_th HP5.out.good.1 HTH.out HB0.out gv1_nm (fun b => gv1_ge b))
            clear HP6 HR6
            obtain ⟨l2, hl2⟩ : ∃ l2, l2 = chL l s gv1 := ⟨_, rfl⟩
            rw [← hl2] at HPT HRELT HSTL
            clear hl2
            go_wp2_with fail
            refine (getB W W.heap.size pb (t + 1) l2 O3 s hs40 w6 HPT.out).mono ?_
            rintro e w9 ⟨rfl, hb9⟩
            obtain ⟨th2, hth2⟩ : ∃ th2, th2 = (fndB l2 s).isSome := ⟨_, rfl⟩
            rw [← hth2] at HSTL ⊢
            clear hth2
            obtain ⟨n2, w2, c2, s2, z2⟩ := (fndB l2 s).getD bk0
            simp only [bkV, bkC]
            have hbz := hb9.trans ((below_alloc w9 (.cells #[.string n2, .int .i64 w2, .int .i64 c2, .int .i64 s2, .int .i64 z2] 33)).mono hb9.size)
            have HEND : Hid (DrS W pb mb (t + 1) l2 (f) (w9.alloc (.cells #[.string n2, .int .i64 w2, .int .i64 c2, .int .i64 s2, .int .i64 z2] 33))) := ⟨(HPT.out.other (fun k hk => .inl (HOM.out.2.2.2 k hk))).below hbz, HMT.out.below hbz, HMBL.out, HRELT.out⟩
            have hrz := HRT.out.below hbz
            have z4 : (w9.alloc (.cells #[.string n2, .int .i64 w2, .int .i64 c2, .int .i64 s2, .int .i64 z2] 33)).cell? ⟨bb, 4, none⟩ = some (.int .i64 (0 : Int)) := hrz.cell 4
            clear hbz hrz hb9 HPT HMT HRT
            go_wp2_with fail
            go_roundw
            case rel => exact ⟨t + 1, l2, _, by omega, hlt, by go_num, HEND⟩
            case measure => simp [intOf]; omega
          · subst g1
            rw [g3, g4]
            rw [g5] at hlk
            have hz3 : decide (0 < z0) = true := decide_eq_true g2
            clear g3 g4 g5
            cases hs0 : decide (s0 ≠ 0) with
            | false =>
              rw [hs0] at hlk
              simp only [Bool.false_and]
              have HPT := HP6
              have HMT := Lib.hid (HM6.out.mono (Nat.le_succ t))
              have HRT := HR6
              have HRELT : Hid (ShutR (chL l s gv1) f) := HREL.out.ch gv1_nm (fun b _ => by rw [gv1_st])
              have HSTL : Hid (true = true → 1 < z0 → (fndB (chL l s gv1) s).isSome = true) := Lib.hid (still_th HP5.out.good.1 HTH.out HB0.out gv1_nm (fun b => gv1_ge b))
              clear HP6 HR6
              obtain ⟨l2, hl2⟩ : ∃ l2, l2 = chL l s gv1 := ⟨_, rfl⟩
              rw [← hl2] at HPT HRELT HSTL
              clear hl2
              go_wp2_with fail
              refine (getB W W.heap.size pb (t + 1) l2 O3 s hs40 w6 HPT.out).mono ?_
              rintro e w9 ⟨rfl, hb9⟩
              obtain ⟨th2, hth2⟩ : ∃ th2, th2 = (fndB l2 s).isSome := ⟨_, rfl⟩
              rw [← hth2] at HSTL ⊢
              clear hth2
              obtain ⟨n2, w2, c2, s2, z2⟩ := (fndB l2 s).getD bk0
              simp only [bkV, bkC]
              have hbz := hb9.trans ((below_alloc w9 (.cells #[.string n2, .int .i64 w2, .int .i64 c2, .int .i64 s2, .int .i64 z2] 33)).mono hb9.size)
              have HEND : Hid (DrS W pb mb (t + 1) l2 (f) (w9.alloc (.cells #[.string n2, .int .i64 w2, .int .i64 c2, .int .i64 s2, .int .i64 z2] 33))) := ⟨(HPT.out.other (fun k hk => .inl (HOM.out.2.2.2 k hk))).below hbz, HMT.out.below hbz, HMBL.out, HRELT.out⟩
              have hrz := HRT.out.below hbz
              have z4 : (w9.alloc (.cells #[.string n2, .int .i64 w2, .int .i64 c2, .int .i64 s2, .int .i64 z2] 33)).cell? ⟨bb, 4, none⟩ = some (.int .i64 z0) := hrz.cell 4
              clear hbz hrz hb9 HPT HMT HRT
              by_cases hz1 : 1 < z0
              · obtain rfl : th2 = true := HSTL.out (by trivial) hz1
                have hz2 : decide (1 < z0) = true := decide_eq_true hz1
                go_wp2_with fail
                go_roundw
                case rel => exact ⟨t + 1, l2, _, by omega, hlt, by go_num, HEND⟩
                case measure => simp [intOf]; omega
              · have hz2 : decide (1 < z0) = false := decide_eq_false hz1
                clear hz1
                go_wp2_with fail
                go_roundw
                case rel => exact ⟨t + 1, l2, _, by omega, hlt, by go_num, HEND⟩
                case measure => simp [intOf]; omega
            | true =>
              rw [hs0] at hlk
              simp only [Bool.true_and]
              generalize hq1 : (z0 == 1) = q1 at *
              have HPT := HP6
              have HMT := Lib.hid (HM6.out.mono (Nat.le_succ t))
              have HRT := HR6
              have HRELT : Hid (ShutR (chL l s gv1) f) := HREL.out.ch gv1_nm (fun b _ => by rw [gv1_st])
              have HSTL : Hid (true = true → 1 < z0 → (fndB (chL l s gv1) s).isSome = true) := Lib.hid (still_th HP5.out.good.1 HTH.out HB0.out gv1_nm (fun b => gv1_ge b))
              clear HP6 HR6
              obtain ⟨l2, hl2⟩ : ∃ l2, l2 = chL l s gv1 := ⟨_, rfl⟩
              rw [← hl2] at HPT HRELT HSTL
              clear hl2
              go_wp2_with fail
              refine (getB W W.heap.size pb (t + 1) l2 O3 s hs40 w6 HPT.out).mono ?_
              rintro e w9 ⟨rfl, hb9⟩
              obtain ⟨th2, hth2⟩ : ∃ th2, th2 = (fndB l2 s).isSome := ⟨_, rfl⟩
              rw [← hth2] at HSTL ⊢
              clear hth2
              obtain ⟨n2, w2, c2, s2, z2⟩ := (fndB l2 s).getD bk0
              simp only [bkV, bkC]
              have hbz := hb9.trans ((below_alloc w9 (.cells #[.string n2, .int .i64 w2, .int .i64 c2, .int .i64 s2, .int .i64 z2] 33)).mono hb9.size)
              have HEND : Hid (DrS W pb mb (t + 1) l2 (f) (w9.alloc (.cells #[.string n2, .int .i64 w2, .int .i64 c2, .int .i64 s2, .int .i64 z2] 33))) := ⟨(HPT.out.other (fun k hk => .inl (HOM.out.2.2.2 k hk))).below hbz, HMT.out.below hbz, HMBL.out, HRELT.out⟩
              have hrz := HRT.out.below hbz
              have z4 : (w9.alloc (.cells #[.string n2, .int .i64 w2, .int .i64 c2, .int .i64 s2, .int .i64 z2] 33)).cell? ⟨bb, 4, none⟩ = some (.int .i64 z0) := hrz.cell 4
              clear hbz hrz hb9 HPT HMT HRT
              by_cases hz1 : 1 < z0
              · obtain rfl : th2 = true := HSTL.out (by trivial) hz1
                have hz2 : decide (1 < z0) = true := decide_eq_true hz1
                go_wp2_with fail
                go_roundw
                case rel => exact ⟨t + 1, l2, _, by omega, hlt, by go_num, HEND⟩
                case measure => simp [intOf]; omega
              · have hz2 : decide (1 < z0) = false := decide_eq_false hz1
                clear hz1
                go_wp2_with fail
                go_roundw
                case rel => exact ⟨t + 1, l2, _, by omega, hlt, by go_num, HEND⟩
                case measure => simp [intOf]; omega
      · obtain rfl : t = 60 := by omega
        go_wp2_with fail
        go_ret
        exact ⟨rfl, hD.out.pool.bel⟩
    · obtain rfl : t = ats.length := by omega
      have hj0 : ¬ ((ats.length : Int) < ats.length) := by omega
      go_wp2_with fail
      go_ret
      exact ⟨rfl, hD.out.pool.bel⟩
end Go.Proofs.Ytoikgphbicnhaab
