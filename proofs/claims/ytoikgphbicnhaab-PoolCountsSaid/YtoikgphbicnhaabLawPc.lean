/- The law PoolCounts (written by genlawpc.py). -/
import Derived.Test.YtoikgphbicnhaabPlW
namespace Go.Proofs.Ytoikgphbicnhaab
open Go.RowKit Go.Maps Go.Shelf Go.Sort

/-- Between two rounds of PoolCounts. -/
structure PcS (W : World) (pb mb t : Nat) (l : List Bk) (f : ByteArray → Option Int) (w : World) : Prop where
  pool : PoolB W W.heap.size pb t l (fun k => k = mb) w
  mp : MapO MI w mb t f
  mbl : W.heap.size ≤ mb
  rel : ∀ s, (f s).getD 0 = bzOf l s
theorem PcS.below {W w w' : World} {pb mb t : Nat} {l : List Bk} {f : ByteArray → Option Int} (h : PcS W pb mb t l f w) (hb : Below w.heap.size w w') : PcS W pb mb t l f w' :=
  ⟨h.pool.below hb, h.mp.below hb, h.mbl, h.rel⟩
theorem PcS.call {W w w' : World} {pb mb t : Nat} {l l' : List Bk} {f : ByteArray → Option Int} (h : PcS W pb mb t l f w) (hp : PoolB W W.heap.size pb (t + 1) l' (fun k => k = mb) w') (hk : Keep (fun k => ¬ k = mb) w w') (hr : ∀ s, bzOf l' s = bzOf l s) : PcS W pb mb (t + 1) l' f w' :=
  ⟨hp, (h.mp.keep hk (fun e => e rfl)).mono (Nat.le_succ t), h.mbl, fun s => by rw [h.rel, hr]⟩
theorem PcS.put {W w w' w2 : World} {pb mb t : Nat} {l l' : List Bk} {f : ByteArray → Option Int} (h : PcS W pb mb t l f w) (hp : PoolB W W.heap.size pb (t + 1) l' (fun k => k = mb) w') {s : ByteArray} {z : Int} (hm : MapO MI w2 mb (t + 1) (updO f s (some z))) (ht : w'.mapTurned w2 mb) (hr : ∀ x, bzOf l' x = if x = s then z else bzOf l x) : PcS W pb mb (t + 1) l' (updO f s (some z)) w2 :=
  ⟨hp.keep (G := fun k => k = mb) (Keep.turned ht rfl) (fun _ e => e) (fun k hk e => by subst e; have := h.mbl; omega), hm, h.mbl, fun x => by
    rw [hr]
    by_cases e : x = s
    · subst e; rw [updO_same, if_pos rfl]; rfl
    · rw [updO_other _ _ e, if_neg e]; exact h.rel x⟩
theorem bz_act {l : List Bk} (hg : Good l) {k u v : Int} (hk : k = 0 ∨ k = 1 ∨ k = 2 ∨ k = 3 ∨ k = 4) (s x : ByteArray) : bzOf (actL k u v s l) x = bzOf l x := by
  unfold actL
  rcases hk with rfl | rfl | rfl | rfl | rfl
  · exact bz_add x
  · exact bz_same hg (rw2_nm u) (fun b _ => rw2_bz u b) x
  · exact bz_same hg (tn1_nm 1) (fun b _ => tn1_bz 1 b) x
  · exact bz_same hg (tn1_nm 0) (fun b _ => tn1_bz 0 b) x
  · exact bz_same hg (tn1_nm 2) (fun b _ => tn1_bz 2 b) x
theorem bz_bound {l : List Bk} (hg : Good l) (s : ByteArray) : 0 ≤ bzOf l s ∧ bzOf l s ≤ 65535 := by
  unfold bzOf
  cases hf : fndB l s with
  | none => simp
  | some b => have := good_bz hg b (fndB_mem hf).1; exact this
theorem tk_both {l : List Bk} (hg : Good l) {s : ByteArray} : (chE l s tk1E = 0 → ∀ x, bzOf (chL l s tk1) x = if x = s then bzOf l s + 1 else bzOf l x) ∧ (chE l s tk1E ≠ 0 → ∀ x, bzOf (chL l s tk1) x = bzOf l x) := ⟨fun h => bz_tk hg h, fun h => bz_tk_no hg h⟩
theorem gv_both {l : List Bk} (hg : Good l) {s : ByteArray} : (chE l s gv1E = 0 → ∀ x, bzOf (chL l s gv1) x = if x = s then bzOf l s - 1 else bzOf l x) ∧ (chE l s gv1E ≠ 0 → ∀ x, bzOf (chL l s gv1) x = bzOf l x) := ⟨fun h => bz_gv hg h, fun h => bz_gv_no hg h⟩
theorem nil_bks (w : World) : IsBksN w none 0 [] := ⟨.inl rfl, fun _ => rfl, fun p hp => by cases hp⟩
set_option maxHeartbeats 16000000 in
set_option maxRecDepth 100000 in
theorem lawPoolCounts (a : Option Addr) (c : Nat) (ats : List PAct) (hal : ats.length ≤ 9223372036854775807) (W : World) (hA : IsPacts W a c ats) :
    Calls Try.prog 4 #[.slice a ats.length c] W fun e w' => e = .returned (.bool true) ∧ Below W.heap.size W w' := by
  have HA := Lib.hid hA
  clear hA
  have hmm := @run_makeMap Try.prog
  go_enter Try.func4, Try.ntmps4
  go_wp2_with fail
  refine (awake7 _).mono ?_
  rintro e w1 ⟨rfl, hb1⟩
  have HB1 := Lib.hid hb1
  clear hb1
  go_wp2_with fail
  refine (pnew8 _).mono ?_
  rintro e w2 ⟨rfl, hp, hb2⟩
  obtain ⟨pb, hpb⟩ : ∃ pb, pb = w1.heap.size := ⟨_, rfl⟩
  rw [← hpb] at hp ⊢
  have HD : Hid (PcS W pb w2.heap.size 0 [] (fun _ => none) (w2.alloc (.map #[] 0))) := by
    have h1 := HB1.out.size
    have h2 := hb2.size
    have hbb := HB1.out.trans (hb2.mono h1)
    refine ⟨PoolB.below ⟨_, hp, fun k hk => ⟨by subst hk; omega, fun e => ?_⟩, hbb, Nat.le_refl _⟩ (below_alloc _ _), MapO.new MI w2, by omega, fun s => rfl⟩
    have := hp.lt hk
    omega
  clear hp hb2 hpb HB1
  obtain ⟨mb, hmb⟩ : ∃ mb, mb = w2.heap.size := ⟨_, rfl⟩
  rw [← hmb] at HD
  have HMB := Lib.hid hmb.symm
  clear hmb
  go_wp2_with fail
  rw [HMB.out]
  go_loopw [5] (fun i wr => ∃ (t : Nat) (l : List Bk) (f : ByteArray → Option Int), t ≤ 60 ∧ t ≤ ats.length ∧ i = .int .i64 (t : Int) ∧ Hid (PcS W pb mb t l f wr)) (fun i _ => ats.length - (intOf i).toNat)
  case atStart => exact ⟨0, [], fun _ => none, by omega, Nat.zero_le _, rfl, HD⟩
  case round =>
    obtain ⟨t, l, f, ht, hta, rfl, hD⟩ := hrel
    by_cases hlt : t < ats.length
    · have j1 : (t : Int) < ats.length := by omega
      by_cases hl3 : t < 60
      · have j2 : (t : Int) < 60 := by omega
        obtain h0 | ⟨bk, oo, rfl, hbk, hc, hcell⟩ := HA.out.below hD.out.pool.bel
        · subst h0; simp at hlt
        obtain ⟨x0, x1, x2, x3⟩ := hcell t ats[t] (by simp [hlt])
        obtain ⟨E, hE⟩ : ∃ E, E = ats[t] := ⟨_, rfl⟩
        rw [← hE] at x0 x1 x2 x3
        clear hcell hE
        obtain ⟨k, u, v, N⟩ := E
        simp only at x0 x1 x2 x3
        have hn2 : t + 1 < maxLen := by unfold maxLen; omega
        have HN2 := Lib.hid hn2
        have HRA := Lib.hid (Row.new wr 30 #[.int .i64 k, .int .i64 u, .int .i64 v, .string N])
        have HD3 := Lib.hid (hD.out.below (below_alloc wr (.cells #[.int .i64 k, .int .i64 u, .int .i64 v, .string N] 30)))
        obtain ⟨ab, hab⟩ : ∃ ab, ab = wr.heap.size := ⟨_, rfl⟩
        obtain ⟨w5, hw5⟩ : ∃ w5, w5 = wr.alloc (.cells #[.int .i64 k, .int .i64 u, .int .i64 v, .string N] 30) := ⟨_, rfl⟩
        rw [← hab, ← hw5] at HRA
        rw [← hw5] at HD3
        clear hD hn2
        go_wp2_with fail
        refine (cut11 N 40 _).mono ?_
        rintro e w4 ⟨rfl, hw4⟩
        subst w4
        rw [← hw5, ← hab]
        clear hw5 hab x0 x1 x2 x3 hbk hc
        have hs40 := cutS_size N 40
        obtain ⟨s, hsN⟩ : ∃ s, s = cutS N 40 := ⟨_, rfl⟩
        rw [← hsN] at hs40 ⊢
        have HSN := Lib.hid hsN
        clear hsN
        have y0 : w5.cell? ⟨ab, 0, none⟩ = some (.int .i64 k) := HRA.out.cell 0
        have y1 : w5.cell? ⟨ab, 1, none⟩ = some (.int .i64 u) := HRA.out.cell 1
        have y2 : w5.cell? ⟨ab, 2, none⟩ = some (.int .i64 v) := HRA.out.cell 2
        have y3 : w5.cell? ⟨ab, 3, none⟩ = some (.string N) := HRA.out.cell 3
        have HO5 : Hid (∀ k, (fun k => k = mb) k → k < w5.heap.size) := fun k hk => by have := HD3.out.mp.lt; simp only at hk; omega
        have HG := Lib.hid HD3.out.pool.good.1
        by_cases hk : k = 5
        · as_aux_lemma =>
            have k5 : (k == 5) = true := by subst hk; rfl
            clear hk
            go_wp2_with fail
            refine (takeB W W.heap.size pb t HN2.out l _ s hs40 w5 HD3.out.pool HO5.out).mono ?_
            rintro e w6 ⟨rfl, hp6, hk6⟩
            have HP6 := Lib.hid hp6
            have HK6 := Lib.hid hk6
            have HM6 := Lib.hid (HD3.out.mp.keep hk6 (fun e => e rfl))
            clear hp6 hk6
            have hbd := bz_bound HG.out s
            have hlk6 := HM6.out.look (s := s) (by unfold maxLen; omega)
            simp only [MI] at hlk6
            rw [HD3.out.rel s] at hlk6
            have hrl := tk_both (s := s) HG.out
            by_cases hE : chE l s tk1E = 0
            · have HR := Lib.hid (hrl.1 hE)
              have tE : (chE l s tk1E == 0) = true := by simp [hE]
              clear hE hrl
              obtain ⟨Z, hZ⟩ : ∃ Z, Z = bzOf l s := ⟨_, rfl⟩
              rw [← hZ] at HR hlk6 hbd
              have hz0 := hbd.1
              have hz1 := hbd.2
              clear hZ hbd
              go_upto_region 25 with (at_mapUpdate; refine wpl_storeO MI _ rfl _ _ _ rfl mb t f rfl HM6.out (by have := HN2.out; omega) s (Z + 1) rfl rfl (by unfold maxLen; omega) ?_; intro w7 m7 g7)
              have HEND : Hid (PcS W pb mb (t + 1) (chL l s tk1) (updO f s (some (Z + 1))) w7) := HD3.out.put HP6.out m7 g7 HR.out
              clear HP6 HM6 m7 g7 hlk6
              obtain ⟨l2, hl2⟩ : ∃ l2, l2 = chL l s tk1 := ⟨_, rfl⟩
              obtain ⟨f2, hf2⟩ : ∃ f2, f2 = updO f s (some (Z + 1)) := ⟨_, rfl⟩
              rw [← hl2, ← hf2] at HEND
              clear hl2 hf2
              go_wp2_with fail
              refine (listB W W.heap.size pb _ l2 _ w7 HEND.out.pool).mono ?_
              rintro e w8 ⟨lv, rfl, ho8, hb8⟩
              obtain ⟨la, lc, hlv⟩ := own_slice ho8
              subst hlv
              have HE8 := Lib.hid (HEND.out.below hb8)
              have HIB := Lib.hid (isBks_own ho8).2.1
              have hll := HEND.out.pool.good.2
              clear ho8 hb8 HEND
              go_wp2_with fail
              obtain ⟨wv, hwv⟩ : ∃ wv, wv = w8 := ⟨_, rfl⟩
              rw [← hwv] at HE8 HIB ⊢
              clear hwv w8
              go_loopw [73] (fun i wr => ∃ j : Nat, j ≤ l2.length ∧ i = .int .i64 (j : Int) ∧ Hid (Below wv.heap.size wv wr)) (fun i _ => l2.length - (intOf i).toNat)
              case atStart => exact ⟨0, Nat.zero_le _, rfl, Below.refl _ _⟩
              case round =>
                obtain ⟨j, hj, rfl, hbj⟩ := hrel
                by_cases hjl : j < l2.length
                · have j3 : (j : Int) < l2.length := by omega
                  obtain h0 | ⟨bk2, oo2, rfl, hbk2, hcc, hcell⟩ := HIB.out.below hbj.out
                  · subst h0; simp at hjl
                  obtain ⟨x0, x1, x2, x3, x4⟩ := hcell j l2[j] (by simp [hjl])
                  have hmem := List.getElem_mem hjl
                  have hbz := HE8.out.pool.good.1.bz _ hmem
                  have hfd := fndB_of_mem HE8.out.pool.good.1.ap hmem
                  have hnz := HE8.out.pool.good.1.sz _ hmem
                  obtain ⟨E2, hE2⟩ : ∃ E2, E2 = l2[j] := ⟨_, rfl⟩
                  rw [← hE2] at x0 x1 x2 x3 x4 hbz hfd hnz
                  obtain ⟨n1, w1, c1, s1, z1⟩ := E2
                  simp only at x0 x1 x2 x3 x4 hbz hfd hnz
                  have hrl := HE8.out.rel n1
                  rw [show bzOf l2 n1 = z1 by unfold bzOf; rw [hfd]] at hrl
                  have hlk := (HE8.out.below hbj.out |>.below (below_alloc wr (.cells #[.string n1, .int .i64 w1, .int .i64 c1, .int .i64 s1, .int .i64 z1] 33))).mp.look (s := n1) (by unfold maxLen; omega)
                  simp only [MI] at hlk
                  rw [hrl] at hlk
                  have HBJ := Lib.hid (hbj.out.alloc hbj.out.size (.cells #[.string n1, .int .i64 w1, .int .i64 c1, .int .i64 s1, .int .i64 z1] 33))
                  have t1 : (z1 != z1) = false := by simp
                  have t2 : decide (z1 < 0) = false := decide_eq_false (by omega)
                  have t3 : decide (c1 < z1) = false := decide_eq_false (by omega)
                  clear hcell hE2 hmem hbz hfd hnz hrl hbj
                  go_wp2_with fail
                  go_roundw
                  case rel => exact ⟨j + 1, hjl, by go_num, HBJ⟩
                  case measure => simp [intOf]; omega
                · obtain rfl : j = l2.length := by omega
                  have hj8 : ¬ ((l2.length : Int) < l2.length) := by omega
                  have HE9 := Lib.hid (HE8.out.below hbj.out)
                  clear hbj hj8
                  have hj7 : ((l2.length : Int) < l2.length) = False := by simp
                  go_wp2_with fail
                  refine (getB W W.heap.size pb _ l2 _ s hs40 wr HE9.out.pool).mono ?_
                  rintro e w10 ⟨rfl, hb10⟩
                  have HE10 := Lib.hid (HE9.out.below hb10)
                  clear hb10 HE9
                  obtain ⟨is, his⟩ : ∃ is, is = (fndB l2 s).isSome := ⟨_, rfl⟩
                  rw [← his]
                  have hrl := HE10.out.rel s
                  obtain ⟨n1, w1, c1, s1, z1⟩ := (fndB l2 s).getD bk0
                  simp only [bkV, bkC]
                  have HEX := Lib.hid (HE10.out.below (below_alloc w10 (.cells #[.string n1, .int .i64 w1, .int .i64 c1, .int .i64 s1, .int .i64 z1] 33)))
                  have hlk := HEX.out.mp.look (s := s) (by unfold maxLen; omega)
                  simp only [MI] at hlk
                  cases is with
                  | true =>
                    clear hlk hrl his
                    go_wp2_with fail
                    go_roundw
                    case rel => exact ⟨t + 1, l2, f2, by omega, hlt, by go_num, HEX⟩
                    case measure => simp [intOf]; omega
                  | false =>
                    have hno : fndB l2 s = none := by
                      cases h9 : fndB l2 s with
                      | none => rfl
                      | some b => rw [h9] at his; cases his
                    rw [show bzOf l2 s = 0 by unfold bzOf; rw [hno]] at hrl
                    rw [hrl] at hlk
                    clear hrl his hno
                    go_wp2_with fail
                    go_roundw
                    case rel => exact ⟨t + 1, l2, f2, by omega, hlt, by go_num, HEX⟩
                    case measure => simp [intOf]; omega
            · have HR := Lib.hid (hrl.2 hE)
              have tE : (chE l s tk1E == 0) = false := by simp [hE]
              clear hE hrl hlk6 hbd
              have HEND : Hid (PcS W pb mb (t + 1) (chL l s tk1) f w6) := HD3.out.call HP6.out HK6.out HR.out
              clear HP6 HM6
              obtain ⟨l2, hl2⟩ : ∃ l2, l2 = chL l s tk1 := ⟨_, rfl⟩
              obtain ⟨f2, hf2⟩ : ∃ f2, f2 = f := ⟨_, rfl⟩
              rw [← hl2, ← hf2] at HEND
              clear hl2 hf2
              go_wp2_with fail
              refine (listB W W.heap.size pb _ l2 _ w6 HEND.out.pool).mono ?_
              rintro e w8 ⟨lv, rfl, ho8, hb8⟩
              obtain ⟨la, lc, hlv⟩ := own_slice ho8
              subst hlv
              have HE8 := Lib.hid (HEND.out.below hb8)
              have HIB := Lib.hid (isBks_own ho8).2.1
              have hll := HEND.out.pool.good.2
              clear ho8 hb8 HEND
              go_wp2_with fail
              obtain ⟨wv, hwv⟩ : ∃ wv, wv = w8 := ⟨_, rfl⟩
              rw [← hwv] at HE8 HIB ⊢
              clear hwv w8
              go_loopw [73] (fun i wr => ∃ j : Nat, j ≤ l2.length ∧ i = .int .i64 (j : Int) ∧ Hid (Below wv.heap.size wv wr)) (fun i _ => l2.length - (intOf i).toNat)
              case atStart => exact ⟨0, Nat.zero_le _, rfl, Below.refl _ _⟩
              case round =>
                obtain ⟨j, hj, rfl, hbj⟩ := hrel
                by_cases hjl : j < l2.length
                · have j3 : (j : Int) < l2.length := by omega
                  obtain h0 | ⟨bk2, oo2, rfl, hbk2, hcc, hcell⟩ := HIB.out.below hbj.out
                  · subst h0; simp at hjl
                  obtain ⟨x0, x1, x2, x3, x4⟩ := hcell j l2[j] (by simp [hjl])
                  have hmem := List.getElem_mem hjl
                  have hbz := HE8.out.pool.good.1.bz _ hmem
                  have hfd := fndB_of_mem HE8.out.pool.good.1.ap hmem
                  have hnz := HE8.out.pool.good.1.sz _ hmem
                  obtain ⟨E2, hE2⟩ : ∃ E2, E2 = l2[j] := ⟨_, rfl⟩
                  rw [← hE2] at x0 x1 x2 x3 x4 hbz hfd hnz
                  obtain ⟨n1, w1, c1, s1, z1⟩ := E2
                  simp only at x0 x1 x2 x3 x4 hbz hfd hnz
                  have hrl := HE8.out.rel n1
                  rw [show bzOf l2 n1 = z1 by unfold bzOf; rw [hfd]] at hrl
                  have hlk := (HE8.out.below hbj.out |>.below (below_alloc wr (.cells #[.string n1, .int .i64 w1, .int .i64 c1, .int .i64 s1, .int .i64 z1] 33))).mp.look (s := n1) (by unfold maxLen; omega)
                  simp only [MI] at hlk
                  rw [hrl] at hlk
                  have HBJ := Lib.hid (hbj.out.alloc hbj.out.size (.cells #[.string n1, .int .i64 w1, .int .i64 c1, .int .i64 s1, .int .i64 z1] 33))
                  have t1 : (z1 != z1) = false := by simp
                  have t2 : decide (z1 < 0) = false := decide_eq_false (by omega)
                  have t3 : decide (c1 < z1) = false := decide_eq_false (by omega)
                  clear hcell hE2 hmem hbz hfd hnz hrl hbj
                  go_wp2_with fail
                  go_roundw
                  case rel => exact ⟨j + 1, hjl, by go_num, HBJ⟩
                  case measure => simp [intOf]; omega
                · obtain rfl : j = l2.length := by omega
                  have hj8 : ¬ ((l2.length : Int) < l2.length) := by omega
                  have HE9 := Lib.hid (HE8.out.below hbj.out)
                  clear hbj hj8
                  have hj7 : ((l2.length : Int) < l2.length) = False := by simp
                  go_wp2_with fail
                  refine (getB W W.heap.size pb _ l2 _ s hs40 wr HE9.out.pool).mono ?_
                  rintro e w10 ⟨rfl, hb10⟩
                  have HE10 := Lib.hid (HE9.out.below hb10)
                  clear hb10 HE9
                  obtain ⟨is, his⟩ : ∃ is, is = (fndB l2 s).isSome := ⟨_, rfl⟩
                  rw [← his]
                  have hrl := HE10.out.rel s
                  obtain ⟨n1, w1, c1, s1, z1⟩ := (fndB l2 s).getD bk0
                  simp only [bkV, bkC]
                  have HEX := Lib.hid (HE10.out.below (below_alloc w10 (.cells #[.string n1, .int .i64 w1, .int .i64 c1, .int .i64 s1, .int .i64 z1] 33)))
                  have hlk := HEX.out.mp.look (s := s) (by unfold maxLen; omega)
                  simp only [MI] at hlk
                  cases is with
                  | true =>
                    clear hlk hrl his
                    go_wp2_with fail
                    go_roundw
                    case rel => exact ⟨t + 1, l2, f2, by omega, hlt, by go_num, HEX⟩
                    case measure => simp [intOf]; omega
                  | false =>
                    have hno : fndB l2 s = none := by
                      cases h9 : fndB l2 s with
                      | none => rfl
                      | some b => rw [h9] at his; cases his
                    rw [show bzOf l2 s = 0 by unfold bzOf; rw [hno]] at hrl
                    rw [hrl] at hlk
                    clear hrl his hno
                    go_wp2_with fail
                    go_roundw
                    case rel => exact ⟨t + 1, l2, f2, by omega, hlt, by go_num, HEX⟩
                    case measure => simp [intOf]; omega
        by_cases hk : k = 0
        · as_aux_lemma =>
            have k5 : (k == 5) = false := by subst hk; rfl
            have k0 : (k == 0) = true := by subst hk; rfl
            subst hk
            go_wp2_with fail
            have hd := do9 W W.heap.size pb t HN2.out l (fun k => k = mb) [] Good.nil (by simp) none 0 0 u v N w5 HD3.out.pool HO5.out (nil_bks w5) (fun p hp => by cases hp)
            rw [← HSN.out] at hd
            refine hd.mono ?_
            clear hd
            rintro e w6 ⟨a', c', q, rfl, _, _, hp6, hk6, _⟩
            have HEND : Hid (PcS W pb mb (t + 1) (actL 0 u v s l) f w6) := HD3.out.call (hp6.other (fun k hk => .inl (.inl hk))) hk6 (bz_act HG.out (by decide) s)
            clear hp6 hk6
            obtain ⟨l2, hl2⟩ : ∃ l2, l2 = actL 0 u v s l := ⟨_, rfl⟩
            obtain ⟨f2, hf2⟩ : ∃ f2, f2 = f := ⟨_, rfl⟩
            rw [← hl2, ← hf2] at HEND
            clear hl2 hf2
            go_wp2_with fail
            refine (listB W W.heap.size pb _ l2 _ w6 HEND.out.pool).mono ?_
            rintro e w8 ⟨lv, rfl, ho8, hb8⟩
            obtain ⟨la, lc, hlv⟩ := own_slice ho8
            subst hlv
            have HE8 := Lib.hid (HEND.out.below hb8)
            have HIB := Lib.hid (isBks_own ho8).2.1
            have hll := HEND.out.pool.good.2
            clear ho8 hb8 HEND
            go_wp2_with fail
            obtain ⟨wv, hwv⟩ : ∃ wv, wv = w8 := ⟨_, rfl⟩
            rw [← hwv] at HE8 HIB ⊢
            clear hwv w8
            go_loopw [73] (fun i wr => ∃ j : Nat, j ≤ l2.length ∧ i = .int .i64 (j : Int) ∧ Hid (Below wv.heap.size wv wr)) (fun i _ => l2.length - (intOf i).toNat)
            case atStart => exact ⟨0, Nat.zero_le _, rfl, Below.refl _ _⟩
            case round =>
              obtain ⟨j, hj, rfl, hbj⟩ := hrel
              by_cases hjl : j < l2.length
              · have j3 : (j : Int) < l2.length := by omega
                obtain h0 | ⟨bk2, oo2, rfl, hbk2, hcc, hcell⟩ := HIB.out.below hbj.out
                · subst h0; simp at hjl
                obtain ⟨x0, x1, x2, x3, x4⟩ := hcell j l2[j] (by simp [hjl])
                have hmem := List.getElem_mem hjl
                have hbz := HE8.out.pool.good.1.bz _ hmem
                have hfd := fndB_of_mem HE8.out.pool.good.1.ap hmem
                have hnz := HE8.out.pool.good.1.sz _ hmem
                obtain ⟨E2, hE2⟩ : ∃ E2, E2 = l2[j] := ⟨_, rfl⟩
                rw [← hE2] at x0 x1 x2 x3 x4 hbz hfd hnz
                obtain ⟨n1, w1, c1, s1, z1⟩ := E2
                simp only at x0 x1 x2 x3 x4 hbz hfd hnz
                have hrl := HE8.out.rel n1
                rw [show bzOf l2 n1 = z1 by unfold bzOf; rw [hfd]] at hrl
                have hlk := (HE8.out.below hbj.out |>.below (below_alloc wr (.cells #[.string n1, .int .i64 w1, .int .i64 c1, .int .i64 s1, .int .i64 z1] 33))).mp.look (s := n1) (by unfold maxLen; omega)
                simp only [MI] at hlk
                rw [hrl] at hlk
                have HBJ := Lib.hid (hbj.out.alloc hbj.out.size (.cells #[.string n1, .int .i64 w1, .int .i64 c1, .int .i64 s1, .int .i64 z1] 33))
                have t1 : (z1 != z1) = false := by simp
                have t2 : decide (z1 < 0) = false := decide_eq_false (by omega)
                have t3 : decide (c1 < z1) = false := decide_eq_false (by omega)
                clear hcell hE2 hmem hbz hfd hnz hrl hbj
                go_wp2_with fail
                go_roundw
                case rel => exact ⟨j + 1, hjl, by go_num, HBJ⟩
                case measure => simp [intOf]; omega
              · obtain rfl : j = l2.length := by omega
                have hj8 : ¬ ((l2.length : Int) < l2.length) := by omega
                have HE9 := Lib.hid (HE8.out.below hbj.out)
                clear hbj hj8
                have hj7 : ((l2.length : Int) < l2.length) = False := by simp
                go_wp2_with fail
                refine (getB W W.heap.size pb _ l2 _ s hs40 wr HE9.out.pool).mono ?_
                rintro e w10 ⟨rfl, hb10⟩
                have HE10 := Lib.hid (HE9.out.below hb10)
                clear hb10 HE9
                obtain ⟨is, his⟩ : ∃ is, is = (fndB l2 s).isSome := ⟨_, rfl⟩
                rw [← his]
                have hrl := HE10.out.rel s
                obtain ⟨n1, w1, c1, s1, z1⟩ := (fndB l2 s).getD bk0
                simp only [bkV, bkC]
                have HEX := Lib.hid (HE10.out.below (below_alloc w10 (.cells #[.string n1, .int .i64 w1, .int .i64 c1, .int .i64 s1, .int .i64 z1] 33)))
                have hlk := HEX.out.mp.look (s := s) (by unfold maxLen; omega)
                simp only [MI] at hlk
                cases is with
                | true =>
                  clear hlk hrl his
                  go_wp2_with fail
                  go_roundw
                  case rel => exact ⟨t + 1, l2, f2, by omega, hlt, by go_num, HEX⟩
                  case measure => simp [intOf]; omega
                | false =>
                  have hno : fndB l2 s = none := by
                    cases h9 : fndB l2 s with
                    | none => rfl
                    | some b => rw [h9] at his; cases his
                  rw [show bzOf l2 s = 0 by unfold bzOf; rw [hno]] at hrl
                  rw [hrl] at hlk
                  clear hrl his hno
                  go_wp2_with fail
                  go_roundw
                  case rel => exact ⟨t + 1, l2, f2, by omega, hlt, by go_num, HEX⟩
                  case measure => simp [intOf]; omega
        by_cases hk : k = 1
        · as_aux_lemma =>
            have k5 : (k == 5) = false := by subst hk; rfl
            have k0 : (k == 0) = false := by subst hk; rfl
            have k1 : (k == 1) = true := by subst hk; rfl
            subst hk
            go_wp2_with fail
            have hd := do9 W W.heap.size pb t HN2.out l (fun k => k = mb) [] Good.nil (by simp) none 0 1 u v N w5 HD3.out.pool HO5.out (nil_bks w5) (fun p hp => by cases hp)
            rw [← HSN.out] at hd
            refine hd.mono ?_
            clear hd
            rintro e w6 ⟨a', c', q, rfl, _, _, hp6, hk6, _⟩
            have HEND : Hid (PcS W pb mb (t + 1) (actL 1 u v s l) f w6) := HD3.out.call (hp6.other (fun k hk => .inl (.inl hk))) hk6 (bz_act HG.out (by decide) s)
            clear hp6 hk6
            obtain ⟨l2, hl2⟩ : ∃ l2, l2 = actL 1 u v s l := ⟨_, rfl⟩
            obtain ⟨f2, hf2⟩ : ∃ f2, f2 = f := ⟨_, rfl⟩
            rw [← hl2, ← hf2] at HEND
            clear hl2 hf2
            go_wp2_with fail
            refine (listB W W.heap.size pb _ l2 _ w6 HEND.out.pool).mono ?_
            rintro e w8 ⟨lv, rfl, ho8, hb8⟩
            obtain ⟨la, lc, hlv⟩ := own_slice ho8
            subst hlv
            have HE8 := Lib.hid (HEND.out.below hb8)
            have HIB := Lib.hid (isBks_own ho8).2.1
            have hll := HEND.out.pool.good.2
            clear ho8 hb8 HEND
            go_wp2_with fail
            obtain ⟨wv, hwv⟩ : ∃ wv, wv = w8 := ⟨_, rfl⟩
            rw [← hwv] at HE8 HIB ⊢
            clear hwv w8
            go_loopw [73] (fun i wr => ∃ j : Nat, j ≤ l2.length ∧ i = .int .i64 (j : Int) ∧ Hid (Below wv.heap.size wv wr)) (fun i _ => l2.length - (intOf i).toNat)
            case atStart => exact ⟨0, Nat.zero_le _, rfl, Below.refl _ _⟩
            case round =>
              obtain ⟨j, hj, rfl, hbj⟩ := hrel
              by_cases hjl : j < l2.length
              · have j3 : (j : Int) < l2.length := by omega
                obtain h0 | ⟨bk2, oo2, rfl, hbk2, hcc, hcell⟩ := HIB.out.below hbj.out
                · subst h0; simp at hjl
                obtain ⟨x0, x1, x2, x3, x4⟩ := hcell j l2[j] (by simp [hjl])
                have hmem := List.getElem_mem hjl
                have hbz := HE8.out.pool.good.1.bz _ hmem
                have hfd := fndB_of_mem HE8.out.pool.good.1.ap hmem
                have hnz := HE8.out.pool.good.1.sz _ hmem
                obtain ⟨E2, hE2⟩ : ∃ E2, E2 = l2[j] := ⟨_, rfl⟩
                rw [← hE2] at x0 x1 x2 x3 x4 hbz hfd hnz
                obtain ⟨n1, w1, c1, s1, z1⟩ := E2
                simp only at x0 x1 x2 x3 x4 hbz hfd hnz
                have hrl := HE8.out.rel n1
                rw [show bzOf l2 n1 = z1 by unfold bzOf; rw [hfd]] at hrl
                have hlk := (HE8.out.below hbj.out |>.below (below_alloc wr (.cells #[.string n1, .int .i64 w1, .int .i64 c1, .int .i64 s1, .int .i64 z1] 33))).mp.look (s := n1) (by unfold maxLen; omega)
                simp only [MI] at hlk
                rw [hrl] at hlk
                have HBJ := Lib.hid (hbj.out.alloc hbj.out.size (.cells #[.string n1, .int .i64 w1, .int .i64 c1, .int .i64 s1, .int .i64 z1] 33))
                have t1 : (z1 != z1) = false := by simp
                have t2 : decide (z1 < 0) = false := decide_eq_false (by omega)
                have t3 : decide (c1 < z1) = false := decide_eq_false (by omega)
                clear hcell hE2 hmem hbz hfd hnz hrl hbj
                go_wp2_with fail
                go_roundw
                case rel => exact ⟨j + 1, hjl, by go_num, HBJ⟩
                case measure => simp [intOf]; omega
              · obtain rfl : j = l2.length := by omega
                have hj8 : ¬ ((l2.length : Int) < l2.length) := by omega
                have HE9 := Lib.hid (HE8.out.below hbj.out)
                clear hbj hj8
                have hj7 : ((l2.length : Int) < l2.length) = False := by simp
                go_wp2_with fail
                refine (getB W W.heap.size pb _ l2 _ s hs40 wr HE9.out.pool).mono ?_
                rintro e w10 ⟨rfl, hb10⟩
                have HE10 := Lib.hid (HE9.out.below hb10)
                clear hb10 HE9
                obtain ⟨is, his⟩ : ∃ is, is = (fndB l2 s).isSome := ⟨_, rfl⟩
                rw [← his]
                have hrl := HE10.out.rel s
                obtain ⟨n1, w1, c1, s1, z1⟩ := (fndB l2 s).getD bk0
                simp only [bkV, bkC]
                have HEX := Lib.hid (HE10.out.below (below_alloc w10 (.cells #[.string n1, .int .i64 w1, .int .i64 c1, .int .i64 s1, .int .i64 z1] 33)))
                have hlk := HEX.out.mp.look (s := s) (by unfold maxLen; omega)
                simp only [MI] at hlk
                cases is with
                | true =>
                  clear hlk hrl his
                  go_wp2_with fail
                  go_roundw
                  case rel => exact ⟨t + 1, l2, f2, by omega, hlt, by go_num, HEX⟩
                  case measure => simp [intOf]; omega
                | false =>
                  have hno : fndB l2 s = none := by
                    cases h9 : fndB l2 s with
                    | none => rfl
                    | some b => rw [h9] at his; cases his
                  rw [show bzOf l2 s = 0 by unfold bzOf; rw [hno]] at hrl
                  rw [hrl] at hlk
                  clear hrl his hno
                  go_wp2_with fail
                  go_roundw
                  case rel => exact ⟨t + 1, l2, f2, by omega, hlt, by go_num, HEX⟩
                  case measure => simp [intOf]; omega
        by_cases hk : k = 2
        · as_aux_lemma =>
            have k5 : (k == 5) = false := by subst hk; rfl
            have k0 : (k == 0) = false := by subst hk; rfl
            have k1 : (k == 1) = false := by subst hk; rfl
            have k2 : (k == 2) = true := by subst hk; rfl
            subst hk
            go_wp2_with fail
            have hd := do9 W W.heap.size pb t HN2.out l (fun k => k = mb) [] Good.nil (by simp) none 0 2 u v N w5 HD3.out.pool HO5.out (nil_bks w5) (fun p hp => by cases hp)
            rw [← HSN.out] at hd
            refine hd.mono ?_
            clear hd
            rintro e w6 ⟨a', c', q, rfl, _, _, hp6, hk6, _⟩
            have HEND : Hid (PcS W pb mb (t + 1) (actL 2 u v s l) f w6) := HD3.out.call (hp6.other (fun k hk => .inl (.inl hk))) hk6 (bz_act HG.out (by decide) s)
            clear hp6 hk6
            obtain ⟨l2, hl2⟩ : ∃ l2, l2 = actL 2 u v s l := ⟨_, rfl⟩
            obtain ⟨f2, hf2⟩ : ∃ f2, f2 = f := ⟨_, rfl⟩
            rw [← hl2, ← hf2] at HEND
            clear hl2 hf2
            go_wp2_with fail
            refine (listB W W.heap.size pb _ l2 _ w6 HEND.out.pool).mono ?_
            rintro e w8 ⟨lv, rfl, ho8, hb8⟩
            obtain ⟨la, lc, hlv⟩ := own_slice ho8
            subst hlv
            have HE8 := Lib.hid (HEND.out.below hb8)
            have HIB := Lib.hid (isBks_own ho8).2.1
            have hll := HEND.out.pool.good.2
            clear ho8 hb8 HEND
            go_wp2_with fail
            obtain ⟨wv, hwv⟩ : ∃ wv, wv = w8 := ⟨_, rfl⟩
            rw [← hwv] at HE8 HIB ⊢
            clear hwv w8
            go_loopw [73] (fun i wr => ∃ j : Nat, j ≤ l2.length ∧ i = .int .i64 (j : Int) ∧ Hid (Below wv.heap.size wv wr)) (fun i _ => l2.length - (intOf i).toNat)
            case atStart => exact ⟨0, Nat.zero_le _, rfl, Below.refl _ _⟩
            case round =>
              obtain ⟨j, hj, rfl, hbj⟩ := hrel
              by_cases hjl : j < l2.length
              · have j3 : (j : Int) < l2.length := by omega
                obtain h0 | ⟨bk2, oo2, rfl, hbk2, hcc, hcell⟩ := HIB.out.below hbj.out
                · subst h0; simp at hjl
                obtain ⟨x0, x1, x2, x3, x4⟩ := hcell j l2[j] (by simp [hjl])
                have hmem := List.getElem_mem hjl
                have hbz := HE8.out.pool.good.1.bz _ hmem
                have hfd := fndB_of_mem HE8.out.pool.good.1.ap hmem
                have hnz := HE8.out.pool.good.1.sz _ hmem
                obtain ⟨E2, hE2⟩ : ∃ E2, E2 = l2[j] := ⟨_, rfl⟩
                rw [← hE2] at x0 x1 x2 x3 x4 hbz hfd hnz
                obtain ⟨n1, w1, c1, s1, z1⟩ := E2
                simp only at x0 x1 x2 x3 x4 hbz hfd hnz
                have hrl := HE8.out.rel n1
                rw [show bzOf l2 n1 = z1 by unfold bzOf; rw [hfd]] at hrl
                have hlk := (HE8.out.below hbj.out |>.below (below_alloc wr (.cells #[.string n1, .int .i64 w1, .int .i64 c1, .int .i64 s1, .int .i64 z1] 33))).mp.look (s := n1) (by unfold maxLen; omega)
                simp only [MI] at hlk
                rw [hrl] at hlk
                have HBJ := Lib.hid (hbj.out.alloc hbj.out.size (.cells #[.string n1, .int .i64 w1, .int .i64 c1, .int .i64 s1, .int .i64 z1] 33))
                have t1 : (z1 != z1) = false := by simp
                have t2 : decide (z1 < 0) = false := decide_eq_false (by omega)
                have t3 : decide (c1 < z1) = false := decide_eq_false (by omega)
                clear hcell hE2 hmem hbz hfd hnz hrl hbj
                go_wp2_with fail
                go_roundw
                case rel => exact ⟨j + 1, hjl, by go_num, HBJ⟩
                case measure => simp [intOf]; omega
              · obtain rfl : j = l2.length := by omega
                have hj8 : ¬ ((l2.length : Int) < l2.length) := by omega
                have HE9 := Lib.hid (HE8.out.below hbj.out)
                clear hbj hj8
                have hj7 : ((l2.length : Int) < l2.length) = False := by simp
                go_wp2_with fail
                refine (getB W W.heap.size pb _ l2 _ s hs40 wr HE9.out.pool).mono ?_
                rintro e w10 ⟨rfl, hb10⟩
                have HE10 := Lib.hid (HE9.out.below hb10)
                clear hb10 HE9
                obtain ⟨is, his⟩ : ∃ is, is = (fndB l2 s).isSome := ⟨_, rfl⟩
                rw [← his]
                have hrl := HE10.out.rel s
                obtain ⟨n1, w1, c1, s1, z1⟩ := (fndB l2 s).getD bk0
                simp only [bkV, bkC]
                have HEX := Lib.hid (HE10.out.below (below_alloc w10 (.cells #[.string n1, .int .i64 w1, .int .i64 c1, .int .i64 s1, .int .i64 z1] 33)))
                have hlk := HEX.out.mp.look (s := s) (by unfold maxLen; omega)
                simp only [MI] at hlk
                cases is with
                | true =>
                  clear hlk hrl his
                  go_wp2_with fail
                  go_roundw
                  case rel => exact ⟨t + 1, l2, f2, by omega, hlt, by go_num, HEX⟩
                  case measure => simp [intOf]; omega
                | false =>
                  have hno : fndB l2 s = none := by
                    cases h9 : fndB l2 s with
                    | none => rfl
                    | some b => rw [h9] at his; cases his
                  rw [show bzOf l2 s = 0 by unfold bzOf; rw [hno]] at hrl
                  rw [hrl] at hlk
                  clear hrl his hno
                  go_wp2_with fail
                  go_roundw
                  case rel => exact ⟨t + 1, l2, f2, by omega, hlt, by go_num, HEX⟩
                  case measure => simp [intOf]; omega
        by_cases hk : k = 3
        · as_aux_lemma =>
            have k5 : (k == 5) = false := by subst hk; rfl
            have k0 : (k == 0) = false := by subst hk; rfl
            have k1 : (k == 1) = false := by subst hk; rfl
            have k2 : (k == 2) = false := by subst hk; rfl
            have k3 : (k == 3) = true := by subst hk; rfl
            subst hk
            go_wp2_with fail
            have hd := do9 W W.heap.size pb t HN2.out l (fun k => k = mb) [] Good.nil (by simp) none 0 3 u v N w5 HD3.out.pool HO5.out (nil_bks w5) (fun p hp => by cases hp)
            rw [← HSN.out] at hd
            refine hd.mono ?_
            clear hd
            rintro e w6 ⟨a', c', q, rfl, _, _, hp6, hk6, _⟩
            have HEND : Hid (PcS W pb mb (t + 1) (actL 3 u v s l) f w6) := HD3.out.call (hp6.other (fun k hk => .inl (.inl hk))) hk6 (bz_act HG.out (by decide) s)
            clear hp6 hk6
            obtain ⟨l2, hl2⟩ : ∃ l2, l2 = actL 3 u v s l := ⟨_, rfl⟩
            obtain ⟨f2, hf2⟩ : ∃ f2, f2 = f := ⟨_, rfl⟩
            rw [← hl2, ← hf2] at HEND
            clear hl2 hf2
            go_wp2_with fail
            refine (listB W W.heap.size pb _ l2 _ w6 HEND.out.pool).mono ?_
            rintro e w8 ⟨lv, rfl, ho8, hb8⟩
            obtain ⟨la, lc, hlv⟩ := own_slice ho8
            subst hlv
            have HE8 := Lib.hid (HEND.out.below hb8)
            have HIB := Lib.hid (isBks_own ho8).2.1
            have hll := HEND.out.pool.good.2
            clear ho8 hb8 HEND
            go_wp2_with fail
            obtain ⟨wv, hwv⟩ : ∃ wv, wv = w8 := ⟨_, rfl⟩
            rw [← hwv] at HE8 HIB ⊢
            clear hwv w8
            go_loopw [73] (fun i wr => ∃ j : Nat, j ≤ l2.length ∧ i = .int .i64 (j : Int) ∧ Hid (Below wv.heap.size wv wr)) (fun i _ => l2.length - (intOf i).toNat)
            case atStart => exact ⟨0, Nat.zero_le _, rfl, Below.refl _ _⟩
            case round =>
              obtain ⟨j, hj, rfl, hbj⟩ := hrel
              by_cases hjl : j < l2.length
              · have j3 : (j : Int) < l2.length := by omega
                obtain h0 | ⟨bk2, oo2, rfl, hbk2, hcc, hcell⟩ := HIB.out.below hbj.out
                · subst h0; simp at hjl
                obtain ⟨x0, x1, x2, x3, x4⟩ := hcell j l2[j] (by simp [hjl])
                have hmem := List.getElem_mem hjl
                have hbz := HE8.out.pool.good.1.bz _ hmem
                have hfd := fndB_of_mem HE8.out.pool.good.1.ap hmem
                have hnz := HE8.out.pool.good.1.sz _ hmem
                obtain ⟨E2, hE2⟩ : ∃ E2, E2 = l2[j] := ⟨_, rfl⟩
                rw [← hE2] at x0 x1 x2 x3 x4 hbz hfd hnz
                obtain ⟨n1, w1, c1, s1, z1⟩ := E2
                simp only at x0 x1 x2 x3 x4 hbz hfd hnz
                have hrl := HE8.out.rel n1
                rw [show bzOf l2 n1 = z1 by unfold bzOf; rw [hfd]] at hrl
                have hlk := (HE8.out.below hbj.out |>.below (below_alloc wr (.cells #[.string n1, .int .i64 w1, .int .i64 c1, .int .i64 s1, .int .i64 z1] 33))).mp.look (s := n1) (by unfold maxLen; omega)
                simp only [MI] at hlk
                rw [hrl] at hlk
                have HBJ := Lib.hid (hbj.out.alloc hbj.out.size (.cells #[.string n1, .int .i64 w1, .int .i64 c1, .int .i64 s1, .int .i64 z1] 33))
                have t1 : (z1 != z1) = false := by simp
                have t2 : decide (z1 < 0) = false := decide_eq_false (by omega)
                have t3 : decide (c1 < z1) = false := decide_eq_false (by omega)
                clear hcell hE2 hmem hbz hfd hnz hrl hbj
                go_wp2_with fail
                go_roundw
                case rel => exact ⟨j + 1, hjl, by go_num, HBJ⟩
                case measure => simp [intOf]; omega
              · obtain rfl : j = l2.length := by omega
                have hj8 : ¬ ((l2.length : Int) < l2.length) := by omega
                have HE9 := Lib.hid (HE8.out.below hbj.out)
                clear hbj hj8
                have hj7 : ((l2.length : Int) < l2.length) = False := by simp
                go_wp2_with fail
                refine (getB W W.heap.size pb _ l2 _ s hs40 wr HE9.out.pool).mono ?_
                rintro e w10 ⟨rfl, hb10⟩
                have HE10 := Lib.hid (HE9.out.below hb10)
                clear hb10 HE9
                obtain ⟨is, his⟩ : ∃ is, is = (fndB l2 s).isSome := ⟨_, rfl⟩
                rw [← his]
                have hrl := HE10.out.rel s
                obtain ⟨n1, w1, c1, s1, z1⟩ := (fndB l2 s).getD bk0
                simp only [bkV, bkC]
                have HEX := Lib.hid (HE10.out.below (below_alloc w10 (.cells #[.string n1, .int .i64 w1, .int .i64 c1, .int .i64 s1, .int .i64 z1] 33)))
                have hlk := HEX.out.mp.look (s := s) (by unfold maxLen; omega)
                simp only [MI] at hlk
                cases is with
                | true =>
                  clear hlk hrl his
                  go_wp2_with fail
                  go_roundw
                  case rel => exact ⟨t + 1, l2, f2, by omega, hlt, by go_num, HEX⟩
                  case measure => simp [intOf]; omega
                | false =>
                  have hno : fndB l2 s = none := by
                    cases h9 : fndB l2 s with
                    | none => rfl
                    | some b => rw [h9] at his; cases his
                  rw [show bzOf l2 s = 0 by unfold bzOf; rw [hno]] at hrl
                  rw [hrl] at hlk
                  clear hrl his hno
                  go_wp2_with fail
                  go_roundw
                  case rel => exact ⟨t + 1, l2, f2, by omega, hlt, by go_num, HEX⟩
                  case measure => simp [intOf]; omega
        by_cases hk : k = 4
        · as_aux_lemma =>
            have k5 : (k == 5) = false := by subst hk; rfl
            have k0 : (k == 0) = false := by subst hk; rfl
            have k1 : (k == 1) = false := by subst hk; rfl
            have k2 : (k == 2) = false := by subst hk; rfl
            have k3 : (k == 3) = false := by subst hk; rfl
            have k4 : (k == 4) = true := by subst hk; rfl
            subst hk
            go_wp2_with fail
            have hd := do9 W W.heap.size pb t HN2.out l (fun k => k = mb) [] Good.nil (by simp) none 0 4 u v N w5 HD3.out.pool HO5.out (nil_bks w5) (fun p hp => by cases hp)
            rw [← HSN.out] at hd
            refine hd.mono ?_
            clear hd
            rintro e w6 ⟨a', c', q, rfl, _, _, hp6, hk6, _⟩
            have HEND : Hid (PcS W pb mb (t + 1) (actL 4 u v s l) f w6) := HD3.out.call (hp6.other (fun k hk => .inl (.inl hk))) hk6 (bz_act HG.out (by decide) s)
            clear hp6 hk6
            obtain ⟨l2, hl2⟩ : ∃ l2, l2 = actL 4 u v s l := ⟨_, rfl⟩
            obtain ⟨f2, hf2⟩ : ∃ f2, f2 = f := ⟨_, rfl⟩
            rw [← hl2, ← hf2] at HEND
            clear hl2 hf2
            go_wp2_with fail
            refine (listB W W.heap.size pb _ l2 _ w6 HEND.out.pool).mono ?_
            rintro e w8 ⟨lv, rfl, ho8, hb8⟩
            obtain ⟨la, lc, hlv⟩ := own_slice ho8
            subst hlv
            have HE8 := Lib.hid (HEND.out.below hb8)
            have HIB := Lib.hid (isBks_own ho8).2.1
            have hll := HEND.out.pool.good.2
            clear ho8 hb8 HEND
            go_wp2_with fail
            obtain ⟨wv, hwv⟩ : ∃ wv, wv = w8 := ⟨_, rfl⟩
            rw [← hwv] at HE8 HIB ⊢
            clear hwv w8
            go_loopw [73] (fun i wr => ∃ j : Nat, j ≤ l2.length ∧ i = .int .i64 (j : Int) ∧ Hid (Below wv.heap.size wv wr)) (fun i _ => l2.length - (intOf i).toNat)
            case atStart => exact ⟨0, Nat.zero_le _, rfl, Below.refl _ _⟩
            case round =>
              obtain ⟨j, hj, rfl, hbj⟩ := hrel
              by_cases hjl : j < l2.length
              · have j3 : (j : Int) < l2.length := by omega
                obtain h0 | ⟨bk2, oo2, rfl, hbk2, hcc, hcell⟩ := HIB.out.below hbj.out
                · subst h0; simp at hjl
                obtain ⟨x0, x1, x2, x3, x4⟩ := hcell j l2[j] (by simp [hjl])
                have hmem := List.getElem_mem hjl
                have hbz := HE8.out.pool.good.1.bz _ hmem
                have hfd := fndB_of_mem HE8.out.pool.good.1.ap hmem
                have hnz := HE8.out.pool.good.1.sz _ hmem
                obtain ⟨E2, hE2⟩ : ∃ E2, E2 = l2[j] := ⟨_, rfl⟩
                rw [← hE2] at x0 x1 x2 x3 x4 hbz hfd hnz
                obtain ⟨n1, w1, c1, s1, z1⟩ := E2
                simp only at x0 x1 x2 x3 x4 hbz hfd hnz
                have hrl := HE8.out.rel n1
                rw [show bzOf l2 n1 = z1 by unfold bzOf; rw [hfd]] at hrl
                have hlk := (HE8.out.below hbj.out |>.below (below_alloc wr (.cells #[.string n1, .int .i64 w1, .int .i64 c1, .int .i64 s1, .int .i64 z1] 33))).mp.look (s := n1) (by unfold maxLen; omega)
                simp only [MI] at hlk
                rw [hrl] at hlk
                have HBJ := Lib.hid (hbj.out.alloc hbj.out.size (.cells #[.string n1, .int .i64 w1, .int .i64 c1, .int .i64 s1, .int .i64 z1] 33))
                have t1 : (z1 != z1) = false := by simp
                have t2 : decide (z1 < 0) = false := decide_eq_false (by omega)
                have t3 : decide (c1 < z1) = false := decide_eq_false (by omega)
                clear hcell hE2 hmem hbz hfd hnz hrl hbj
                go_wp2_with fail
                go_roundw
                case rel => exact ⟨j + 1, hjl, by go_num, HBJ⟩
                case measure => simp [intOf]; omega
              · obtain rfl : j = l2.length := by omega
                have hj8 : ¬ ((l2.length : Int) < l2.length) := by omega
                have HE9 := Lib.hid (HE8.out.below hbj.out)
                clear hbj hj8
                have hj7 : ((l2.length : Int) < l2.length) = False := by simp
                go_wp2_with fail
                refine (getB W W.heap.size pb _ l2 _ s hs40 wr HE9.out.pool).mono ?_
                rintro e w10 ⟨rfl, hb10⟩
                have HE10 := Lib.hid (HE9.out.below hb10)
                clear hb10 HE9
                obtain ⟨is, his⟩ : ∃ is, is = (fndB l2 s).isSome := ⟨_, rfl⟩
                rw [← his]
                have hrl := HE10.out.rel s
                obtain ⟨n1, w1, c1, s1, z1⟩ := (fndB l2 s).getD bk0
                simp only [bkV, bkC]
                have HEX := Lib.hid (HE10.out.below (below_alloc w10 (.cells #[.string n1, .int .i64 w1, .int .i64 c1, .int .i64 s1, .int .i64 z1] 33)))
                have hlk := HEX.out.mp.look (s := s) (by unfold maxLen; omega)
                simp only [MI] at hlk
                cases is with
                | true =>
                  clear hlk hrl his
                  go_wp2_with fail
                  go_roundw
                  case rel => exact ⟨t + 1, l2, f2, by omega, hlt, by go_num, HEX⟩
                  case measure => simp [intOf]; omega
                | false =>
                  have hno : fndB l2 s = none := by
                    cases h9 : fndB l2 s with
                    | none => rfl
                    | some b => rw [h9] at his; cases his
                  rw [show bzOf l2 s = 0 by unfold bzOf; rw [hno]] at hrl
                  rw [hrl] at hlk
                  clear hrl his hno
                  go_wp2_with fail
                  go_roundw
                  case rel => exact ⟨t + 1, l2, f2, by omega, hlt, by go_num, HEX⟩
                  case measure => simp [intOf]; omega
        as_aux_lemma =>
          have k5 : (k == 5) = false := by simp; omega
          have k0 : (k == 0) = false := by simp; omega
          have k1 : (k == 1) = false := by simp; omega
          have k2 : (k == 2) = false := by simp; omega
          have k3 : (k == 3) = false := by simp; omega
          have k4 : (k == 4) = false := by simp; omega
          clear hk
          go_wp2_with fail
          refine (giveB W W.heap.size pb t HN2.out l _ s hs40 w5 HD3.out.pool HO5.out).mono ?_
          rintro e w6 ⟨rfl, hp6, hk6⟩
          have HP6 := Lib.hid hp6
          have HK6 := Lib.hid hk6
          have HM6 := Lib.hid (HD3.out.mp.keep hk6 (fun e => e rfl))
          clear hp6 hk6
          have hbd := bz_bound HG.out s
          have hlk6 := HM6.out.look (s := s) (by unfold maxLen; omega)
          simp only [MI] at hlk6
          rw [HD3.out.rel s] at hlk6
          have hrl := gv_both (s := s) HG.out
          by_cases hE : chE l s gv1E = 0
          · have HR := Lib.hid (hrl.1 hE)
            have tE : (chE l s gv1E == 0) = true := by simp [hE]
            clear hE hrl
            obtain ⟨Z, hZ⟩ : ∃ Z, Z = bzOf l s := ⟨_, rfl⟩
            rw [← hZ] at HR hlk6 hbd
            have hz0 := hbd.1
            have hz1 := hbd.2
            clear hZ hbd
            go_upto_region 25 with (at_mapUpdate; refine wpl_storeO MI _ rfl _ _ _ rfl mb t f rfl HM6.out (by have := HN2.out; omega) s (Z - 1) rfl rfl (by unfold maxLen; omega) ?_; intro w7 m7 g7)
            have HEND : Hid (PcS W pb mb (t + 1) (chL l s gv1) (updO f s (some (Z - 1))) w7) := HD3.out.put HP6.out m7 g7 HR.out
            clear HP6 HM6 m7 g7 hlk6
            obtain ⟨l2, hl2⟩ : ∃ l2, l2 = chL l s gv1 := ⟨_, rfl⟩
            obtain ⟨f2, hf2⟩ : ∃ f2, f2 = updO f s (some (Z - 1)) := ⟨_, rfl⟩
            rw [← hl2, ← hf2] at HEND
            clear hl2 hf2
            go_wp2_with fail
            refine (listB W W.heap.size pb _ l2 _ w7 HEND.out.pool).mono ?_
            rintro e w8 ⟨lv, rfl, ho8, hb8⟩
            obtain ⟨la, lc, hlv⟩ := own_slice ho8
            subst hlv
            have HE8 := Lib.hid (HEND.out.below hb8)
            have HIB := Lib.hid (isBks_own ho8).2.1
            have hll := HEND.out.pool.good.2
            clear ho8 hb8 HEND
            go_wp2_with fail
            obtain ⟨wv, hwv⟩ : ∃ wv, wv = w8 := ⟨_, rfl⟩
            rw [← hwv] at HE8 HIB ⊢
            clear hwv w8
            go_loopw [73] (fun i wr => ∃ j : Nat, j ≤ l2.length ∧ i = .int .i64 (j : Int) ∧ Hid (Below wv.heap.size wv wr)) (fun i _ => l2.length - (intOf i).toNat)
            case atStart => exact ⟨0, Nat.zero_le _, rfl, Below.refl _ _⟩
            case round =>
              obtain ⟨j, hj, rfl, hbj⟩ := hrel
              by_cases hjl : j < l2.length
              · have j3 : (j : Int) < l2.length := by omega
                obtain h0 | ⟨bk2, oo2, rfl, hbk2, hcc, hcell⟩ := HIB.out.below hbj.out
                · subst h0; simp at hjl
                obtain ⟨x0, x1, x2, x3, x4⟩ := hcell j l2[j] (by simp [hjl])
                have hmem := List.getElem_mem hjl
                have hbz := HE8.out.pool.good.1.bz _ hmem
                have hfd := fndB_of_mem HE8.out.pool.good.1.ap hmem
                have hnz := HE8.out.pool.good.1.sz _ hmem
                obtain ⟨E2, hE2⟩ : ∃ E2, E2 = l2[j] := ⟨_, rfl⟩
                rw [← hE2] at x0 x1 x2 x3 x4 hbz hfd hnz
                obtain ⟨n1, w1, c1, s1, z1⟩ := E2
                simp only at x0 x1 x2 x3 x4 hbz hfd hnz
                have hrl := HE8.out.rel n1
                rw [show bzOf l2 n1 = z1 by unfold bzOf; rw [hfd]] at hrl
                have hlk := (HE8.out.below hbj.out |>.below (below_alloc wr (.cells #[.string n1, .int .i64 w1, .int .i64 c1, .int .i64 s1, .int .i64 z1] 33))).mp.look (s := n1) (by unfold maxLen; omega)
                simp only [MI] at hlk
                rw [hrl] at hlk
                have HBJ := Lib.hid (hbj.out.alloc hbj.out.size (.cells #[.string n1, .int .i64 w1, .int .i64 c1, .int .i64 s1, .int .i64 z1] 33))
                have t1 : (z1 != z1) = false := by simp
                have t2 : decide (z1 < 0) = false := decide_eq_false (by omega)
                have t3 : decide (c1 < z1) = false := decide_eq_false (by omega)
                clear hcell hE2 hmem hbz hfd hnz hrl hbj
                go_wp2_with fail
                go_roundw
                case rel => exact ⟨j + 1, hjl, by go_num, HBJ⟩
                case measure => simp [intOf]; omega
              · obtain rfl : j = l2.length := by omega
                have hj8 : ¬ ((l2.length : Int) < l2.length) := by omega
                have HE9 := Lib.hid (HE8.out.below hbj.out)
                clear hbj hj8
                have hj7 : ((l2.length : Int) < l2.length) = False := by simp
                go_wp2_with fail
                refine (getB W W.heap.size pb _ l2 _ s hs40 wr HE9.out.pool).mono ?_
                rintro e w10 ⟨rfl, hb10⟩
                have HE10 := Lib.hid (HE9.out.below hb10)
                clear hb10 HE9
                obtain ⟨is, his⟩ : ∃ is, is = (fndB l2 s).isSome := ⟨_, rfl⟩
                rw [← his]
                have hrl := HE10.out.rel s
                obtain ⟨n1, w1, c1, s1, z1⟩ := (fndB l2 s).getD bk0
                simp only [bkV, bkC]
                have HEX := Lib.hid (HE10.out.below (below_alloc w10 (.cells #[.string n1, .int .i64 w1, .int .i64 c1, .int .i64 s1, .int .i64 z1] 33)))
                have hlk := HEX.out.mp.look (s := s) (by unfold maxLen; omega)
                simp only [MI] at hlk
                cases is with
                | true =>
                  clear hlk hrl his
                  go_wp2_with fail
                  go_roundw
                  case rel => exact ⟨t + 1, l2, f2, by omega, hlt, by go_num, HEX⟩
                  case measure => simp [intOf]; omega
                | false =>
                  have hno : fndB l2 s = none := by
                    cases h9 : fndB l2 s with
                    | none => rfl
                    | some b => rw [h9] at his; cases his
                  rw [show bzOf l2 s = 0 by unfold bzOf; rw [hno]] at hrl
                  rw [hrl] at hlk
                  clear hrl his hno
                  go_wp2_with fail
                  go_roundw
                  case rel => exact ⟨t + 1, l2, f2, by omega, hlt, by go_num, HEX⟩
                  case measure => simp [intOf]; omega
          · have HR := Lib.hid (hrl.2 hE)
            have tE : (chE l s gv1E == 0) = false := by simp [hE]
            clear hE hrl hlk6 hbd
            have HEND : Hid (PcS W pb mb (t + 1) (chL l s gv1) f w6) := HD3.out.call HP6.out HK6.out HR.out
            clear HP6 HM6
            obtain ⟨l2, hl2⟩ : ∃ l2, l2 = chL l s gv1 := ⟨_, rfl⟩
            obtain ⟨f2, hf2⟩ : ∃ f2, f2 = f := ⟨_, rfl⟩
            rw [← hl2, ← hf2] at HEND
            clear hl2 hf2
            go_wp2_with fail
            refine (listB W W.heap.size pb _ l2 _ w6 HEND.out.pool).mono ?_
            rintro e w8 ⟨lv, rfl, ho8, hb8⟩
            obtain ⟨la, lc, hlv⟩ := own_slice ho8
            subst hlv
            have HE8 := Lib.hid (HEND.out.below hb8)
            have HIB := Lib.hid (isBks_own ho8).2.1
            have hll := HEND.out.pool.good.2
            clear ho8 hb8 HEND
            go_wp2_with fail
            obtain ⟨wv, hwv⟩ : ∃ wv, wv = w8 := ⟨_, rfl⟩
            rw [← hwv] at HE8 HIB ⊢
            clear hwv w8
            go_loopw [73] (fun i wr => ∃ j : Nat, j ≤ l2.length ∧ i = .int .i64 (j : Int) ∧ Hid (Below wv.heap.size wv wr)) (fun i _ => l2.length - (intOf i).toNat)
            case atStart => exact ⟨0, Nat.zero_le _, rfl, Below.refl _ _⟩
            case round =>
              obtain ⟨j, hj, rfl, hbj⟩ := hrel
              by_cases hjl : j < l2.length
              · have j3 : (j : Int) < l2.length := by omega
                obtain h0 | ⟨bk2, oo2, rfl, hbk2, hcc, hcell⟩ := HIB.out.below hbj.out
                · subst h0; simp at hjl
                obtain ⟨x0, x1, x2, x3, x4⟩ := hcell j l2[j] (by simp [hjl])
                have hmem := List.getElem_mem hjl
                have hbz := HE8.out.pool.good.1.bz _ hmem
                have hfd := fndB_of_mem HE8.out.pool.good.1.ap hmem
                have hnz := HE8.out.pool.good.1.sz _ hmem
                obtain ⟨E2, hE2⟩ : ∃ E2, E2 = l2[j] := ⟨_, rfl⟩
                rw [← hE2] at x0 x1 x2 x3 x4 hbz hfd hnz
                obtain ⟨n1, w1, c1, s1, z1⟩ := E2
                simp only at x0 x1 x2 x3 x4 hbz hfd hnz
                have hrl := HE8.out.rel n1
                rw [show bzOf l2 n1 = z1 by unfold bzOf; rw [hfd]] at hrl
                have hlk := (HE8.out.below hbj.out |>.below (below_alloc wr (.cells #[.string n1, .int .i64 w1, .int .i64 c1, .int .i64 s1, .int .i64 z1] 33))).mp.look (s := n1) (by unfold maxLen; omega)
                simp only [MI] at hlk
                rw [hrl] at hlk
                have HBJ := Lib.hid (hbj.out.alloc hbj.out.size (.cells #[.string n1, .int .i64 w1, .int .i64 c1, .int .i64 s1, .int .i64 z1] 33))
                have t1 : (z1 != z1) = false := by simp
                have t2 : decide (z1 < 0) = false := decide_eq_false (by omega)
                have t3 : decide (c1 < z1) = false := decide_eq_false (by omega)
                clear hcell hE2 hmem hbz hfd hnz hrl hbj
                go_wp2_with fail
                go_roundw
                case rel => exact ⟨j + 1, hjl, by go_num, HBJ⟩
                case measure => simp [intOf]; omega
              · obtain rfl : j = l2.length := by omega
                have hj8 : ¬ ((l2.length : Int) < l2.length) := by omega
                have HE9 := Lib.hid (HE8.out.below hbj.out)
                clear hbj hj8
                have hj7 : ((l2.length : Int) < l2.length) = False := by simp
                go_wp2_with fail
                refine (getB W W.heap.size pb _ l2 _ s hs40 wr HE9.out.pool).mono ?_
                rintro e w10 ⟨rfl, hb10⟩
                have HE10 := Lib.hid (HE9.out.below hb10)
                clear hb10 HE9
                obtain ⟨is, his⟩ : ∃ is, is = (fndB l2 s).isSome := ⟨_, rfl⟩
                rw [← his]
                have hrl := HE10.out.rel s
                obtain ⟨n1, w1, c1, s1, z1⟩ := (fndB l2 s).getD bk0
                simp only [bkV, bkC]
                have HEX := Lib.hid (HE10.out.below (below_alloc w10 (.cells #[.string n1, .int .i64 w1, .int .i64 c1, .int .i64 s1, .int .i64 z1] 33)))
                have hlk := HEX.out.mp.look (s := s) (by unfold maxLen; omega)
                simp only [MI] at hlk
                cases is with
                | true =>
                  clear hlk hrl his
                  go_wp2_with fail
                  go_roundw
                  case rel => exact ⟨t + 1, l2, f2, by omega, hlt, by go_num, HEX⟩
                  case measure => simp [intOf]; omega
                | false =>
                  have hno : fndB l2 s = none := by
                    cases h9 : fndB l2 s with
                    | none => rfl
                    | some b => rw [h9] at his; cases his
                  rw [show bzOf l2 s = 0 by unfold bzOf; rw [hno]] at hrl
                  rw [hrl] at hlk
                  clear hrl his hno
                  go_wp2_with fail
                  go_roundw
                  case rel => exact ⟨t + 1, l2, f2, by omega, hlt, by go_num, HEX⟩
                  case measure => simp [intOf]; omega
      · obtain rfl : t = 60 := by omega
        go_wp2_with fail
        go_ret
        exact ⟨rfl, hD.out.pool.bel⟩
    · obtain rfl : t = ats.length := by omega
      have hj0 : ¬ ((ats.length : Int) < ats.length) := by omega
      go_wp2_with fail
      go_ret
      exact ⟨rfl, hD.out.pool.bel⟩

end Go.Proofs.Ytoikgphbicnhaab
