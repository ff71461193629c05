/- The law PoolPlays. -/
import Derived.Test.YtoikgphbicnhaabPlX
import Derived.Test.YtoikgphbicnhaabPlY
namespace Go.Proofs.Ytoikgphbicnhaab
open Go.RowKit Go.Maps Go.Shelf Go.Sort

/-- The block of a slice. -/
def OS (a : Option Addr) : Nat → Prop := fun k => ∃ p, a = some p ∧ p.block = k
/-- All names may be names. -/
def NmR (l : List Bk) : Prop := ∀ b ∈ l, nameB b.nm.data.toList = true
theorem NmR.ch {l : List Bk} (h : NmR l) {s : ByteArray} {g : Bk → Bk} (hn : ∀ b, (g b).nm = b.nm) : NmR (chL l s g) := by
  intro x hx
  rcases ch_mem hx with e | ⟨b, hb, rfl⟩
  · exact h x e
  · rw [hn]; exact h b (fndB_mem hb).1
theorem NmR.act {l : List Bk} (h : NmR l) (k u v : Int) (s : ByteArray) : NmR (actL k u v s l) := by
  unfold actL
  split
  · by_cases he : addE (nameB s.data.toList) l s u v = 0
    · rw [(add_zero he).1]
      intro x hx
      rcases List.mem_append.1 hx with hx | hx
      · exact h x hx
      · simp at hx
        subst hx
        cases hq : nameB s.data.toList with
        | true => rfl
        | false => rw [hq] at he; unfold addE at he; rw [if_pos (.inl rfl)] at he; cases he
    · rw [add_not he]; exact h
  · split
    · exact h.ch (rw2_nm u)
    · split
      · exact h.ch (tn1_nm 1)
      · split
        · exact h.ch (tn1_nm 0)
        · split
          · exact h.ch (tn1_nm 2)
          · split
            · exact h.ch tk1_nm
            · exact h.ch gv1_nm
theorem NmR.no {l : List Bk} (h : NmR l) {s : ByteArray} (hs : nameB s.data.toList = false) : fndB l s = none := by
  cases hf : fndB l s with
  | none => rfl
  | some b =>
    obtain ⟨h1, h2⟩ := fndB_mem hf
    have h3 := h b h1
    rw [h2, hs] at h3
    cases h3
/-- Between two rounds of the first loop. -/
structure PpS (W : World) (pb t : Nat) (l : List Bk) (a : Option Addr) (c : Nat) (w : World) : Prop where
  pool : PoolB W W.heap.size pb t l (OS a) w
  ref : IsBksN w a c l
  nm : NmR l
theorem PpS.below {W w w' : World} {pb t c : Nat} {l : List Bk} {a : Option Addr} (h : PpS W pb t l a c w) (hb : Below w.heap.size w w') : PpS W pb t l a c w' := ⟨h.pool.below hb, h.ref.below hb, h.nm⟩
/-- Between two rounds of the second loop: the first pool p with its list l, the clone with its list m. -/
structure Pp2 (W : World) (pb n0 : Nat) (F : Nat → Prop) (l : List Bk) (a : Option Addr) (c : Nat) (pc n : Nat) (m : List Bk) (a2 : Option Addr) (c2 : Nat) (w : World) : Prop where
  pool : PoolB W W.heap.size pc n m (fun k => (F k ∨ OS a k) ∨ OS a2 k) w
  p : PoolM w pb n0 F l
  rl : IsBksN w a c l
  rm : IsBksN w a2 c2 m
  fl : ∀ k, F k → W.heap.size ≤ k
theorem Pp2.below {W w w' : World} {pb n0 c pc n c2 : Nat} {F : Nat → Prop} {l m : List Bk} {a a2 : Option Addr} (h : Pp2 W pb n0 F l a c pc n m a2 c2 w) (hb : Below w.heap.size w w') : Pp2 W pb n0 F l a c pc n m a2 c2 w' :=
  ⟨h.pool.below hb, h.p.below hb, h.rl.below hb, h.rm.below hb, h.fl⟩
theorem Pp2.lt {W w : World} {pb n0 c pc n c2 : Nat} {F : Nat → Prop} {l m : List Bk} {a a2 : Option Addr} (h : Pp2 W pb n0 F l a c pc n m a2 c2 w) : ∀ k, (fun k => (F k ∨ OS a k) ∨ OS a2 k) k → k < w.heap.size := by
  rintro k ((e | ⟨p, e1, e2⟩) | ⟨p, e1, e2⟩)
  · exact h.p.lt e
  · rw [← e2]; exact h.rl.blk p e1
  · rw [← e2]; exact h.rm.blk p e1
theorem Pp2.next {W w w' : World} {pb n0 c pc n c2 c3 : Nat} {F : Nat → Prop} {l m m' : List Bk} {a a2 a3 : Option Addr} (h : Pp2 W pb n0 F l a c pc n m a2 c2 w) (hp : PoolB W W.heap.size pc (n + 1) m' (OA (fun k => (F k ∨ OS a k) ∨ OS a2 k) a3) w') (hk : Keep (fun k => ¬ ((F k ∨ OS a k) ∨ OS a2 k)) w w') (hr : IsBksN w' a3 c3 m') : Pp2 W pb n0 F l a c pc (n + 1) m' a3 c3 w' :=
  ⟨hp.other (fun k hk => .inl (by
      rcases hk with e | e
      · exact .inl (.inl e)
      · exact .inr e)), h.p.keep hk (fun k hf hn => hn (.inl (.inl hf))), h.rl.keep hk (fun p hp2 hn => hn (.inl (.inr ⟨p, hp2, rfl⟩))), hr, h.fl⟩
/-- No name. -/
def nsn : ByteArray := ⟨#[110, 111, 32, 115, 117, 99, 104, 32, 110, 97, 109, 101]⟩
theorem nsn_no : nameB nsn.data.toList = false := by decide
set_option maxHeartbeats 16000000 in
set_option maxRecDepth 100000 in
theorem lawPoolPlays (a : Option Addr) (c : Nat) (ats : List PAct) (hal : ats.length ≤ 9223372036854775807) (b : Option Addr) (d : Nat) (bts : List PAct) (hbl : bts.length ≤ 9223372036854775807) (W : World) (hA : IsPacts W a c ats) (hB : IsPacts W b d bts) :
    Calls Try.prog 3 #[.slice a ats.length c, .slice b bts.length d] W fun e w' => e = .returned (.bool true) ∧ Below W.heap.size W w' := by
  have HA := Lib.hid hA
  have HB := Lib.hid hB
  clear hA hB
  go_enter Try.func3, Try.ntmps3
  go_wp2_with fail
  refine (awake7 _).mono ?_
  rintro e w1 ⟨rfl, hb1⟩
  have HB1 := Lib.hid hb1
  clear hb1
  go_wp2_with fail
  refine (pnew8 _).mono ?_
  rintro e w2 ⟨rfl, hp, hb2⟩
  obtain ⟨pb, hpb⟩ : ∃ pb, pb = w1.heap.size := ⟨_, rfl⟩
  rw [← hpb] at hp ⊢
  have HD : Hid (PpS W pb 0 [] none 0 w2) := by
    have h1 := HB1.out.size
    refine ⟨⟨_, hp, fun k hk => ⟨by subst hk; omega, fun e => ?_⟩, HB1.out.trans (hb2.mono h1), Nat.le_refl _⟩, ⟨.inl rfl, fun _ => rfl, fun p hp => by cases hp⟩, fun b hb => by cases hb⟩
    obtain ⟨p, e1, _⟩ := e
    cases e1
  clear hp hb2 hpb HB1
  go_wp2_with fail
  go_loopw [6, 7, 8] (fun x q i wr => ∃ (t : Nat) (l : List Bk) (ra : Option Addr) (rc : Nat) (q0 : Bool), t ≤ 50 ∧ t ≤ ats.length ∧ i = .int .i64 (t : Int) ∧ x = .slice ra l.length rc ∧ q = .bool q0 ∧ Hid (PpS W pb t l ra rc wr)) (fun _ _ i _ => ats.length - (intOf i).toNat)
  case atStart => exact ⟨0, [], none, 0, false, by omega, Nat.zero_le _, rfl, rfl, rfl, HD⟩
  case round =>
    obtain ⟨t, l, ra, rc, q0, ht, hta, rfl, rfl, rfl, hD⟩ := hrel
    by_cases hlt : t < ats.length
    · have j1 : (t : Int) < ats.length := by omega
      by_cases hl3 : t < 50
      · have j2 : (t : Int) < 50 := by omega
        obtain h0 | ⟨bk, oo, rfl, hbk, hc, hcell⟩ := HA.out.below hD.out.pool.bel
        · subst h0; simp at hlt
        obtain ⟨x0, x1, x2, x3⟩ := hcell t ats[t] (by simp [hlt])
        obtain ⟨E, hE⟩ : ∃ E, E = ats[t] := ⟨_, rfl⟩
        rw [← hE] at x0 x1 x2 x3
        clear hcell hE
        obtain ⟨k, u, v, N⟩ := E
        simp only at x0 x1 x2 x3
        have hd := do9 W W.heap.size pb t (by unfold maxLen; omega) l (OS ra) l hD.out.pool.good.1 (by have := hD.out.pool.good.2; omega) ra rc k u v N wr hD.out.pool (fun k hk => by obtain ⟨p, e1, e2⟩ := hk; rw [← e2]; exact hD.out.ref.blk p e1) hD.out.ref (fun p hp => ⟨p, hp, rfl⟩)
        have HDD := Lib.hid hd
        have HNM := Lib.hid (hD.out.nm.act k u v (cutS N 40))
        clear hd hD
        go_wp2_with fail
        refine HDD.out.mono ?_
        rintro e w3 ⟨a', c', q, rfl, hr3, hq, hp3, hk3, _⟩
        obtain rfl : q = true := hq (by trivial)
        obtain ⟨l2, hl2⟩ : ∃ l2, l2 = actL k u v (cutS N 40) l := ⟨_, rfl⟩
        rw [← hl2] at hr3 hp3 HNM ⊢
        have HD3 : Hid (PpS W pb (t + 1) l2 a' c' w3) := ⟨hp3.other (fun k hk => .inl (.inr hk)), hr3, HNM.out⟩
        clear hl2 hr3 hp3 hk3 hq HDD HNM x0 x1 x2 x3 hbk hc
        have his := is10 W W.heap.size pb (t + 1) l2 (OS a') a' c' w3 HD3.out.pool HD3.out.ref.bks
        have HIS := Lib.hid his
        clear his
        go_wp2_with fail
        refine HIS.out.mono ?_
        rintro e w4 ⟨rfl, hb4⟩
        have HD4 := Lib.hid (HD3.out.below hb4)
        clear hb4 HD3
        go_wp2_with fail
        go_roundw
        case rel => exact ⟨t + 1, l2, a', c', true, by omega, hlt, by go_num, rfl, rfl, HD4⟩
        case measure => simp [intOf]; omega
      · as_aux_lemma =>
          obtain ⟨n0, hn0⟩ : ∃ n0, n0 = t := ⟨_, rfl⟩
          have hn50 : n0 ≤ 50 := by omega
          rw [← hn0] at hD
          clear hn0
          have hj6 : ¬ ((t : Int) < 50) := by omega
          have hcl := cloneB W W.heap.size pb n0 l (OS ra) wr hD.out.pool
          have HCL := Lib.hid hcl
          clear hcl
          go_wp2_with fail
          refine HCL.out.mono ?_
          rintro e w3 ⟨pc, rfl, FC, hpc, hfc, hb3⟩
          have HP0 := Lib.hid hD.out.pool
          obtain ⟨FP, hp1, hp2, hp3, hp4⟩ := hD.out.pool
          have HNM := Lib.hid hD.out.nm
          have HD2 : Hid (Pp2 W pb n0 FP l ra rc pc n0 l ra rc w3) := by
            refine ⟨⟨FC, hpc, fun k hk => ⟨Nat.le_trans hD.out.pool.le (hfc k hk), fun hh => ?_⟩, hp3.trans (hb3.mono hD.out.pool.le), hp4⟩, hp1.below hb3, hD.out.ref.below hb3, hD.out.ref.below hb3, fun k hk => (hp2 k hk).1⟩
            have h9 := hfc k hk
            rcases hh with (e | ⟨p, e1, e2⟩) | ⟨p, e1, e2⟩
            · have := hp1.lt e; omega
            · have := hD.out.ref.blk p e1; omega
            · have := hD.out.ref.blk p e1; omega
          clear hD HCL hpc hfc hb3 hp1 hp2 hp3 hp4 HP0
          go_wp2_with fail
          go_loopw [7, 10, 11] (fun q x i wr => ∃ (t : Nat) (m : List Bk) (ma : Option Addr) (mc : Nat) (q0 : Bool), t ≤ 20 ∧ t ≤ bts.length ∧ i = .int .i64 (t : Int) ∧ x = .slice ma m.length mc ∧ q = .bool q0 ∧ Hid (Pp2 W pb n0 FP l ra rc pc (n0 + t) m ma mc wr)) (fun _ _ i _ => bts.length - (intOf i).toNat)
          case atStart => exact ⟨0, l, ra, rc, q0, by omega, Nat.zero_le _, rfl, rfl, rfl, HD2⟩
          case round =>
            obtain ⟨t2, m, ma, mc, q9, ht2, hta2, rfl, rfl, rfl, hD⟩ := hrel
            by_cases hlt2 : t2 < bts.length
            · have j3 : (t2 : Int) < bts.length := by omega
              by_cases hl4 : t2 < 20
              · have j4 : (t2 : Int) < 20 := by omega
                obtain h0 | ⟨bk2, oo2, rfl, hbk2, hc2, hcell⟩ := HB.out.below hD.out.pool.bel
                · subst h0; simp at hlt2
                obtain ⟨x0, x1, x2, x3⟩ := hcell t2 bts[t2] (by simp [hlt2])
                obtain ⟨E, hE⟩ : ∃ E, E = bts[t2] := ⟨_, rfl⟩
                rw [← hE] at x0 x1 x2 x3
                clear hcell hE
                obtain ⟨k, u, v, N⟩ := E
                simp only at x0 x1 x2 x3
                have hd := do9 W W.heap.size pc (n0 + t2) (by unfold maxLen; omega) m _ m hD.out.pool.good.1 (by have := hD.out.pool.good.2; omega) ma mc k u v N wr hD.out.pool hD.out.lt hD.out.rm (fun p hp => .inr ⟨p, hp, rfl⟩)
                have HDD := Lib.hid hd
                have HD9 := hD
                clear hd hD
                go_wp2_with fail
                refine HDD.out.mono ?_
                rintro e w6 ⟨a', c', q, rfl, hr6, hq, hp6, hk6, _⟩
                obtain rfl : q = true := hq (by trivial)
                have HD6 : Hid (Pp2 W pb n0 FP l ra rc pc (n0 + t2 + 1) (actL k u v (cutS N 40) m) a' c' w6) := HD9.out.next hp6 hk6 hr6
                clear hr6 hp6 hk6 hq HDD HD9 x0 x1 x2 x3 hbk2 hc2
                go_wp2_with fail
                go_roundw
                case rel => exact ⟨t2 + 1, _, a', c', true, by omega, hlt2, by go_num, rfl, rfl, HD6⟩
                case measure => simp [intOf]; omega
              · as_aux_lemma =>
                  have hj5 : ¬ ((t2 : Int) < 20) := by omega
                  have HDX := hD
                  have hpp : PoolB W W.heap.size pb n0 l (fun _ => False) wr := ⟨FP, hD.out.p, fun k hk => ⟨hD.out.fl k hk, fun h => h⟩, hD.out.pool.bel, Nat.le_refl _⟩
                  have hno := HNM.out.no nsn_no
                  have hgt := getB W W.heap.size pb n0 l _ nsn (by decide) wr hpp
                  rw [hno] at hgt
                  simp only [Option.getD_none, Option.isSome_none, bkV, bkC, bk0, nsn] at hgt
                  have HGT := Lib.hid hgt
                  have HPP := Lib.hid hpp
                  obtain ⟨n9, hn9⟩ : ∃ n9, n9 = n0 + t2 := ⟨_, rfl⟩
                  clear hgt hpp hno hD
                  go_wp2_with fail
                  refine HGT.out.mono ?_
                  rintro e w6 ⟨rfl, hb6⟩
                  have hb7 := hb6.trans ((below_alloc w6 (.cells #[.string ⟨#[]⟩, .int .i64 0, .int .i64 0, .int .i64 0, .int .i64 0] 33)).mono hb6.size)
                  have HPP7 := Lib.hid (HPP.out.below hb7)
                  have HD7 := Lib.hid (HDX.out.below hb7)
                  clear hb6 hb7 HGT HPP HDX
                  have his := is10 W W.heap.size pb n0 l _ ra rc _ HPP7.out HD7.out.rl.bks
                  have HIS := Lib.hid his
                  clear his
                  go_wp2_with fail
                  refine HIS.out.mono ?_
                  rintro e w8 ⟨rfl, hb8⟩
                  have HD8 := Lib.hid (HD7.out.below hb8)
                  clear hb8 HIS HD7 HPP7
                  have his := is10 W W.heap.size pc _ m _ ma mc _ HD8.out.pool HD8.out.rm.bks
                  have HIS := Lib.hid his
                  clear his
                  go_wp2_with fail
                  refine HIS.out.mono ?_
                  rintro e w9 ⟨rfl, hb9⟩
                  have HD9 := Lib.hid (HD8.out.below hb9)
                  clear hb9 HIS HD8
                  go_wp2_with fail
                  go_ret
                  exact ⟨rfl, HD9.out.pool.bel⟩
            · as_aux_lemma =>
                have hj5 : ¬ ((t2 : Int) < bts.length) := by omega
                have HDX := hD
                have hpp : PoolB W W.heap.size pb n0 l (fun _ => False) wr := ⟨FP, hD.out.p, fun k hk => ⟨hD.out.fl k hk, fun h => h⟩, hD.out.pool.bel, Nat.le_refl _⟩
                have hno := HNM.out.no nsn_no
                have hgt := getB W W.heap.size pb n0 l _ nsn (by decide) wr hpp
                rw [hno] at hgt
                simp only [Option.getD_none, Option.isSome_none, bkV, bkC, bk0, nsn] at hgt
                have HGT := Lib.hid hgt
                have HPP := Lib.hid hpp
                obtain ⟨n9, hn9⟩ : ∃ n9, n9 = n0 + t2 := ⟨_, rfl⟩
                clear hgt hpp hno hD
                go_wp2_with fail
                refine HGT.out.mono ?_
                rintro e w6 ⟨rfl, hb6⟩
                have hb7 := hb6.trans ((below_alloc w6 (.cells #[.string ⟨#[]⟩, .int .i64 0, .int .i64 0, .int .i64 0, .int .i64 0] 33)).mono hb6.size)
                have HPP7 := Lib.hid (HPP.out.below hb7)
                have HD7 := Lib.hid (HDX.out.below hb7)
                clear hb6 hb7 HGT HPP HDX
                have his := is10 W W.heap.size pb n0 l _ ra rc _ HPP7.out HD7.out.rl.bks
                have HIS := Lib.hid his
                clear his
                go_wp2_with fail
                refine HIS.out.mono ?_
                rintro e w8 ⟨rfl, hb8⟩
                have HD8 := Lib.hid (HD7.out.below hb8)
                clear hb8 HIS HD7 HPP7
                have his := is10 W W.heap.size pc _ m _ ma mc _ HD8.out.pool HD8.out.rm.bks
                have HIS := Lib.hid his
                clear his
                go_wp2_with fail
                refine HIS.out.mono ?_
                rintro e w9 ⟨rfl, hb9⟩
                have HD9 := Lib.hid (HD8.out.below hb9)
                clear hb9 HIS HD8
                go_wp2_with fail
                go_ret
                exact ⟨rfl, HD9.out.pool.bel⟩
    · as_aux_lemma =>
        obtain ⟨n0, hn0⟩ : ∃ n0, n0 = t := ⟨_, rfl⟩
        have hn50 : n0 ≤ 50 := by omega
        rw [← hn0] at hD
        clear hn0
        have hj6 : ¬ ((t : Int) < ats.length) := by omega
        have hcl := cloneB W W.heap.size pb n0 l (OS ra) wr hD.out.pool
        have HCL := Lib.hid hcl
        clear hcl
        go_wp2_with fail
        refine HCL.out.mono ?_
        rintro e w3 ⟨pc, rfl, FC, hpc, hfc, hb3⟩
        have HP0 := Lib.hid hD.out.pool
        obtain ⟨FP, hp1, hp2, hp3, hp4⟩ := hD.out.pool
        have HNM := Lib.hid hD.out.nm
        have HD2 : Hid (Pp2 W pb n0 FP l ra rc pc n0 l ra rc w3) := by
          refine ⟨⟨FC, hpc, fun k hk => ⟨Nat.le_trans hD.out.pool.le (hfc k hk), fun hh => ?_⟩, hp3.trans (hb3.mono hD.out.pool.le), hp4⟩, hp1.below hb3, hD.out.ref.below hb3, hD.out.ref.below hb3, fun k hk => (hp2 k hk).1⟩
          have h9 := hfc k hk
          rcases hh with (e | ⟨p, e1, e2⟩) | ⟨p, e1, e2⟩
          · have := hp1.lt e; omega
          · have := hD.out.ref.blk p e1; omega
          · have := hD.out.ref.blk p e1; omega
        clear hD HCL hpc hfc hb3 hp1 hp2 hp3 hp4 HP0
        go_wp2_with fail
        go_loopw [7, 10, 11] (fun q x i wr => ∃ (t : Nat) (m : List Bk) (ma : Option Addr) (mc : Nat) (q0 : Bool), t ≤ 20 ∧ t ≤ bts.length ∧ i = .int .i64 (t : Int) ∧ x = .slice ma m.length mc ∧ q = .bool q0 ∧ Hid (Pp2 W pb n0 FP l ra rc pc (n0 + t) m ma mc wr)) (fun _ _ i _ => bts.length - (intOf i).toNat)
        case atStart => exact ⟨0, l, ra, rc, q0, by omega, Nat.zero_le _, rfl, rfl, rfl, HD2⟩
        case round =>
          obtain ⟨t2, m, ma, mc, q9, ht2, hta2, rfl, rfl, rfl, hD⟩ := hrel
          by_cases hlt2 : t2 < bts.length
          · have j3 : (t2 : Int) < bts.length := by omega
            by_cases hl4 : t2 < 20
            · have j4 : (t2 : Int) < 20 := by omega
              obtain h0 | ⟨bk2, oo2, rfl, hbk2, hc2, hcell⟩ := HB.out.below hD.out.pool.bel
              · subst h0; simp at hlt2
              obtain ⟨x0, x1, x2, x3⟩ := hcell t2 bts[t2] (by simp [hlt2])
              obtain ⟨E, hE⟩ : ∃ E, E = bts[t2] := ⟨_, rfl⟩
              rw [← hE] at x0 x1 x2 x3
              clear hcell hE
              obtain ⟨k, u, v, N⟩ := E
              simp only at x0 x1 x2 x3
              have hd := do9 W W.heap.size pc (n0 + t2) (by unfold maxLen; omega) m _ m hD.out.pool.good.1 (by have := hD.out.pool.good.2; omega) ma mc k u v N wr hD.out.pool hD.out.lt hD.out.rm (fun p hp => .inr ⟨p, hp, rfl⟩)
              have HDD := Lib.hid hd
              have HD9 := hD
              clear hd hD
              go_wp2_with fail
              refine HDD.out.mono ?_
              rintro e w6 ⟨a', c', q, rfl, hr6, hq, hp6, hk6, _⟩
              obtain rfl : q = true := hq (by trivial)
              have HD6 : Hid (Pp2 W pb n0 FP l ra rc pc (n0 + t2 + 1) (actL k u v (cutS N 40) m) a' c' w6) := HD9.out.next hp6 hk6 hr6
              clear hr6 hp6 hk6 hq HDD HD9 x0 x1 x2 x3 hbk2 hc2
              go_wp2_with fail
              go_roundw
              case rel => exact ⟨t2 + 1, _, a', c', true, by omega, hlt2, by go_num, rfl, rfl, HD6⟩
              case measure => simp [intOf]; omega
            · as_aux_lemma =>
                have hj5 : ¬ ((t2 : Int) < 20) := by omega
                have HDX := hD
                have hpp : PoolB W W.heap.size pb n0 l (fun _ => False) wr := ⟨FP, hD.out.p, fun k hk => ⟨hD.out.fl k hk, fun h => h⟩, hD.out.pool.bel, Nat.le_refl _⟩
                have hno := HNM.out.no nsn_no
                have hgt := getB W W.heap.size pb n0 l _ nsn (by decide) wr hpp
                rw [hno] at hgt
                simp only [Option.getD_none, Option.isSome_none, bkV, bkC, bk0, nsn] at hgt
                have HGT := Lib.hid hgt
                have HPP := Lib.hid hpp
                obtain ⟨n9, hn9⟩ : ∃ n9, n9 = n0 + t2 := ⟨_, rfl⟩
                clear hgt hpp hno hD
                go_wp2_with fail
                refine HGT.out.mono ?_
                rintro e w6 ⟨rfl, hb6⟩
                have hb7 := hb6.trans ((below_alloc w6 (.cells #[.string ⟨#[]⟩, .int .i64 0, .int .i64 0, .int .i64 0, .int .i64 0] 33)).mono hb6.size)
                have HPP7 := Lib.hid (HPP.out.below hb7)
                have HD7 := Lib.hid (HDX.out.below hb7)
                clear hb6 hb7 HGT HPP HDX
                have his := is10 W W.heap.size pb n0 l _ ra rc _ HPP7.out HD7.out.rl.bks
                have HIS := Lib.hid his
                clear his
                go_wp2_with fail
                refine HIS.out.mono ?_
                rintro e w8 ⟨rfl, hb8⟩
                have HD8 := Lib.hid (HD7.out.below hb8)
                clear hb8 HIS HD7 HPP7
                have his := is10 W W.heap.size pc _ m _ ma mc _ HD8.out.pool HD8.out.rm.bks
                have HIS := Lib.hid his
                clear his
                go_wp2_with fail
                refine HIS.out.mono ?_
                rintro e w9 ⟨rfl, hb9⟩
                have HD9 := Lib.hid (HD8.out.below hb9)
                clear hb9 HIS HD8
                go_wp2_with fail
                go_ret
                exact ⟨rfl, HD9.out.pool.bel⟩
          · as_aux_lemma =>
              have hj5 : ¬ ((t2 : Int) < bts.length) := by omega
              have HDX := hD
              have hpp : PoolB W W.heap.size pb n0 l (fun _ => False) wr := ⟨FP, hD.out.p, fun k hk => ⟨hD.out.fl k hk, fun h => h⟩, hD.out.pool.bel, Nat.le_refl _⟩
              have hno := HNM.out.no nsn_no
              have hgt := getB W W.heap.size pb n0 l _ nsn (by decide) wr hpp
              rw [hno] at hgt
              simp only [Option.getD_none, Option.isSome_none, bkV, bkC, bk0, nsn] at hgt
              have HGT := Lib.hid hgt
              have HPP := Lib.hid hpp
              obtain ⟨n9, hn9⟩ : ∃ n9, n9 = n0 + t2 := ⟨_, rfl⟩
              clear hgt hpp hno hD
              go_wp2_with fail
              refine HGT.out.mono ?_
              rintro e w6 ⟨rfl, hb6⟩
              have hb7 := hb6.trans ((below_alloc w6 (.cells #[.string ⟨#[]⟩, .int .i64 0, .int .i64 0, .int .i64 0, .int .i64 0] 33)).mono hb6.size)
              have HPP7 := Lib.hid (HPP.out.below hb7)
              have HD7 := Lib.hid (HDX.out.below hb7)
              clear hb6 hb7 HGT HPP HDX
              have his := is10 W W.heap.size pb n0 l _ ra rc _ HPP7.out HD7.out.rl.bks
              have HIS := Lib.hid his
              clear his
              go_wp2_with fail
              refine HIS.out.mono ?_
              rintro e w8 ⟨rfl, hb8⟩
              have HD8 := Lib.hid (HD7.out.below hb8)
              clear hb8 HIS HD7 HPP7
              have his := is10 W W.heap.size pc _ m _ ma mc _ HD8.out.pool HD8.out.rm.bks
              have HIS := Lib.hid his
              clear his
              go_wp2_with fail
              refine HIS.out.mono ?_
              rintro e w9 ⟨rfl, hb9⟩
              have HD9 := Lib.hid (HD8.out.below hb9)
              clear hb9 HIS HD8
              go_wp2_with fail
              go_ret
              exact ⟨rfl, HD9.out.pool.bel⟩

end Go.Proofs.Ytoikgphbicnhaab
