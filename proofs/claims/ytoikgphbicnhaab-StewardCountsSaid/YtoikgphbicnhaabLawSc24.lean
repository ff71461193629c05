/- The law StewardCounts (written by genlawsc.py). -/
import Derived.Test.YtoikgphbicnhaabPlN
import Derived.Test.YtoikgphbicnhaabMx
namespace Go.Proofs.Ytoikgphbicnhaab
open Go.RowKit Go.Maps Go.Shelf Go.Sort

/-- The pool and the names of the open requests. -/
structure ScS (W : World) (pb n : Nat) (l : List Bk) (m : Nat) (xs : List ByteArray) (v : Value) (w : World) : Prop where
  pool : PoolB W W.heap.size pb n l (fun k => v.ownBlock = some k) w
  own : w.ownsRow W.heap.size 9 1 v m (xs.map Value.string)
theorem ScS.below {W w w' : World} {pb n m : Nat} {l : List Bk} {xs : List ByteArray} {v : Value} (h : ScS W pb n l m xs v w) (hb : Below w.heap.size w w') : ScS W pb n l m xs v w' := by
  refine ⟨h.pool.below hb, ?_⟩
  obtain ⟨hl, h0 | ⟨g, cap, cur, rfl, hbs, hc, r⟩⟩ := h.own
  · exact ⟨hl, .inl h0⟩
  · exact ⟨hl, .inr ⟨g, cap, cur, rfl, hbs, (hb.block g (Array.getElem?_eq_some_iff.1 hc).1).trans hc, r⟩⟩
theorem ScS.blk {W w : World} {pb n m : Nat} {l : List Bk} {xs : List ByteArray} {v : Value} (h : ScS W pb n l m xs v w) : ∀ k, v.ownBlock = some k → k < w.heap.size := fun k hk => (h.own.lt k hk).2
theorem ScS.call {W w w' : World} {pb n m : Nat} {l l' : List Bk} {xs : List ByteArray} {v : Value} (h : ScS W pb n l m xs v w) (hp : PoolB W W.heap.size pb (n + 1) l' (fun k => v.ownBlock = some k) w') (hk : Keep (fun k => ¬ v.ownBlock = some k) w w') : ScS W pb (n + 1) l' m xs v w' := by
  refine ⟨hp, ?_⟩
  obtain ⟨hl, h0 | ⟨g, cap, cur, rfl, hbs, hc, r⟩⟩ := h.own
  · exact ⟨hl, .inl h0⟩
  · exact ⟨hl, .inr ⟨g, cap, cur, rfl, hbs, (hk.block g (Array.getElem?_eq_some_iff.1 hc).1 (fun e => e rfl)).trans hc, r⟩⟩
theorem own_strs {w : World} {base m vc j : Nat} {e : TypeId} {va : Option Addr} {xs : List ByteArray} (hm : xs.length = m) (ho : w.ownsRow base e 1 (.slice va m vc) m (xs.map Value.string)) (hj : j < xs.length) : ∃ g, va = some ⟨g, 0, none⟩ ∧ w.cell? ⟨g, j, none⟩ = some (.string xs[j]) := by
  have h0 := ho
  obtain ⟨_, ⟨hv, h0⟩ | ⟨g, cap, cur, hv, _⟩⟩ := ho
  · omega
  · injection hv with h1 h2 h3
    subst h1
    refine ⟨g, rfl, ?_⟩
    rw [h0.cellAt j (by omega)]
    simp [hj]
theorem nZ_size : (⟨#[122]⟩ : ByteArray).size ≤ 40 := by decide
set_option maxHeartbeats 16000000 in
set_option maxRecDepth 100000 in
theorem lawStewardCounts (a : Option Addr) (c : Nat) (ats : List PAct) (hal : ats.length ≤ 9223372036854775807) (W : World) (hA : IsPacts W a c ats) :
    Calls Try.prog 6 #[.slice a ats.length c] W fun e w' => e = .returned (.bool true) ∧ Below W.heap.size W w' := by
  have HA := Lib.hid hA
  clear hA
  obtain ⟨i0, hi, hz0, hz1, hz2⟩ := info_partsP infoStrP
  go_enter Try.func6, Try.ntmps6
  go_wp2_with fail
  refine (pnew8 _).mono ?_
  rintro e w2 ⟨rfl, hp, hb2⟩
  obtain ⟨pb, hpb⟩ : ∃ pb, pb = W.heap.size := ⟨_, rfl⟩
  rw [← hpb] at hp ⊢
  have HP2 : Hid (PoolB W W.heap.size pb 0 [] (fun _ => False) w2) := ⟨_, hp, fun k hk => ⟨by subst hk; omega, fun e => e⟩, hb2, Nat.le_refl _⟩
  clear hp hb2 hpb
  go_wp2_with fail
  have hc := addB W W.heap.size pb 0 (by decide) [] _ ⟨#[122]⟩ nZ_size w2 HP2.out (no_O w2) 1 1
  rw [show addE (nameB (⟨#[122]⟩ : ByteArray).data.toList) [] ⟨#[122]⟩ 1 1 = 0 by kernel_rfl] at hc
  refine hc.mono ?_
  clear hc
  rintro e w3 ⟨rfl, hp, _⟩
  have HS : Hid (ScS W pb 1 (addL (nameB (⟨#[122]⟩ : ByteArray).data.toList) [] ⟨#[122]⟩ 1 1) 0 [] (.slice none 0 0) w3) := ⟨hp.other (fun k hk => by cases hk), World.ownsRow_nil _ _ _ _⟩
  have HC : Hid (CntR (addL (nameB (⟨#[122]⟩ : ByteArray).data.toList) [] ⟨#[122]⟩ 1 1) []) := CntR.add ⟨fun s => rfl, rfl⟩ _ _ _ _
  clear hp HP2
  go_wp2_with fail
  generalize addL (nameB (⟨#[122]⟩ : ByteArray).data.toList) [] ⟨#[122]⟩ 1 1 = l0 at *
  go_loopw [4, 5] (fun q i wr => ∃ (t : Nat) (l : List Bk) (m : Nat) (xs : List ByteArray), t ≤ 60 ∧ t ≤ ats.length ∧ i = .int .i64 (t : Int) ∧ m ≤ t ∧ xs.length = m ∧ Hid (ScS W pb (t + 1) l m xs q wr) ∧ Hid (CntR l xs)) (fun _ i _ => ats.length - (intOf i).toNat)
  case atStart => exact ⟨0, l0, 0, [], by omega, Nat.zero_le _, rfl, Nat.le_refl _, rfl, HS, HC⟩
  case round =>
    obtain ⟨t, l, m, xs, ht, hta, rfl, hmt, hxm, hS, hC⟩ := hrel
    have HXM := Lib.hid hxm
    clear hxm
    obtain ⟨va, vc, hva⟩ := own_slice hS.out.own
    subst hva
    by_cases hlt : t < ats.length
    · have j1 : (t : Int) < ats.length := by omega
      by_cases hl3 : t < 60
      · have j2 : (t : Int) < 60 := by omega
        obtain h0 | ⟨bk, oo, rfl, hbk, hcc, hcell⟩ := HA.out.below hS.out.pool.bel
        · subst h0; simp at hlt
        obtain ⟨x0, x1, x2, x3⟩ := hcell t ats[t] (by simp [hlt])
        obtain ⟨E, hE⟩ : ∃ E, E = ats[t] := ⟨_, rfl⟩
        rw [← hE] at x0 x1 x2 x3
        clear hcell hE
        obtain ⟨k, u, v, N⟩ := E
        simp only at x0 x1 x2 x3
        have hn2 : t + 1 + 1 < maxLen := by unfold maxLen; omega
        have HN2 := Lib.hid hn2
        have HRA := Lib.hid (Row.new wr 30 #[.int .i64 k, .int .i64 u, .int .i64 v, .string N])
        have HS3 := Lib.hid (hS.out.below (below_alloc wr (.cells #[.int .i64 k, .int .i64 u, .int .i64 v, .string N] 30)))
        obtain ⟨ab, hab⟩ : ∃ ab, ab = wr.heap.size := ⟨_, rfl⟩
        obtain ⟨w5, hw5⟩ : ∃ w5, w5 = wr.alloc (.cells #[.int .i64 k, .int .i64 u, .int .i64 v, .string N] 30) := ⟨_, rfl⟩
        rw [← hab, ← hw5] at HRA
        rw [← hw5] at HS3
        clear hS hn2
        go_wp2_with fail
        refine (cut11 N 40 _).mono ?_
        rintro e w4 ⟨rfl, hw4⟩
        subst w4
        rw [← hw5, ← hab]
        clear hw5 hab x0 x1 x2 x3 hbk hcc
        have hs40 := cutS_size N 40
        generalize cutS N 40 = s at *
        have y0 : w5.cell? ⟨ab, 0, none⟩ = some (.int .i64 k) := HRA.out.cell 0
        by_cases hk : k = 0
        · as_aux_lemma =>
            have k0 : (k == 0) = true := by subst hk; rfl
            have y1 : w5.cell? ⟨ab, 1, none⟩ = some (.int .i64 u) := HRA.out.cell 1
            have y2 : w5.cell? ⟨ab, 2, none⟩ = some (.int .i64 v) := HRA.out.cell 2
            clear hk
            go_wp2_with fail
            refine (addB W W.heap.size pb (t + 1) HN2.out l _ s hs40 w5 HS3.out.pool HS3.out.blk u v).mono ?_
            rintro e w6 ⟨rfl, hp6, hk6⟩
            have HS6 := Lib.hid (HS3.out.call hp6 hk6)
            clear hp6 hk6
            have HC6 : Hid (CntR (addL (nameB s.data.toList) l s u v) xs) := hC.out.add _ _ _ _
            go_wp2_with fail
            go_roundw
            case rel => exact ⟨t + 1, _, m, xs, by omega, hlt, by go_num, by omega, HXM.out, HS6, HC6⟩
            case measure => simp [intOf]; omega
        by_cases hk : k = 2
        · as_aux_lemma =>
            have k0 : (k == 0) = false := by subst hk; rfl
            have k2 : (k == 2) = true := by subst hk; rfl
            clear hk
            go_wp2_with fail
            refine (drainB W W.heap.size pb (t + 1) HN2.out l _ s hs40 w5 HS3.out.pool HS3.out.blk).mono ?_
            rintro e w6 ⟨rfl, hp6, hk6⟩
            have HS6 := Lib.hid (HS3.out.call hp6 hk6)
            clear hp6 hk6
            have HC6 : Hid (CntR (chL l s (tn1 1)) xs) := hC.out.tn HS3.out.pool.good.1 s 1
            go_wp2_with fail
            go_roundw
            case rel => exact ⟨t + 1, _, m, xs, by omega, hlt, by go_num, by omega, HXM.out, HS6, HC6⟩
            case measure => simp [intOf]; omega
        by_cases hk : k = 3
        · as_aux_lemma =>
            have k0 : (k == 0) = false := by subst hk; rfl
            have k2 : (k == 2) = false := by subst hk; rfl
            have k3 : (k == 3) = true := by subst hk; rfl
            clear hk
            go_wp2_with fail
            refine (undrainB W W.heap.size pb (t + 1) HN2.out l _ s hs40 w5 HS3.out.pool HS3.out.blk).mono ?_
            rintro e w6 ⟨rfl, hp6, hk6⟩
            have HS6 := Lib.hid (HS3.out.call hp6 hk6)
            clear hp6 hk6
            have HC6 : Hid (CntR (chL l s (tn1 0)) xs) := hC.out.tn HS3.out.pool.good.1 s 0
            go_wp2_with fail
            go_roundw
            case rel => exact ⟨t + 1, _, m, xs, by omega, hlt, by go_num, by omega, HXM.out, HS6, HC6⟩
            case measure => simp [intOf]; omega
        by_cases hk : k = 4
        · as_aux_lemma =>
            have k0 : (k == 0) = false := by subst hk; rfl
            have k2 : (k == 2) = false := by subst hk; rfl
            have k3 : (k == 3) = false := by subst hk; rfl
            have k4 : (k == 4) = true := by subst hk; rfl
            clear hk
            go_wp2_with fail
            refine (removeB W W.heap.size pb (t + 1) HN2.out l _ s hs40 w5 HS3.out.pool HS3.out.blk).mono ?_
            rintro e w6 ⟨rfl, hp6, hk6⟩
            have HS6 := Lib.hid (HS3.out.call hp6 hk6)
            clear hp6 hk6
            have HC6 : Hid (CntR (chL l s (tn1 2)) xs) := hC.out.tn HS3.out.pool.good.1 s 2
            go_wp2_with fail
            go_roundw
            case rel => exact ⟨t + 1, _, m, xs, by omega, hlt, by go_num, by omega, HXM.out, HS6, HC6⟩
            case measure => simp [intOf]; omega
        as_aux_lemma =>
          have k0 : (k == 0) = false := by simp; omega
          have k2 : (k == 2) = false := by simp; omega
          have k3 : (k == 3) = false := by simp; omega
          have k4 : (k == 4) = false := by simp; omega
          clear hk
          go_wp2_with fail
          refine (takeB W W.heap.size pb (t + 1) HN2.out l _ s hs40 w5 HS3.out.pool HS3.out.blk).mono ?_
          rintro e w6 ⟨rfl, hp6, hk6⟩
          have HS6 := Lib.hid (HS3.out.call hp6 hk6)
          clear hp6 hk6
          have HG := Lib.hid HS3.out.pool.good.1
          by_cases hE : chE l s tk1E = 0
          · have HE := Lib.hid hE
            rw [hE]
            clear hE
            have HSC : Hid (∀ j q, [Value.string s][j]? = some q → (w6.alloc (.cells #[.string s] 9)).cell? ((⟨w6.heap.size, 0, none⟩ : Addr).add j) = some q) := fun j q h => by
              obtain ⟨rfl, rfl⟩ : j = 0 ∧ q = .string s := by
                cases j with
                | zero => simp at h; exact ⟨rfl, h.symm⟩
                | succ j => simp at h
              show World.cell? _ ⟨w6.heap.size, 0, none⟩ = _
              rw [(Row.new w6 9 #[.string s]).cell]; rfl
            have HON : Hid (∀ q ∈ [Value.string s], q.oneCell' = true) := by intro q hq; simp at hq; subst hq; rfl
            have HSA := Lib.hid (HS6.out.below (below_alloc w6 (.cells #[.string s] 9)))
            have HLE : Hid (W.heap.size ≤ (w6.alloc (.cells #[.string s] 9)).heap.size) := HSA.out.pool.le
            have hm60 : m ≤ 60 := by omega
            go_wp2_with (at_builtin; refine wpList_append_lies _ rfl _ _ 49 rfl W.heap.size 9 i0 (.string ⟨#[]⟩) 1 16 Try.underlying49 hi hz0 hz1 hz2 rfl (by decide) _ _ _ rfl HSA.out.own ⟨w6.heap.size, 0, none⟩ 1 1 [.string s] rfl rfl HSC.out HON.out (by decide) (by unfold maxLen; omega) (by omega) HLE.out _ rfl ?_; intro g9 k9 w10 hown' hgrow hv9 hlt9; have HO9 := Lib.hid hown'; have HG9 : Hid ((w6.alloc (.cells #[.string s] 9)).grownBy w10 (Value.ownBlock (.slice va m vc))) := hgrow; have HV9 : Hid (Value.ownBlock (.slice va m vc) = some g9 ∨ g9 = (w6.alloc (.cells #[.string s] 9)).heap.size) := hv9; clear hown' hgrow hv9 hlt9)
            have HC6 : Hid (CntR (chL l s tk1) (xs ++ [s])) := hC.out.tk HG.out HE.out
            have HS9 : Hid (ScS W pb (t + 1 + 1) (chL l s tk1) (m + 1) (xs ++ [s]) (.slice (some ⟨g9, 0, none⟩) (m + 1) k9) w10) := by
              refine ⟨?_, ?_⟩
              · have h1 := HSA.out.pool.other (O' := fun k => Value.ownBlock (.slice va m vc) = some k ∨ g9 = k ∧ (w6.alloc (.cells #[.string s] 9)).heap.size ≤ k) (fun k hk => hk.imp id (fun e => e.2))
                have h2 := h1.keep (G := fun k => Value.ownBlock (.slice va m vc) = some k) (Keep.grown HG9.out (fun k hk => hk)) (fun k hk => .inl hk) (fun k hk e => by have := (HSA.out.own.lt k e).1; omega)
                refine h2.other (fun k hk => .inl ?_)
                have hk2 : g9 = k := Option.some.inj hk
                rcases HV9.out with e | e
                · exact .inl (by rw [← hk2]; exact e)
                · exact .inr ⟨hk2, by omega⟩
              · have h3 := HO9.out
                rw [show xs.map Value.string ++ [.string s] = (xs ++ [s]).map Value.string by simp] at h3
                exact h3
            go_roundw
            case rel => exact ⟨t + 1, _, m + 1, xs ++ [s], by omega, hlt, by go_num, by omega, by simp [HXM.out], HS9, HC6⟩
            case measure => simp [intOf]; omega
          · have HE := Lib.hid hE
            have tE : (chE l s tk1E == 0) = false := by simp [hE]
            clear hE
            have HC6 : Hid (CntR (chL l s tk1) xs) := hC.out.tk_no HG.out HE.out
            go_wp2_with fail
            go_roundw
            case rel => exact ⟨t + 1, _, m, xs, by omega, hlt, by go_num, by omega, HXM.out, HS6, HC6⟩
            case measure => simp [intOf]; omega
      · as_aux_lemma =>
          obtain ⟨n0, hn0⟩ : ∃ n0, n0 = t + 1 := ⟨_, rfl⟩
          rw [← hn0] at hS
          have hn60 : n0 ≤ 61 := by omega
          have hbu := busyB W W.heap.size pb n0 l _ wr hS.out.pool
          rw [hC.out.2, HXM.out] at hbu
          have hxs : xs.length ≤ 60 := by rw [HXM.out]; omega
          clear hn0
          obtain rfl : t = 60 := by omega
          go_wp2_with fail
          refine hbu.mono ?_
          clear hbu
          rintro e w6 ⟨rfl, hb6⟩
          have HS6 := Lib.hid (hS.out.below hb6)
          clear hb6 hS
          have HC6 := hC
          have hcs : Hid (∀ j (hj : j < xs.length) (w' : World), w'.ownsRow W.heap.size 9 1 (.slice va m vc) m (xs.map Value.string) → ∃ g, va = some ⟨g, 0, none⟩ ∧ w'.cell? ⟨g, j, none⟩ = some (.string xs[j])) := fun j hj w' ho => own_strs HXM.out ho hj
          clear hC
          go_wp2_with fail
          go_loopw [80] (fun i wr => ∃ (j : Nat) (l : List Bk), j ≤ xs.length ∧ i = .int .i64 (j : Int) ∧ Hid (ScS W pb (n0 + j) l m xs (.slice va m vc) wr) ∧ Hid (CntR l (xs.drop j))) (fun i _ => xs.length - (intOf i).toNat)
          case atStart => exact ⟨0, l, Nat.zero_le _, rfl, HS6, by simpa using HC6⟩
          case round =>
            obtain ⟨j, l2, hj, rfl, hS2, hC2⟩ := hrel
            by_cases hjl : j < xs.length
            · have j1 : (j : Int) < xs.length := by omega
              have hmx := HXM.out
              obtain ⟨g, hva, x0⟩ := hcs.out j hjl wr hS2.out.own
              subst hva
              obtain ⟨N, hN⟩ : ∃ N, N = xs[j] := ⟨_, rfl⟩
              have hg := hC2.out.gv hS2.out.pool.good.1 hjl
              rw [← hN] at x0 hg
              have hns : N.size ≤ 40 := cnt_size hS2.out.pool.good.1 hC2.out hjl hN
              have hc := giveB W W.heap.size pb (n0 + j) (by unfold maxLen; omega) l2 _ N hns wr hS2.out.pool hS2.out.blk
              rw [hg.1] at hc
              have HC3 := Lib.hid hg.2
              have HS2 := hS2
              have hjm : (j : Int) < m := by omega
              clear hg hN
              go_wp2_with fail
              refine hc.mono ?_
              clear hc
              rintro e w6 ⟨rfl, hp6, hk6⟩
              have HS7 := Lib.hid (HS2.out.call hp6 hk6)
              clear hp6 hk6 HS2 hS2
              go_wp2_with fail
              go_roundw
              case rel => exact ⟨j + 1, _, hjl, by go_num, HS7, HC3⟩
              case measure => simp [intOf]; omega
            · obtain rfl : j = xs.length := by omega
              have hmx := HXM.out
              have hj9 : ¬ ((xs.length : Int) < m) := by omega
              have hcz := hC2.out
              rw [List.drop_length] at hcz
              have HZ := Lib.hid (hcz.none_left hS2.out.pool.good.1)
              have hsum := hcz.2
              have HSUM := Lib.hid hsum
              have hll := hS2.out.pool.good.2
              have HPL := Lib.hid hS2.out.pool
              have hc := listB W W.heap.size pb _ l2 _ wr hS2.out.pool
              generalize hnn : n0 + xs.length = n9 at *
              clear hcz hsum hS2 hC2 hnn hcs
              go_wp2_with fail
              refine hc.mono ?_
              clear hc
              rintro e w6 ⟨lv, rfl, ho6, hb6⟩
              obtain ⟨la, lc, hlv⟩ := own_slice ho6
              subst hlv
              have HPL6 := Lib.hid (HPL.out.below hb6)
              have hib := (isBks_own ho6).2.1
              have HIB := Lib.hid hib
              clear ho6 hb6 hib HPL
              go_wp2_with fail
              go_loopw [96] (fun i wr => ∃ j : Nat, j ≤ l2.length ∧ i = .int .i64 (j : Int) ∧ Hid (Below w6.heap.size w6 wr)) (fun i _ => l2.length - (intOf i).toNat)
              case atStart => exact ⟨0, Nat.zero_le _, rfl, Below.refl _ _⟩
              case round =>
                obtain ⟨j, hj, rfl, hbj⟩ := hrel
                by_cases hjl : j < l2.length
                · have j1 : (j : Int) < l2.length := by omega
                  obtain h0 | ⟨bk, oo, rfl, hbk, hcc, hcell⟩ := HIB.out.below hbj.out
                  · subst h0; simp at hjl
                  obtain ⟨x0, x1, x2, x3, x4⟩ := hcell j l2[j] (by simp [hjl])
                  have hmem := List.getElem_mem hjl
                  have hz := HZ.out _ hmem
                  have hfd := fndB_of_mem HPL6.out.good.1.ap hmem
                  have hnz := HPL6.out.good.1.sz _ hmem
                  obtain ⟨E, hE⟩ : ∃ E, E = l2[j] := ⟨_, rfl⟩
                  rw [← hE] at x0 x1 x2 x3 x4 hz hfd hnz
                  obtain ⟨n1, w1, c1, s1, z1⟩ := E
                  simp only at x0 x1 x2 x3 x4 hz hfd hnz
                  obtain ⟨rfl, hs2⟩ := hz
                  have hq2 : (s1 == 2) = false := by simp [hs2]
                  obtain ⟨q, hq1⟩ : ∃ q, q = (s1 == 1) := ⟨_, rfl⟩
                  have hqd : drB ((fndB l2 n1).getD bk0) = q := by rw [hfd, hq1]; simp [drB]
                  have HQ1 := Lib.hid hq1.symm
                  have HQ2 := Lib.hid hq2
                  have HQQ : Hid ((q != q) = false) := by cases q <;> rfl
                  have HPO := Lib.hid (HPL6.out.below hbj.out |>.below (below_alloc wr (.cells #[.string n1, .int .i64 w1, .int .i64 c1, .int .i64 s1, .int .i64 0] 33)))
                  have HRB := Lib.hid (Row.new wr 33 #[.string n1, .int .i64 w1, .int .i64 c1, .int .i64 s1, .int .i64 0])
                  have HBJ := Lib.hid (hbj.out.alloc hbj.out.size (.cells #[.string n1, .int .i64 w1, .int .i64 c1, .int .i64 s1, .int .i64 0] 33))
                  obtain ⟨bb, hbb⟩ : ∃ bb, bb = wr.heap.size := ⟨_, rfl⟩
                  obtain ⟨wb, hwb⟩ : ∃ wb, wb = wr.alloc (.cells #[.string n1, .int .i64 w1, .int .i64 c1, .int .i64 s1, .int .i64 0] 33) := ⟨_, rfl⟩
                  rw [← hbb, ← hwb] at HRB
                  rw [← hwb] at HPO HBJ
                  have HDR : Hid (∀ w9, PoolB W W.heap.size pb n9 l2 (fun k => (Value.slice va m vc).ownBlock = some k) w9 → Calls Try.prog 23 #[.pointer (some ⟨pb, 0, none⟩), .string n1] w9 fun e w' => e = .returned (.bool q) ∧ Below w9.heap.size w9 w') := fun w9 h => by
                    have := drainedB W W.heap.size pb n9 l2 _ n1 hnz w9 h
                    rw [hqd] at this
                    exact this
                  clear hcell hE hmem hfd hqd hq1 hq2 hs2 hbj
                  go_wp2_with fail
                  rw [← hwb, ← hbb]
                  clear hwb hbb x0 x1 x2 x3 x4
                  refine region_mixt 18 [some (.pointer (some ⟨bb, 4, none⟩)), some (.int .i64 0), some (.bool false), some (.bool false), some (.pointer (some ⟨bb, 3, none⟩)), some (.int .i64 s1), some (.bool false), some (.bool false), some (.bool false), some (.pointer (some ⟨bb, 3, none⟩)), some (.int .i64 s1), some (.bool q), some (.pointer (some ⟨pb, 0, none⟩)), some (.pointer (some ⟨bb, 0, none⟩)), some (.string n1), some (.bool q), some (.bool false), some (.bool false)]
                    [[false, false, false, false, false, false, false, false, false, false, false, false, false, false, false, false, false, false], [true, false, false, false, false, false, false, false, false, false, false, false, false, false, false, false, false, false], [false, true, false, false, false, false, false, false, false, false, false, false, false, false, false, false, false, false], [false, false, true, false, false, false, false, false, false, false, false, false, false, false, false, false, false, false], [false, false, false, true, false, false, false, false, false, false, false, false, false, false, false, false, false, false], [false, false, false, true, true, false, false, false, false, false, false, false, false, false, false, false, false, false], [false, false, false, true, false, true, false, false, false, false, false, false, false, false, false, false, false, false], [false, false, false, true, false, false, true, false, false, false, false, false, false, false, false, false, false, false], [false, false, false, true, false, false, false, true, false, false, false, false, false, false, false, false, false, false], [false, false, false, false, false, false, false, false, true, false, false, false, false, false, false, false, false, false], [false, false, false, false, false, false, false, false, true, true, false, false, false, false, false, false, false, false], [false, false, false, false, false, false, false, false, true, false, true, false, false, false, false, false, false, false], [false, false, false, false, false, false, false, false, true, false, false, false, false, false, false, false, false, false], [false, false, false, false, false, false, false, false, true, false, false, false, false, false, false, false, false, false], [false, false, false, false, false, false, false, false, true, false, false, false, false, true, false, false, false, false], [false, false, false, false, false, false, false, false, true, false, false, false, true, false, true, false, false, false], [false, false, false, false, false, false, false, false, true, false, false, true, false, false, false, true, false, false], [false, false, false, false, false, false, false, false, true, false, false, false, false, false, false, false, true, false]]
                    (fun LL xx w9 => MxS wb [] [] LL xx w9)
                    (by kernel_rfl) (by kernel_rfl) (by kernel_rfl) (by kernel_rfl) (by kernel_rfl) (by decide) ?_ ?_ ?_
                  · intro x
                    exact MxS.start (by simp)
                  · simp only [List.take_succ_cons, List.take_zero]
                    refine ⟨?_, ?_, ?_, ?_, ?_, ?_, ?_, ?_, ?_, ?_, ?_, ?_, ?_, ?_, ?_, ?_, ?_, ?_, trivial⟩
                    all_goals
                      intro L x w9 hS hl hp K9 hK9
                      have hs : MxS wb [] [] L x w9 := hS
                      clear hS
                      replace hK9 := hK9.out
                      simp only [actMix, pickV, List.tail_cons, List.headD_cons, Act.put, List.setIfInBounds_toArray, List.set_cons_zero, List.set_cons_succ] at hK9 ⊢
                    · clear hp
                      go_simp
                      with_reducible refine hK9 _ ?_
                      exact hs.next 0 _ (by simp [MxI])
                    · clear hp
                      have c9 : w9.cell? ⟨bb, 4, none⟩ = some (.int .i64 0) := (hs.row HRB.out (by simp)).cell 4
                      go_simp
                      with_reducible refine hK9 _ ?_
                      exact hs.next 1 _ (by simp [MxI])
                    · clear hp
                      go_simp
                      with_reducible refine hK9 _ ?_
                      exact hs.next 2 _ (by simp [MxI])
                    · clear hp
                      go_simp
                      with_reducible refine hK9 _ ?_
                      exact hs.next 3 _ (by simp [MxI])
                    · clear hp
                      go_simp
                      with_reducible refine hK9 _ ?_
                      exact hs.next 4 _ (by simp [MxI])
                    · clear hp
                      have c9 : w9.cell? ⟨bb, 3, none⟩ = some (.int .i64 s1) := (hs.row HRB.out (by simp)).cell 3
                      go_simp
                      with_reducible refine hK9 _ ?_
                      exact hs.next 5 _ (by simp [MxI])
                    · clear hp
                      have hq2 := HQ2.out
                      go_simp
                      with_reducible refine hK9 _ ?_
                      exact hs.next 6 _ (by simp [MxI])
                    · clear hp
                      go_simp
                      with_reducible refine hK9 _ ?_
                      exact hs.next 7 _ (by simp [MxI])
                    · clear hp
                      go_simp
                      with_reducible refine hK9 _ ?_
                      exact hs.next 8 _ (by simp [MxI])
                    · clear hp
                      go_simp
                      with_reducible refine hK9 _ ?_
                      exact hs.next 9 _ (by simp [MxI])
                    · clear hp
                      have c9 : w9.cell? ⟨bb, 3, none⟩ = some (.int .i64 s1) := (hs.row HRB.out (by simp)).cell 3
                      go_simp
                      with_reducible refine hK9 _ ?_
                      exact hs.next 10 _ (by simp [MxI])
                    · clear hp
                      have hq1 := HQ1.out
                      go_simp
                      with_reducible refine hK9 _ ?_
                      exact hs.next 11 _ (by simp [MxI])
                    · clear hp
                      go_simp
                      with_reducible refine hK9 _ ?_
                      exact hs.next 12 _ (by simp [MxI])
                    · clear hp
                      go_simp
                      with_reducible refine hK9 _ ?_
                      exact hs.next 13 _ (by simp [MxI])
                    · clear hp
                      have c9 : w9.cell? ⟨bb, 0, none⟩ = some (.string n1) := (hs.row HRB.out (by simp)).cell 0
                      go_simp
                      with_reducible refine hK9 _ ?_
                      exact hs.next 14 _ (by simp [MxI])
                    · clear hp
                      go_simp
                      refine (HDR.out w9 (HPO.out.below hs.bel0)).mono ?_
                      rintro e w8 ⟨rfl, hB8⟩
                      go_simp
                      with_reducible refine hK9 _ ?_
                      exact (hs.below hB8).next 15 _ (by simp [MxI])
                    · clear hp
                      have hqq := HQQ.out
                      go_simp
                      with_reducible refine hK9 _ ?_
                      exact hs.next 16 _ (by simp [MxI])
                    · clear hp
                      go_simp
                      with_reducible refine hK9 _ ?_
                      exact hs.next 17 _ (by simp [MxI])
                  intro L x w9 hS hL
                  have hs : MxS wb [] [] L x w9 := hS
                  clear hS
                  simp only [actMix, pickV, List.tail_cons, List.headD_cons, Act.put, List.setIfInBounds_toArray, List.set_cons_zero, List.set_cons_succ, List.replicate_succ, List.replicate_zero, List.drop_succ_cons, List.drop_zero, List.take_succ_cons, List.take_zero]
                  have HB9 := Lib.hid (HBJ.out.trans (hs.bel0.mono HBJ.out.size))
                  clear hs hL
                  go_wp2_with fail
                  go_roundw
                  case rel => exact ⟨j + 1, hjl, by go_num, HB9⟩
                  case measure => simp [intOf]; omega
                · obtain rfl : j = l2.length := by omega
                  have hj8 : ¬ ((l2.length : Int) < l2.length) := by omega
                  have hbu := busyB W W.heap.size pb n9 l2 _ wr (HPL6.out.below hbj.out)
                  rw [HSUM.out] at hbu
                  have HPE := Lib.hid (HPL6.out.below hbj.out)
                  go_wp2_with fail
                  refine hbu.mono ?_
                  clear hbu
                  rintro e w8 ⟨rfl, hb8⟩
                  have HEND := Lib.hid (HPE.out.below hb8).bel
                  clear hb8
                  go_wp2_with fail
                  go_ret
                  exact ⟨rfl, HEND.out⟩
    · as_aux_lemma =>
        obtain ⟨n0, hn0⟩ : ∃ n0, n0 = t + 1 := ⟨_, rfl⟩
        rw [← hn0] at hS
        have hn60 : n0 ≤ 61 := by omega
        have hbu := busyB W W.heap.size pb n0 l _ wr hS.out.pool
        rw [hC.out.2, HXM.out] at hbu
        have hxs : xs.length ≤ 60 := by rw [HXM.out]; omega
        clear hn0
        have hj0 : ¬ ((t : Int) < ats.length) := by omega
        go_wp2_with fail
        refine hbu.mono ?_
        clear hbu
        rintro e w6 ⟨rfl, hb6⟩
        have HS6 := Lib.hid (hS.out.below hb6)
        clear hb6 hS
        have HC6 := hC
        have hcs : Hid (∀ j (hj : j < xs.length) (w' : World), w'.ownsRow W.heap.size 9 1 (.slice va m vc) m (xs.map Value.string) → ∃ g, va = some ⟨g, 0, none⟩ ∧ w'.cell? ⟨g, j, none⟩ = some (.string xs[j])) := fun j hj w' ho => own_strs HXM.out ho hj
        clear hC
        go_wp2_with fail
        go_loopw [80] (fun i wr => ∃ (j : Nat) (l : List Bk), j ≤ xs.length ∧ i = .int .i64 (j : Int) ∧ Hid (ScS W pb (n0 + j) l m xs (.slice va m vc) wr) ∧ Hid (CntR l (xs.drop j))) (fun i _ => xs.length - (intOf i).toNat)
        case atStart => exact ⟨0, l, Nat.zero_le _, rfl, HS6, by simpa using HC6⟩
        case round =>
          obtain ⟨j, l2, hj, rfl, hS2, hC2⟩ := hrel
          by_cases hjl : j < xs.length
          · have j1 : (j : Int) < xs.length := by omega
            have hmx := HXM.out
            obtain ⟨g, hva, x0⟩ := hcs.out j hjl wr hS2.out.own
            subst hva
            obtain ⟨N, hN⟩ : ∃ N, N = xs[j] := ⟨_, rfl⟩
            have hg := hC2.out.gv hS2.out.pool.good.1 hjl
            rw [← hN] at x0 hg
            have hns : N.size ≤ 40 := cnt_size hS2.out.pool.good.1 hC2.out hjl hN
            have hc := giveB W W.heap.size pb (n0 + j) (by unfold maxLen; omega) l2 _ N hns wr hS2.out.pool hS2.out.blk
            rw [hg.1] at hc
            have HC3 := Lib.hid hg.2
            have HS2 := hS2
            have hjm : (j : Int) < m := by omega
            clear hg hN
            go_wp2_with fail
            refine hc.mono ?_
            clear hc
            rintro e w6 ⟨rfl, hp6, hk6⟩
            have HS7 := Lib.hid (HS2.out.call hp6 hk6)
            clear hp6 hk6 HS2 hS2
            go_wp2_with fail
            go_roundw
            case rel => exact ⟨j + 1, _, hjl, by go_num, HS7, HC3⟩
            case measure => simp [intOf]; omega
          · obtain rfl : j = xs.length := by omega
            have hmx := HXM.out
            have hj9 : ¬ ((xs.length : Int) < m) := by omega
            have hcz := hC2.out
            rw [List.drop_length] at hcz
            have HZ := Lib.hid (hcz.none_left hS2.out.pool.good.1)
            have hsum := hcz.2
            have HSUM := Lib.hid hsum
            have hll := hS2.out.pool.good.2
            have HPL := Lib.hid hS2.out.pool
            have hc := listB W W.heap.size pb _ l2 _ wr hS2.out.pool
            generalize hnn : n0 + xs.length = n9 at *
            clear hcz hsum hS2 hC2 hnn hcs
            go_wp2_with fail
            refine hc.mono ?_
            clear hc
            rintro e w6 ⟨lv, rfl, ho6, hb6⟩
            obtain ⟨la, lc, hlv⟩ := own_slice ho6
            subst hlv
            have HPL6 := Lib.hid (HPL.out.below hb6)
            have hib := (isBks_own ho6).2.1
            have HIB := Lib.hid hib
            clear ho6 hb6 hib HPL
            go_wp2_with fail
            go_loopw [96] (fun i wr => ∃ j : Nat, j ≤ l2.length ∧ i = .int .i64 (j : Int) ∧ Hid (Below w6.heap.size w6 wr)) (fun i _ => l2.length - (intOf i).toNat)
            case atStart => exact ⟨0, Nat.zero_le _, rfl, Below.refl _ _⟩
            case round =>
              obtain ⟨j, hj, rfl, hbj⟩ := hrel
              by_cases hjl : j < l2.length
              · have j1 : (j : Int) < l2.length := by omega
                obtain h0 | ⟨bk, oo, rfl, hbk, hcc, hcell⟩ := HIB.out.below hbj.out
                · subst h0; simp at hjl
                obtain ⟨x0, x1, x2, x3, x4⟩ := hcell j l2[j] (by simp [hjl])
                have hmem := List.getElem_mem hjl
                have hz := HZ.out _ hmem
                have hfd := fndB_of_mem HPL6.out.good.1.ap hmem
                have hnz := HPL6.out.good.1.sz _ hmem
                obtain ⟨E, hE⟩ : ∃ E, E = l2[j] := ⟨_, rfl⟩
                rw [← hE] at x0 x1 x2 x3 x4 hz hfd hnz
                obtain ⟨n1, w1, c1, s1, z1⟩ := E
                simp only at x0 x1 x2 x3 x4 hz hfd hnz
                obtain ⟨rfl, hs2⟩ := hz
                have hq2 : (s1 == 2) = false := by simp [hs2]
                obtain ⟨q, hq1⟩ : ∃ q, q = (s1 == 1) := ⟨_, rfl⟩
                have hqd : drB ((fndB l2 n1).getD bk0) = q := by rw [hfd, hq1]; simp [drB]
                have HQ1 := Lib.hid hq1.symm
                have HQ2 := Lib.hid hq2
                have HQQ : Hid ((q != q) = false) := by cases q <;> rfl
                have HPO := Lib.hid (HPL6.out.below hbj.out |>.below (below_alloc wr (.cells #[.string n1, .int .i64 w1, .int .i64 c1, .int .i64 s1, .int .i64 0] 33)))
                have HRB := Lib.hid (Row.new wr 33 #[.string n1, .int .i64 w1, .int .i64 c1, .int .i64 s1, .int .i64 0])
                have HBJ := Lib.hid (hbj.out.alloc hbj.out.size (.cells #[.string n1, .int .i64 w1, .int .i64 c1, .int .i64 s1, .int .i64 0] 33))
                obtain ⟨bb, hbb⟩ : ∃ bb, bb = wr.heap.size := ⟨_, rfl⟩
                obtain ⟨wb, hwb⟩ : ∃ wb, wb = wr.alloc (.cells #[.string n1, .int .i64 w1, .int .i64 c1, .int .i64 s1, .int .i64 0] 33) := ⟨_, rfl⟩
                rw [← hbb, ← hwb] at HRB
                rw [← hwb] at HPO HBJ
                have HDR : Hid (∀ w9, PoolB W W.heap.size pb n9 l2 (fun k => (Value.slice va m vc).ownBlock = some k) w9 → Calls Try.prog 23 #[.pointer (some ⟨pb, 0, none⟩), .string n1] w9 fun e w' => e = .returned (.bool q) ∧ Below w9.heap.size w9 w') := fun w9 h => by
                  have := drainedB W W.heap.size pb n9 l2 _ n1 hnz w9 h
                  rw [hqd] at this
                  exact this
                clear hcell hE hmem hfd hqd hq1 hq2 hs2 hbj
                go_wp2_with fail
                rw [← hwb, ← hbb]
                clear hwb hbb x0 x1 x2 x3 x4
                refine region_mixt 18 [some (.pointer (some ⟨bb, 4, none⟩)), some (.int .i64 0), some (.bool false), some (.bool false), some (.pointer (some ⟨bb, 3, none⟩)), some (.int .i64 s1), some (.bool false), some (.bool false), some (.bool false), some (.pointer (some ⟨bb, 3, none⟩)), some (.int .i64 s1), some (.bool q), some (.pointer (some ⟨pb, 0, none⟩)), some (.pointer (some ⟨bb, 0, none⟩)), some (.string n1), some (.bool q), some (.bool false), some (.bool false)]
                  [[false, false, false, false, false, false, false, false, false, false, false, false, false, false, false, false, false, false], [true, false, false, false, false, false, false, false, false, false, false, false, false, false, false, false, false, false], [false, true, false, false, false, false, false, false, false, false, false, false, false, false, false, false, false, false], [false, false, true, false, false, false, false, false, false, false, false, false, false, false, false, false, false, false], [false, false, false, true, false, false, false, false, false, false, false, false, false, false, false, false, false, false], [false, false, false, true, true, false, false, false, false, false, false, false, false, false, false, false, false, false], [false, false, false, true, false, true, false, false, false, false, false, false, false, false, false, false, false, false], [false, false, false, true, false, false, true, false, false, false, false, false, false, false, false, false, false, false], [false, false, false, true, false, false, false, true, false, false, false, false, false, false, false, false, false, false], [false, false, false, false, false, false, false, false, true, false, false, false, false, false, false, false, false, false], [false, false, false, false, false, false, false, false, true, true, false, false, false, false, false, false, false, false], [false, false, false, false, false, false, false, false, true, false, true, false, false, false, false, false, false, false], [false, false, false, false, false, false, false, false, true, false, false, false, false, false, false, false, false, false], [false, false, false, false, false, false, false, false, true, false, false, false, false, false, false, false, false, false], [false, false, false, false, false, false, false, false, true, false, false, false, false, true, false, false, false, false], [false, false, false, false, false, false, false, false, true, false, false, false, true, false, true, false, false, false], [false, false, false, false, false, false, false, false, true, false, false, true, false, false, false, true, false, false], [false, false, false, false, false, false, false, false, true, false, false, false, false, false, false, false, true, false]]
                  (fun LL xx w9 => MxS wb [] [] LL xx w9)
                  (by kernel_rfl) (by kernel_rfl) (by kernel_rfl) (by kernel_rfl) (by kernel_rfl) (by decide) ?_ ?_ ?_
                · intro x
                  exact MxS.start (by simp)
                · simp only [List.take_succ_cons, List.take_zero]
                  refine ⟨?_, ?_, ?_, ?_, ?_, ?_, ?_, ?_, ?_, ?_, ?_, ?_, ?_, ?_, ?_, ?_, ?_, ?_, trivial⟩
                  all_goals
                    intro L x w9 hS hl hp K9 hK9
                    have hs : MxS wb [] [] L x w9 := hS
                    clear hS
                    replace hK9 := hK9.out
                    simp only [actMix, pickV, List.tail_cons, List.headD_cons, Act.put, List.setIfInBounds_toArray, List.set_cons_zero, List.set_cons_succ] at hK9 ⊢
                  · clear hp
                    go_simp
                    with_reducible refine hK9 _ ?_
                    exact hs.next 0 _ (by simp [MxI])
                  · clear hp
                    have c9 : w9.cell? ⟨bb, 4, none⟩ = some (.int .i64 0) := (hs.row HRB.out (by simp)).cell 4
                    go_simp
                    with_reducible refine hK9 _ ?_
                    exact hs.next 1 _ (by simp [MxI])
                  · clear hp
                    go_simp
                    with_reducible refine hK9 _ ?_
                    exact hs.next 2 _ (by simp [MxI])
                  · clear hp
                    go_simp
                    with_reducible refine hK9 _ ?_
                    exact hs.next 3 _ (by simp [MxI])
                  · clear hp
                    go_simp
                    with_reducible refine hK9 _ ?_
                    exact hs.next 4 _ (by simp [MxI])
                  · clear hp
                    have c9 : w9.cell? ⟨bb, 3, none⟩ = some (.int .i64 s1) := (hs.row HRB.out (by simp)).cell 3
                    go_simp
                    with_reducible refine hK9 _ ?_
                    exact hs.next 5 _ (by simp [MxI])
                  · clear hp
                    have hq2 := HQ2.out
                    go_simp
                    with_reducible refine hK9 _ ?_
                    exact hs.next 6 _ (by simp [MxI])
                  · clear hp
                    go_simp
                    with_reducible refine hK9 _ ?_
                    exact hs.next 7 _ (by simp [MxI])
                  · clear hp
                    go_simp
                    with_reducible refine hK9 _ ?_
                    exact hs.next 8 _ (by simp [MxI])
                  · clear hp
                    go_simp
                    with_reducible refine hK9 _ ?_
                    exact hs.next 9 _ (by simp [MxI])
                  · clear hp
                    have c9 : w9.cell? ⟨bb, 3, none⟩ = some (.int .i64 s1) := (hs.row HRB.out (by simp)).cell 3
                    go_simp
                    with_reducible refine hK9 _ ?_
                    exact hs.next 10 _ (by simp [MxI])
                  · clear hp
                    have hq1 := HQ1.out
                    go_simp
                    with_reducible refine hK9 _ ?_
                    exact hs.next 11 _ (by simp [MxI])
                  · clear hp
                    go_simp
                    with_reducible refine hK9 _ ?_
                    exact hs.next 12 _ (by simp [MxI])
                  · clear hp
                    go_simp
                    with_reducible refine hK9 _ ?_
                    exact hs.next 13 _ (by simp [MxI])
                  · clear hp
                    have c9 : w9.cell? ⟨bb, 0, none⟩ = some (.string n1) := (hs.row HRB.out (by simp)).cell 0
                    go_simp
                    with_reducible refine hK9 _ ?_
                    exact hs.next 14 _ (by simp [MxI])
                  · clear hp
                    go_simp
                    refine (HDR.out w9 (HPO.out.below hs.bel0)).mono ?_
                    rintro e w8 ⟨rfl, hB8⟩
                    go_simp
                    with_reducible refine hK9 _ ?_
                    exact (hs.below hB8).next 15 _ (by simp [MxI])
                  · clear hp
                    have hqq := HQQ.out
                    go_simp
                    with_reducible refine hK9 _ ?_
                    exact hs.next 16 _ (by simp [MxI])
                  · clear hp
                    go_simp
                    with_reducible refine hK9 _ ?_
                    exact hs.next 17 _ (by simp [MxI])
                intro L x w9 hS hL
                have hs : MxS wb [] [] L x w9 := hS
                clear hS
                simp only [actMix, pickV, List.tail_cons, List.headD_cons, Act.put, List.setIfInBounds_toArray, List.set_cons_zero, List.set_cons_succ, List.replicate_succ, List.replicate_zero, List.drop_succ_cons, List.drop_zero, List.take_succ_cons, List.take_zero]
                have HB9 := Lib.hid (HBJ.out.trans (hs.bel0.mono HBJ.out.size))
                clear hs hL
                go_wp2_with fail
                go_roundw
                case rel => exact ⟨j + 1, hjl, by go_num, HB9⟩
                case measure => simp [intOf]; omega
              · obtain rfl : j = l2.length := by omega
                have hj8 : ¬ ((l2.length : Int) < l2.length) := by omega
                have hbu := busyB W W.heap.size pb n9 l2 _ wr (HPL6.out.below hbj.out)
                rw [HSUM.out] at hbu
                have HPE := Lib.hid (HPL6.out.below hbj.out)
                go_wp2_with fail
                refine hbu.mono ?_
                clear hbu
                rintro e w8 ⟨rfl, hb8⟩
                have HEND := Lib.hid (HPE.out.below hb8).bel
                clear hb8
                go_wp2_with fail
                go_ret
                exact ⟨rfl, HEND.out⟩

end Go.Proofs.Ytoikgphbicnhaab
