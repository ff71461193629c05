/- stewardlaw18.MaglevOrder. -/
import Derived.Test.YtpjbdejgamajlabDoorMgY
namespace Go.Proofs.YtpjbdejgamajlabDoor
open Go.RowKit

/-- Two tables in memory. -/
structure TwoT (w : World) (t1 t2 : Nat) (ns : List ByteArray) (own : Nat → Int) : Prop where
  h1 : TableAt w t1 ns 503 own
  h2 : TableAt w t2 ns 503 own
theorem TwoT.below {w w' : World} {t1 t2 : Nat} {ns : List ByteArray} {own : Nat → Int} (h : TwoT w t1 t2 ns own) (hb : Below w.heap.size w w') : TwoT w' t1 t2 ns own := ⟨h.h1.below hb, h.h2.below hb⟩
theorem TwoT.of {w : World} {t1 t2 t : Nat} {ns : List ByteArray} {own : Nat → Int} (h : TwoT w t1 t2 ns own) (ht : t = t1 ∨ t = t2) : TableAt w t ns 503 own := by
  rcases ht with rfl | rfl
  · exact h.h1
  · exact h.h2
theorem rev_cells {l : List Ent} {q : Nat} (hq : q < l.length) : cellsE (l.reverse.take (l.length - q)) = cellsE (l.reverse.take (l.length - (q + 1))) ++ [.string l[q].1, .int .i64 l[q].2] := by
  rw [show l.length - q = l.length - (q + 1) + 1 by omega, cellsE_step (by rw [List.length_reverse]; omega)]
  simp only [List.getElem_reverse]
  have : l.length - 1 - (l.length - (q + 1)) = q := by omega
  simp only [this]
set_option maxRecDepth 100000 in
set_option maxHeartbeats 4000000 in
theorem lawMaglevOrder (s : ByteArray) (a : Option Addr) (c : Nat) (es : List Ent) (hfl : es.length ≤ 9223372036854775807) (x : Int) (hx0 : 0 ≤ x) (hx1 : x < 18446744073709551616) (w : World) (hI : Ini w) (hf : IsEnts w a c es) :
    Calls Tryd.prog 4 #[.string s, .slice a es.length c, .int .u64 x] w fun e w' => e = .returned (.bool true) ∧ Below w.heap.size w w' := by
  obtain ⟨x, rfl⟩ : ∃ n : Nat, x = (n : Int) := ⟨x.toNat, by omega⟩
  obtain ⟨i0, hi, hz0, hz1, hz2⟩ := info_parts infoXEnt
  have HX : Hid (x < 18446744073709551616) := by show _ < _; omega
  have HAW := Lib.hid (awake6 w hI)
  have HI := Lib.hid hI
  have HF := Lib.hid hf
  have HL := Lib.hid hfl
  have hkf := fun W => key17 s W
  generalize (fun i => s.data.toList.getD i 0) = kf at hkf
  have HK : Hid (∀ W, Calls Tryd.prog 10 #[.string s] W fun e w' => e = .returned (keyVal kf) ∧ Below W.heap.size W w') := hkf
  clear hI hf hfl hx0 hx1 hkf
  go_enter Tryd.func4, Tryd.ntmps4
  go_wp2_with (first
    | (go_at_call 6; refine HAW.out.mono ?_; rintro e w1 ⟨rfl, hB1⟩; have HB1 := Lib.hid hB1; clear hB1)
    | (go_at_call 7; refine (few7 a c es 5 (by decide) HL.out w1 (HF.out.below HB1.out)).mono ?_; rintro e w2 ⟨u, rfl, ho2, hB2⟩; obtain ⟨au, cu, rfl⟩ := own_slice ho2; have HE2 := Lib.hid (isEnts_own ho2).2.1; have HB2 := Lib.hid (HB1.out.trans (hB2.mono HB1.out.size)); clear ho2 hB2))
  have hkl : (fewE es 5).length ≤ 5 := by unfold fewE; simp; omega
  have HZ : Hid (∀ e ∈ fewE es 5, e.1.size ≤ 1000) := by
    intro e he
    obtain ⟨g, _, rfl⟩ := List.mem_map.1 he
    exact Nat.le_trans (cutE_size g) (by decide)
  generalize fewE es 5 = xs at *
  clear HAW HF HL
  go_loopw [8, 9] (fun v i wr => ∃ p : Nat, p ≤ xs.length ∧ i = .int .i64 ((p : Int) - 1) ∧ Hid (wr.ownsRow w2.heap.size 26 2 v (xs.length - p) (cellsE (xs.reverse.take (xs.length - p)))) ∧ Hid (Below w2.heap.size w2 wr)) (fun _ i _ => (intOf i + 1).toNat)
  case atStart =>
    refine ⟨xs.length, Nat.le_refl _, congrArg (Value.int .i64) (IntWalk.wrap64_in ((xs.length : Int) - 1) (by omega)), ?_, Below.refl _ _⟩
    rw [Nat.sub_self]
    exact World.ownsRow_nil _ _ _ _
  case round =>
    obtain ⟨p, hp, rfl, HO, HB⟩ := hrel
    cases p with
    | succ q =>
      have hq : q < xs.length := by omega
      have hcast : (((q + 1 : Nat) : Int) - 1) = (q : Int) := by omega
      rw [hcast]
      obtain h0 | ⟨bk, o, rfl, hbk, hc, hcell⟩ := HE2.out
      · subst h0; simp at hq
      obtain ⟨d1, d2⟩ := hcell q xs[q] (by simp [hq])
      have c1 : wr.cell? ⟨bk, o + q * 2, none⟩ = some (.string xs[q].1) := by rw [(bcell HB.out).1 _ _ hbk]; exact d1
      have c2 : wr.cell? ⟨bk, o + q * 2 + 1, none⟩ = some (.int .i64 xs[q].2) := by rw [(bcell HB.out).1 _ _ hbk]; exact d2
      have q1 : (q : Int) < xs.length := by omega
      have hst := Lib.hid (rev_cells hq)
      generalize xs[q] = e at *
      obtain ⟨N, V⟩ := e
      simp only at c1 c2 hst
      have HOa := Lib.hid (HO.out.alloc (.cells #[.string N, .int .i64 V] 26))
      have HBa := Lib.hid (HB.out.alloc HB.out.size (.cells #[.string N, .int .i64 V] 26))
      have HNW := Lib.hid (cells_ent wr N V 26)
      clear hcell d1 d2 hcast HO HB
      go_wp2_with (at_builtin; refine wpList_append_own _ rfl _ _ 22 rfl w2.heap.size 26 i0 (.agg #[.string ⟨#[]⟩, .int .i64 0]) 2 24 Tryd.underlying22 hi hz0 hz1 hz2 rfl (by decide) _ _ _ rfl HOa.out ⟨wr.heap.size, 0, none⟩ 1 1 [.string N, .int .i64 V] rfl rfl HNW.out (ent_one _ _) (by unfold maxLen; omega) (by omega) HBa.out.size ?_; intro v' w4 hown' hgrow _)
      have HB5 : Hid (Below w2.heap.size w2 w4) := HBa.out.grown hgrow HBa.out.size (fun k hk => (HOa.out.lt k hk).1)
      have HO5 := Lib.hid hown'
      clear hown' hgrow HBa HOa
      go_roundw
      case rel =>
        refine ⟨q, by omega, rfl, ?_, HB5⟩
        rw [hst.out, show xs.length - q = xs.length - (q + 1) + 1 by omega]
        exact HO5
      case measure => simp [intOf]
    | zero =>
      have hcast : (((0 : Nat) : Int) - 1) = (-1 : Int) := rfl
      rw [hcast]
      have ho := HO.out
      rw [Nat.sub_zero, List.take_of_length_le (by simp)] at ho
      obtain ⟨ar, cr, rfl⟩ := own_slice ho
      have hlr : xs.reverse.length = xs.length := List.length_reverse
      rw [← hlr] at ho
      have HER := Lib.hid (isEnts_own ho).2.1
      have HEX := Lib.hid (HE2.out.below HB.out)
      have HBW := Lib.hid (HB2.out.trans (HB.out.mono HB2.out.size))
      have HIW := Lib.hid (HI.out.below HBW.out)
      have HCR : Hid (chkB xs.reverse 503 = chkB xs 503) := by
        show _ = _
        unfold chkB
        rw [valid_perm (List.reverse_perm xs), List.length_reverse]
      have HOW : Hid (∀ W (l : List Ent) b d, l.length = xs.length → IsEnts W b d l → Calls Tryd.prog 11 #[.slice b xs.length d] W fun e w' => ∃ a' c', e = .returned (.slice a' xs.length c') ∧ IsEnts w' a' c' l ∧ Below W.heap.size W w') := fun W l b d hl h => by
        have := own11 b d l (by omega) W h
        rw [hl] at this
        exact this
      have hck := fun W b d (h : IsEnts W b d xs) => check8 b d xs (by omega) 503 W h
      clear ho HO hcast hp HB HE2
      by_cases hc : chkB xs 503 = true
      case neg =>
        have hc : chkB xs 503 = false := by simpa using hc
        have HCK : Hid (∀ W b d, IsEnts W b d xs → Calls Tryd.prog 8 #[.slice b xs.length d, .int .i64 503] W fun e w' => e = .returned (.int .i64 1) ∧ Below W.heap.size W w') := fun W b d h => by have := hck W b d h; rw [hc] at this; exact this
        have HBN : Hid (∀ W (l : List Ent) b d, l.Perm xs → IsEnts W b d l → Calls Tryd.prog 9 #[keyVal kf, .slice b xs.length d, .int .i64 503] W fun e w' => e = .returned (.tuple #[.pointer none, .int .i64 1]) ∧ Below W.heap.size W w') := fun W l b d hp h => by
          have := build8_bad kf l (by rw [hp.length_eq]; omega) (fun e he => HZ.out e ((hp.mem_iff).1 he)) 503 (by unfold chkB at hc ⊢; rw [hp.length_eq, valid_perm hp]; exact hc) b d W h
          rw [hp.length_eq] at this
          exact this
        clear hck hc
        go_upto_region 10 with (first
          | (go_at_call 10; refine (HK.out _).mono ?_; rintro e w4 ⟨rfl, hB4⟩; have HX4 := Lib.hid (HEX.out.below hB4); have HR4 := Lib.hid (HER.out.below hB4); have HB4 := Lib.hid (HBW.out.trans (hB4.mono HBW.out.size)); clear hB4)
          | (go_at_call 11; refine (HOW.out _ _ _ _ rfl HX4.out).mono ?_; rintro e w5 ⟨a5, c5, rfl, hE5, hB5⟩; have HE5 := Lib.hid hE5; have HX5 := Lib.hid (HX4.out.below hB5); have HR5 := Lib.hid (HR4.out.below hB5); have HB5 := Lib.hid (HB4.out.trans (hB5.mono HB4.out.size)); clear hE5 hB5)
          | (go_at_call 9; refine (HBN.out _ _ _ _ (List.Perm.refl _) HE5.out).mono ?_; rintro e w6 ⟨rfl, hB6⟩; have HX6 := Lib.hid (HX5.out.below hB6); have HR6 := Lib.hid (HR5.out.below hB6); have HB6 := Lib.hid (HB5.out.trans (hB6.mono HB5.out.size)); clear hB6))
        clear HX4 HR4 HB4 HE5 HX5 HR5 HB5
        go_wp2_with (first
          | (go_at_call 10; refine (HK.out _).mono ?_; rintro e w7 ⟨rfl, hB4⟩; have HX4 := Lib.hid (HX6.out.below hB4); have HR4 := Lib.hid (HR6.out.below hB4); have HB4 := Lib.hid (HB6.out.trans (hB4.mono HB6.out.size)); clear hB4)
          | (go_at_call 11; refine (HOW.out _ _ _ _ List.length_reverse HR4.out).mono ?_; rintro e w8 ⟨a5, c5, rfl, hE5, hB5⟩; have HE5 := Lib.hid hE5; have HX5 := Lib.hid (HX4.out.below hB5); have HB5 := Lib.hid (HB4.out.trans (hB5.mono HB4.out.size)); clear hE5 hB5)
          | (go_at_call 9; refine (HBN.out _ _ _ _ (List.reverse_perm _) HE5.out).mono ?_; rintro e w9 ⟨rfl, hB6⟩; have HX7 := Lib.hid (HX5.out.below hB6); have HB7 := Lib.hid (HB5.out.trans (hB6.mono HB5.out.size)); clear hB6)
          | (go_at_call 8; refine (HCK.out _ _ _ HX7.out).mono ?_; rintro e w10 ⟨rfl, hB8⟩; have HB8 := Lib.hid (HB7.out.trans (hB8.mono HB7.out.size)); clear hB8))
        go_ret
        exact ⟨rfl, HB8.out⟩
      have HCK : Hid (∀ W b d, IsEnts W b d xs → Calls Tryd.prog 8 #[.slice b xs.length d, .int .i64 503] W fun e w' => e = .returned (.int .i64 0) ∧ Below W.heap.size W w') := fun W b d h => by have := hck W b d h; rw [hc] at this; exact this
      have hvb : validB xs = true := by
        unfold chkB at hc
        rw [Bool.and_eq_true] at hc
        exact hc.2
      have HVB := Lib.hid hvb
      have HBD : Hid (∀ W (l : List Ent) b d, l.Perm xs → Ini W → IsEnts W b d l → Calls Tryd.prog 9 #[keyVal kf, .slice b xs.length d, .int .i64 503] W fun e w' => ∃ tb own es', e = .returned (.tuple #[.pointer (some ⟨tb, 0, none⟩), .int .i64 0]) ∧ es'.Perm xs ∧ SortedE es' ∧ Assigned kf es' 503 own ∧ TableAt w' tb (es'.map (·.1)) 503 own ∧ Below W.heap.size W w') := fun W l b d hp hI h => by
        have hle := hp.length_eq
        have := build8 kf l (by omega) (fun e he => HZ.out e ((hp.mem_iff).1 he)) 503 (by omega) prime503 (by omega) (by rw [valid_perm hp]; exact HVB.out) b d W hI h
        rw [hle] at this
        refine this.mono ?_
        rintro e w' ⟨tb, own, es', r1, r2, r3, r4, r5, r6⟩
        exact ⟨tb, own, es', r1, r2.trans hp, r3, r4, r5, r6⟩
      clear hck hc hvb
      go_upto_region 10 with (first
        | (go_at_call 10; refine (HK.out _).mono ?_; rintro e w4 ⟨rfl, hB4⟩; have HX4 := Lib.hid (HEX.out.below hB4); have HR4 := Lib.hid (HER.out.below hB4); have HI4 := Lib.hid (HIW.out.below hB4); have HB4 := Lib.hid (HBW.out.trans (hB4.mono HBW.out.size)); clear hB4)
        | (go_at_call 11; refine (HOW.out _ _ _ _ rfl HX4.out).mono ?_; rintro e w5 ⟨a5, c5, rfl, hE5, hB5⟩; have HE5 := Lib.hid hE5; have HX5 := Lib.hid (HX4.out.below hB5); have HR5 := Lib.hid (HR4.out.below hB5); have HI5 := Lib.hid (HI4.out.below hB5); have HB5 := Lib.hid (HB4.out.trans (hB5.mono HB4.out.size)); clear hE5 hB5)
        | (go_at_call 9; refine (HBD.out _ _ _ _ (List.Perm.refl _) HI5.out HE5.out).mono ?_; rintro e w6 ⟨t1, own, es1, rfl, hp1, hs1, ha1, ht1, hB6⟩; have HP1 := Lib.hid hp1; have HS1 := Lib.hid hs1; have HA1 := Lib.hid ha1; have HT1 := Lib.hid ht1; have HX6 := Lib.hid (HX5.out.below hB6); have HR6 := Lib.hid (HR5.out.below hB6); have HI6 := Lib.hid (HI5.out.below hB6); have HB6 := Lib.hid (HB5.out.trans (hB6.mono HB5.out.size)); clear hB6 hp1 hs1 ha1 ht1))
      clear HX4 HR4 HB4 HE5 HX5 HR5 HB5 HI4 HI5
      go_upto_region 11 with (first
        | (go_at_call 10; refine (HK.out _).mono ?_; rintro e w7 ⟨rfl, hB4⟩; have HX4 := Lib.hid (HX6.out.below hB4); have HR4 := Lib.hid (HR6.out.below hB4); have HI4 := Lib.hid (HI6.out.below hB4); have HT4 := Lib.hid (HT1.out.below hB4); have HB4 := Lib.hid (HB6.out.trans (hB4.mono HB6.out.size)); clear hB4)
        | (go_at_call 11; refine (HOW.out _ _ _ _ List.length_reverse HR4.out).mono ?_; rintro e w8 ⟨a5, c5, rfl, hE5, hB5⟩; have HE5 := Lib.hid hE5; have HX5 := Lib.hid (HX4.out.below hB5); have HI5 := Lib.hid (HI4.out.below hB5); have HT5 := Lib.hid (HT4.out.below hB5); have HB5 := Lib.hid (HB4.out.trans (hB5.mono HB4.out.size)); clear hE5 hB5)
        | (go_at_call 9; refine (HBD.out _ _ _ _ (List.reverse_perm _) HI5.out HE5.out).mono ?_; rintro e w9 ⟨t2, own2, es2, rfl, hp1, hs1, ha1, ht1, hB6⟩; have HP2 := Lib.hid hp1; have HS2 := Lib.hid hs1; have HA2 := Lib.hid ha1; have HT2 := Lib.hid ht1; have HX7 := Lib.hid (HX5.out.below hB6); have HT6 := Lib.hid (HT5.out.below hB6); have HB7 := Lib.hid (HB5.out.trans (hB6.mono HB5.out.size)); clear hB6 hp1 hs1 ha1 ht1))
      have hap : Apart es1 := by
        have h1 := HVB.out
        unfold validB at h1
        rw [Bool.and_eq_true] at h1
        exact (apart_perm HP1.out).2 (of_decide_eq_true h1.2)
      have hes : es1 = es2 := sorted_uniq (HP1.out.trans HP2.out.symm) HS1.out HS2.out hap
      subst hes
      have how := HA1.out.uniq HA2.out
      subst how
      have hvw : ∀ e ∈ es1, okW e = true := fun e he => by
        have h1 := HVB.out
        unfold validB at h1
        rw [Bool.and_eq_true, List.all_eq_true] at h1
        exact h1.1 e ((HP1.out.mem_iff).1 he)
      have HTT : Hid (TwoT w9 t1 t2 (es1.map (·.1)) own) := ⟨HT6.out, HT2.out⟩
      have hok : OwnOk (es1.map (·.1)).length 503 own := by rw [List.length_map]; exact HA1.out.ok prime503 hvw
      have hnl : (es1.map (·.1)).length ≤ 5 := by rw [List.length_map, HP1.out.length_eq]; omega
      have hnz : ∀ n ∈ es1.map (·.1), n.size ≤ 1000 := fun n hn => by
        obtain ⟨e, he, rfl⟩ := List.mem_map.1 hn
        exact HZ.out e ((HP1.out.mem_iff).1 he)
      have HOK := Lib.hid hok
      have HNZ := Lib.hid hnz
      clear HA1 HA2 HS1 HS2 HP1 HP2 HT6 HT2 HT1 HT4 HT5 hap hvw hok hnz HB6 HB4 HB5 HX4 HX5 HX6 HR4 HR6 HI4 HI5 HI6 HE5
      generalize es1.map (·.1) = ns at *
      have HAT : Hid (∀ W t p, TwoT W t1 t2 ns own → (t = t1 ∨ t = t2) → Calls Tryd.prog 13 #[.pointer (some ⟨t, 0, none⟩), .int .i64 p] W fun e w' => e = .returned (.string (atN ns 503 own p)) ∧ Below W.heap.size W w') := fun W t p h ht => at13 t 503 ns (by omega) own HOK.out p W (h.of ht)
      have HWK : Hid (∀ W t, TwoT W t1 t2 ns own → (t = t1 ∨ t = t2) → Calls Tryd.prog 15 #[.pointer (some ⟨t, 0, none⟩), .int .u64 x] W fun e w' => ∃ b d, e = .returned (.slice b (wkS ns 503 own (x * 503 / 18446744073709551616) 503).length d) ∧ IsStrs w' b d (wkS ns 503 own (x * 503 / 18446744073709551616) 503) ∧ Below W.heap.size W w') := fun W t h ht => walkM t 503 (by omega) (by omega) ns (by omega) HNZ.out own HOK.out x HX.out W (h.of ht)
      have HNM : Hid (∀ W t, TwoT W t1 t2 ns own → (t = t1 ∨ t = t2) → Calls Tryd.prog 16 #[.pointer (some ⟨t, 0, none⟩)] W fun e w' => ∃ b d, e = .returned (.slice b ns.length d) ∧ IsStrs w' b d ns ∧ Below W.heap.size W w') := fun W t h ht => namesM t 503 ns (by omega) own W (h.of ht)
      have hwl : (wkS ns 503 own (x * 503 / 18446744073709551616) 503).length ≤ ns.length := wkS_le 503
      generalize wkS ns 503 own (x * 503 / 18446744073709551616) 503 = wl at *
      have HSM : Hid (∀ W (l : List ByteArray) b d b' d', l.length ≤ 5 → IsStrs W b d l → IsStrs W b' d' l → Calls Tryd.prog 14 #[.slice b l.length d, .slice b' l.length d'] W fun e w' => e = .returned (.bool true) ∧ Below W.heap.size W w') := fun W l b d b' d' hl h1 h2 => sameM b d l b' d' l true (by simp) (by omega) (by omega) W h1 h2
      go_upto_region 16 with (first
        | (go_at_call 8; refine (HCK.out _ _ _ HX7.out).mono ?_; rintro e w10 ⟨rfl, hB8⟩; have HT8 := Lib.hid (HTT.out.below hB8); have HB8 := Lib.hid (HB7.out.trans (hB8.mono HB7.out.size)); clear hB8))
      clear HTT HB7 HX7 HCK
      go_loopw [69] (fun i wr => ∃ j : Nat, j ≤ 503 ∧ i = .int .i64 (j : Int) ∧ Hid (TwoT wr t1 t2 ns own) ∧ Hid (Below w.heap.size w wr)) (fun i _ => 503 - (intOf i).toNat)
      case atStart => exact ⟨0, by omega, rfl, HT8, HB8⟩
      case round =>
        clear HT8 HB8
        obtain ⟨j, hj, rfl, HTC, HBC⟩ := hrel
        by_cases hlt : j < 503
        · have j1 : (j : Int) < 503 := by omega
          have hne : ((atN ns 503 own (j : Int)).toList != (atN ns 503 own (j : Int)).toList) = false := by simp
          go_wp2_with (go_at_call 13; refine (HAT.out _ _ _ HTC.out (by first | exact .inl rfl | exact .inr rfl)).mono ?_; rintro e w11 ⟨rfl, hB⟩; have HBC := Lib.hid (HBC.out.trans (hB.mono HBC.out.size)); have HTC := Lib.hid (HTC.out.below hB); clear hB)
          go_roundw
          case rel => exact ⟨j + 1, hlt, by go_num, HTC, HBC⟩
          case measure => simp [intOf]; omega
        · obtain rfl : j = 503 := by omega
          have TK1 : Hid True := trivial
          have TK2 : Hid True := trivial
          have TK3 : Hid True := trivial
          go_wp2_with (first
            | (go_at_call 15; clear TK1; refine (HWK.out _ _ HTC.out (by first | exact .inl rfl | exact .inr rfl)).mono ?_; rintro e w11 ⟨b1, d1, rfl, hs, hB⟩; have HBC := Lib.hid (HBC.out.trans (hB.mono HBC.out.size)); have HTC := Lib.hid (HTC.out.below hB); have HL1 := Lib.hid hs; clear hB hs)
            | (go_at_call 15; refine (HWK.out _ _ HTC.out (by first | exact .inl rfl | exact .inr rfl)).mono ?_; rintro e w12 ⟨b2, d2, rfl, hs, hB⟩; have HBC := Lib.hid (HBC.out.trans (hB.mono HBC.out.size)); have HTC := Lib.hid (HTC.out.below hB); have HL1 := Lib.hid (HL1.out.below hB); have HL2 := Lib.hid hs; clear hB hs)
            | (go_at_call 14; clear TK2; refine (HSM.out _ wl _ _ _ _ (by omega) HL1.out HL2.out).mono ?_; rintro e w13 ⟨rfl, hB⟩; have HBC := Lib.hid (HBC.out.trans (hB.mono HBC.out.size)); have HTC := Lib.hid (HTC.out.below hB); clear hB)
            | (go_at_call 16; clear TK3; refine (HNM.out _ _ HTC.out (by first | exact .inl rfl | exact .inr rfl)).mono ?_; rintro e w14 ⟨b3, d3, rfl, hs, hB⟩; have HBC := Lib.hid (HBC.out.trans (hB.mono HBC.out.size)); have HTC := Lib.hid (HTC.out.below hB); have HM1 := Lib.hid hs; clear hB hs)
            | (go_at_call 16; refine (HNM.out _ _ HTC.out (by first | exact .inl rfl | exact .inr rfl)).mono ?_; rintro e w15 ⟨b4, d4, rfl, hs, hB⟩; have HBC := Lib.hid (HBC.out.trans (hB.mono HBC.out.size)); have HTC := Lib.hid (HTC.out.below hB); have HM1 := Lib.hid (HM1.out.below hB); have HM2 := Lib.hid hs; clear hB hs)
            | (go_at_call 14; refine (HSM.out _ ns _ _ _ _ hnl HM1.out HM2.out).mono ?_; rintro e w16 ⟨rfl, hB⟩; have HBC := Lib.hid (HBC.out.trans (hB.mono HBC.out.size)); clear hB))
          go_ret
          exact ⟨rfl, HBC.out⟩
end Go.Proofs.YtpjbdejgamajlabDoor
