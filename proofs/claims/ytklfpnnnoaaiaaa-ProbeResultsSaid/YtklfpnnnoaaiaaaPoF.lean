/- stewardlaw21.ProbeResults (written by genpf.py). -/
import Derived.Test.YtklfpnnnoaaiaaaPoE
namespace Go.Proofs.Ytklfpnnnoaaiaaa
open Go.RowKit

theorem infoRp : (Try.prog.info? 41).map (·.size) = some 4 := by kernel_rfl
/-- What the law has in memory. -/
structure PrS (w0 w : World) (b7 b8 : Nat) (p c q : Array Value) : Prop where
  bel : Below w0.heap.size w0 w
  a : Row w w0.heap.size 41 p
  b : Row w (w0.heap.size + 1) 43 c
  q7 : Row w b7 45 q
  q8 : Row w b8 41 q
  ne : b7 ≠ b8
  l7 : w0.heap.size + 1 < b7
  l8 : w0.heap.size + 1 < b8
theorem PrS.below {w0 w w' : World} {b7 b8 : Nat} {p c q : Array Value} (h : PrS w0 w b7 b8 p c q) (hb : Below w.heap.size w w') : PrS w0 w' b7 b8 p c q :=
  ⟨h.bel.trans (hb.mono h.bel.size), h.a.below hb, h.b.below hb, h.q7.below hb, h.q8.below hb, h.ne, h.l7, h.l8⟩
theorem isBools_take {w : World} {a : Option Addr} {c : Nat} {xs : List Bool} (j : Nat) (hj : j ≤ xs.length) (h : IsBools w a c xs) : j ≤ c ∧ IsBools w a c (xs.take j) := by
  rcases h with h | ⟨bk, o, ha, hbk, hl, hc⟩
  · subst h
    simp at hj
    subst hj
    exact ⟨Nat.zero_le _, .inl rfl⟩
  · refine ⟨by omega, .inr ⟨bk, o, ha, hbk, by rw [List.length_take]; omega, fun k x hx => hc k x ?_⟩⟩
    rw [List.getElem?_take] at hx
    split at hx
    · exact hx
    · cases hx
set_option maxRecDepth 100000 in
set_option maxHeartbeats 8000000 in
theorem lawProbeResults (up : Bool) (good bad since every wait rise fall : Int) (a : Option Addr) (cap : Nat) (xs : List Bool) (hl : xs.length ≤ 9223372036854775807) (w : World) (hx : IsBools w a cap xs) :
    Calls Try.prog 5 #[.agg #[.bool up, .int .i64 good, .int .i64 bad, .int .i64 since], .agg #[.int .i64 every, .int .i64 wait, .int .i64 rise, .int .i64 fall], .slice a xs.length cap] w fun e w' => e = .returned (.bool true) ∧ Below w.heap.size w w' := by
  have HRC := Lib.hid (fun q good now W => resultC q ⟨every, wait, rise, fall⟩ good now W)
  have HRR := Lib.hid (fun q good now W => resultR q ⟨every, wait, rise, fall⟩ good now W)
  have HRN := Lib.hid (fun now a c l hl W hx => runC ⟨up, good, bad, since⟩ ⟨every, wait, rise, fall⟩ now a c l hl W hx)
  have HCP := Lib.hid (fun W => clipP ⟨every, wait, rise, fall⟩ W)
  have HCR := Lib.hid (fun W => clipR ⟨every, wait, rise, fall⟩ W)
  unfold cfgV prbV resV at HRC HRR
  unfold cfgV prbV runV at HRN
  unfold cfgV clipC at HCP HCR
  simp only at HRC HRR HRN HCP HCR
  generalize limN rise 1000 = r' at *
  generalize limN fall 1000 = f' at *
  generalize limN every 1048576 = e' at *
  generalize limN wait 1048576 = t' at *
  have HX := Lib.hid hx
  have HL := Lib.hid hl
  have hb0 := below_a2 w (.cells #[.bool up, .int .i64 good, .int .i64 bad, .int .i64 since] 41) (.cells #[.int .i64 every, .int .i64 wait, .int .i64 rise, .int .i64 fall] 43)
  have ha0 := (Row.new w 41 #[.bool up, .int .i64 good, .int .i64 bad, .int .i64 since]).alloc (.cells #[.int .i64 every, .int .i64 wait, .int .i64 rise, .int .i64 fall] 43)
  have hc0 := Row.new (w.alloc (.cells #[.bool up, .int .i64 good, .int .i64 bad, .int .i64 since] 41)) 43 #[.int .i64 every, .int .i64 wait, .int .i64 rise, .int .i64 fall]
  rw [World.size_alloc] at hc0
  have HB0 := Lib.hid hb0
  have HA0 := Lib.hid ha0
  have HC0 := Lib.hid hc0
  clear hx hl hb0 ha0 hc0
  go_enter Try.func5, Try.ntmps5
  go_wp2_with (go_at_call 16; refine (awake21 _).mono ?_; rintro e w1 ⟨rfl, hB1⟩; have HA1 := Lib.hid (HA0.out.below hB1); have HC1 := Lib.hid (HC0.out.below hB1); have HB1 := Lib.hid (HB0.out.trans (hB1.mono HB0.out.size)); clear hB1)
  clear HA0 HC0 HB0
  refine region_mixt 5 [some (.agg #[.bool up, .int .i64 good, .int .i64 bad, .int .i64 since]), some (.agg #[.bool up, .int .i64 good, .int .i64 bad, .int .i64 since]), none, none, none]
    [[false, false, false, false, false], [false, false, false, false, false], [false, false, false, false, false], [false, false, false, false, false], [true, false, true, true, false]]
    (fun LL xx w9 => MxS w1 [] [⟨2, 4, 45, #[.bool false, .int .i64 0, .int .i64 0, .int .i64 0], #[.bool up, .int .i64 good, .int .i64 bad, .int .i64 since]⟩, ⟨3, 5, 41, #[.bool false, .int .i64 0, .int .i64 0, .int .i64 0], #[.bool false, .int .i64 0, .int .i64 0, .int .i64 0]⟩] LL xx w9)
    (by kernel_rfl) (by kernel_rfl) (by kernel_rfl) (by kernel_rfl) (by kernel_rfl) (by decide) ?_ ?_ ?_
  · intro x
    exact MxS.start (by simp)
  · simp only [List.take_succ_cons, List.take_zero]
    refine ⟨?_, ?_, ?_, ?_, ?_, trivial⟩
    all_goals
      intro L x w9 hS hl hp K9 hK9
      have hs : MxS w1 [] [⟨2, 4, 45, #[.bool false, .int .i64 0, .int .i64 0, .int .i64 0], #[.bool up, .int .i64 good, .int .i64 bad, .int .i64 since]⟩, ⟨3, 5, 41, #[.bool false, .int .i64 0, .int .i64 0, .int .i64 0], #[.bool false, .int .i64 0, .int .i64 0, .int .i64 0]⟩] L x w9 := hS
      clear hS
      replace hK9 := hK9.out
      simp only [actMix, pickV, List.tail_cons, List.headD_cons, Act.put, List.setIfInBounds_toArray, List.set_cons_zero, List.set_cons_succ] at hK9 ⊢
    · clear hp
      obtain ⟨p0, p1, p2, p3⟩ := pcell (hs.row HA1.out (by simp))
      go_simp
      with_reducible refine hK9 _ ?_
      exact hs.next 0 _ (by simp [MxI])
    · clear hp
      obtain ⟨p0, p1, p2, p3⟩ := pcell (hs.row HA1.out (by simp))
      go_simp
      with_reducible refine hK9 _ ?_
      exact hs.next 1 _ (by simp [MxI])
    · clear hp
      go_simp
      with_reducible refine hK9 _ _ ?_
      exact hs.alloc (n := ⟨2, 4, 45, #[.bool false, .int .i64 0, .int .i64 0, .int .i64 0], #[.bool up, .int .i64 good, .int .i64 bad, .int .i64 since]⟩) (by simp) hl (by simp) (by simp) (by simp)
    · clear hp
      go_simp
      with_reducible refine hK9 _ _ ?_
      exact hs.alloc (n := ⟨3, 5, 41, #[.bool false, .int .i64 0, .int .i64 0, .int .i64 0], #[.bool false, .int .i64 0, .int .i64 0, .int .i64 0]⟩) (by simp) hl (by simp) (by simp) (by simp)
    · have hA := allL_mem hp 2 (by decide +kernel)
      obtain ⟨bA, hxA, hgA, hrA⟩ := hs.new ⟨2, 4, 45, #[.bool false, .int .i64 0, .int .i64 0, .int .i64 0], #[.bool up, .int .i64 good, .int .i64 bad, .int .i64 since]⟩ (by simp) hA
      clear hp
      simp only at hxA hrA hl
      rw [hl, if_neg (by simp)] at hrA
      rw [hxA] at hK9 ⊢
      rw [if_pos (by rfl)]
      refine wp_store_row 45 _ _ rfl bA #[.bool up, .int .i64 good, .int .i64 bad, .int .i64 since] rfl rfl 45 #[.bool false, .int .i64 0, .int .i64 0, .int .i64 0] hrA infoPb rfl (by simp [Value.oneCell']) ?_
      simp only [Act.put]
      with_reducible refine hK9 undef _ ?_
      exact hs.write (n := ⟨2, 4, 45, #[.bool false, .int .i64 0, .int .i64 0, .int .i64 0], #[.bool up, .int .i64 good, .int .i64 bad, .int .i64 since]⟩) (by simp) hxA hA (by simp) (by simp) (by simp) _ (by simp)
  intro L x w9 hS hL
  have hs : MxS w1 [] [⟨2, 4, 45, #[.bool false, .int .i64 0, .int .i64 0, .int .i64 0], #[.bool up, .int .i64 good, .int .i64 bad, .int .i64 since]⟩, ⟨3, 5, 41, #[.bool false, .int .i64 0, .int .i64 0, .int .i64 0], #[.bool false, .int .i64 0, .int .i64 0, .int .i64 0]⟩] L x w9 := hS
  clear hS
  simp only [actMix, pickV, List.tail_cons, List.headD_cons, Act.put, List.setIfInBounds_toArray, List.set_cons_zero, List.set_cons_succ, List.replicate_succ, List.replicate_zero, List.drop_succ_cons, List.drop_zero, List.take_succ_cons, List.take_zero]
  obtain ⟨b7, h7, g7, r7⟩ := hs.new ⟨2, 4, 45, #[.bool false, .int .i64 0, .int .i64 0, .int .i64 0], #[.bool up, .int .i64 good, .int .i64 bad, .int .i64 since]⟩ (by simp) (hL 2 (by decide))
  obtain ⟨b8, h8, g8, r8⟩ := hs.new ⟨3, 5, 41, #[.bool false, .int .i64 0, .int .i64 0, .int .i64 0], #[.bool false, .int .i64 0, .int .i64 0, .int .i64 0]⟩ (by simp) (hL 3 (by decide))
  have hne := hs.dis ⟨2, 4, 45, #[.bool false, .int .i64 0, .int .i64 0, .int .i64 0], #[.bool up, .int .i64 good, .int .i64 bad, .int .i64 since]⟩ (by simp) ⟨3, 5, 41, #[.bool false, .int .i64 0, .int .i64 0, .int .i64 0], #[.bool false, .int .i64 0, .int .i64 0, .int .i64 0]⟩ (by simp) (by simp) (hL 2 (by decide)) (hL 3 (by decide))
  simp only at h7 h8 r7 r8 hne
  rw [if_pos (hL 4 (by decide))] at r7
  rw [ite_self] at r8
  rw [h7, h8]
  have hne2 : b7 ≠ b8 := fun e => hne (by rw [h7, h8, e])
  have hc1 := HC1.out.lt
  have hsb := hs.bel0
  have HSP : Hid (PrS w (w9.setRow b8 #[.bool up, .int .i64 good, .int .i64 bad, .int .i64 since]) b7 b8 #[.bool up, .int .i64 good, .int .i64 bad, .int .i64 since] #[.int .i64 every, .int .i64 wait, .int .i64 rise, .int .i64 fall] #[.bool up, .int .i64 good, .int .i64 bad, .int .i64 since]) :=
    ⟨(HB1.out.trans (hsb.mono HB1.out.size)).trans (below_setRow (by omega) _), (hs.row HA1.out (by simp)).far2 (by omega), (hs.row HC1.out (by simp)).far2 (by omega), r7.far2 hne2, r8.over2, hne2, by omega, by omega⟩
  clear hs hL h7 h8 hne hsb HA1 HC1 HB1 r7 hc1
  refine wpList_store_row rfl 41 _ _ rfl b8 #[.bool up, .int .i64 good, .int .i64 bad, .int .i64 since] rfl rfl 41 #[.bool false, .int .i64 0, .int .i64 0, .int .i64 0] r8 infoRp rfl (by simp [Value.oneCell']) ?_
  clear r8
  generalize w9.setRow b8 #[.bool up, .int .i64 good, .int .i64 bad, .int .i64 since] = w2 at *
  go_wp2_with fail
  go_loopw [9, 10] (fun n i wr => ∃ (j m : Nat) (qu : Bool) (qg qb qs : Int), j ≤ xs.length ∧ j ≤ 60 ∧ n = .int .i64 (m : Int) ∧ i = .int .i64 (j : Int) ∧ m ≤ j ∧ Hid (((⟨qu, qg, qb, qs⟩ : Prb), m) = runN ⟨up, good, bad, since⟩ r' f' xs (fun k => (k : Int)) j) ∧ Hid (PrS w wr b7 b8 #[.bool up, .int .i64 good, .int .i64 bad, .int .i64 since] #[.int .i64 every, .int .i64 wait, .int .i64 rise, .int .i64 fall] #[.bool qu, .int .i64 qg, .int .i64 qb, .int .i64 qs])) (fun _ i _ => 60 - (intOf i).toNat)
  case atStart => exact ⟨0, 0, up, good, bad, since, Nat.zero_le _, Nat.zero_le _, rfl, rfl, Nat.le_refl _, rfl, HSP⟩
  case round =>
    clear HSP hne2 g7 g8
    obtain ⟨j, m, qu, qg, qb, qs, hj, hj6, rfl, rfl, hm, HQ, HS⟩ := hrel
    have hll := HL.out
    by_cases hlt : j < xs.length ∧ j < 60
    · obtain ⟨hlt, h60⟩ := hlt
      obtain h0 | ⟨bk, o, rfl, hbk, hc, hcell⟩ := HX.out.below HS.out.bel
      · rw [h0] at hlt; simp at hlt
      have HCX := Lib.hid (hcell j _ (List.getElem?_eq_getElem hlt))
      have HBK := Lib.hid hbk
      have j1 : (j : Int) < xs.length := by omega
      have j2 : (j : Int) < 60 := by omega
      have HST := Lib.hid (runN_step (p := ⟨up, good, bad, since⟩) (r := r') (f := f') (now := fun k => (k : Int)) hlt)
      generalize xs[j] = gd at *
      have HR := Lib.hid (HRC.out ⟨qu, qg, qb, qs⟩ gd (j : Int))
      have HR2 := Lib.hid (HRR.out ⟨qu, qg, qb, qs⟩ gd (j : Int))
      have hR2 : Hid (((resP ⟨qu, qg, qb, qs⟩ r' f' gd (j : Int)).1, if (resP ⟨qu, qg, qb, qs⟩ r' f' gd (j : Int)).2 = true then m + 1 else m) = runN ⟨up, good, bad, since⟩ r' f' xs (fun k => (k : Int)) (j + 1)) := by
        show _ = _
        rw [HST.out, ← HQ.out]
      clear HST HQ hcell hbk
      simp only at HR HR2
      generalize resP ⟨qu, qg, qb, qs⟩ r' f' gd (j : Int) = R at *
      obtain ⟨⟨u2, g2, b2, s2⟩, ch⟩ := R
      simp only at HR HR2 hR2
      go_wp2_with fail
      refine region_mixt 13 [some (.agg #[.bool qu, .int .i64 qg, .int .i64 qb, .int .i64 qs]), some (.agg #[.int .i64 every, .int .i64 wait, .int .i64 rise, .int .i64 fall]), some (.slice (some ⟨bk, o, none⟩) xs.length cap), some (.int .i64 (j : Int)), some (.pointer (some ⟨bk, o + j, none⟩)), some (.bool gd), some (.int .i64 (j : Int)), some (.tuple #[.agg #[.bool u2, .int .i64 g2, .int .i64 b2, .int .i64 s2], .bool ch]), some (.tuple #[.agg #[.bool u2, .int .i64 g2, .int .i64 b2, .int .i64 s2], .bool ch]), some (.agg #[.bool u2, .int .i64 g2, .int .i64 b2, .int .i64 s2]), some (.bool ch), none, none]
        [[false, false, false, false, false, false, false, false, false, false, false, false, false], [false, false, false, false, false, false, false, false, false, false, false, false, false], [false, false, false, false, false, false, false, false, false, false, false, false, false], [false, false, false, false, false, false, false, false, false, false, false, false, false], [false, false, true, true, false, false, false, false, false, false, false, false, false], [false, false, false, false, true, false, false, false, false, false, false, false, false], [false, false, false, false, false, false, false, false, false, false, false, false, false], [true, true, false, false, false, true, true, false, false, false, false, false, false], [false, false, false, false, false, false, false, true, false, false, false, false, false], [false, false, false, false, false, false, false, false, true, false, false, false, false], [false, false, false, false, false, false, false, false, true, false, false, false, false], [false, false, false, false, false, false, false, false, false, false, false, false, false], [true, true, true, true, true, true, true, true, true, true, false, true, false]]
        (fun LL xx w9 => MxS wr [] [⟨11, 12, 45, #[.bool false, .int .i64 0, .int .i64 0, .int .i64 0], #[.bool u2, .int .i64 g2, .int .i64 b2, .int .i64 s2]⟩] LL xx w9)
        (by kernel_rfl) (by kernel_rfl) (by kernel_rfl) (by kernel_rfl) (by kernel_rfl) (by decide) ?_ ?_ ?_
      · intro x
        exact MxS.start (by simp)
      · simp only [List.take_succ_cons, List.take_zero]
        refine ⟨?_, ?_, ?_, ?_, ?_, ?_, ?_, ?_, ?_, ?_, ?_, ?_, ?_, trivial⟩
        all_goals
          intro L x w9 hS hl hp K9 hK9
          have hs : MxS wr [] [⟨11, 12, 45, #[.bool false, .int .i64 0, .int .i64 0, .int .i64 0], #[.bool u2, .int .i64 g2, .int .i64 b2, .int .i64 s2]⟩] L x w9 := hS
          clear hS
          replace hK9 := hK9.out
          simp only [actMix, pickV, List.tail_cons, List.headD_cons, Act.put, List.setIfInBounds_toArray, List.set_cons_zero, List.set_cons_succ] at hK9 ⊢
        · clear hp
          obtain ⟨p0, p1, p2, p3⟩ := pcell (hs.row HS.out.q7 (by simp))
          go_simp
          with_reducible refine hK9 _ ?_
          exact hs.next 0 _ (by simp [MxI])
        · clear hp
          obtain ⟨k0, k1, k2, k3⟩ := pcell (hs.row HS.out.b (by simp))
          go_simp
          with_reducible refine hK9 _ ?_
          exact hs.next 1 _ (by simp [MxI])
        · clear hp
          go_simp
          with_reducible refine hK9 _ ?_
          exact hs.next 2 _ (by simp [MxI])
        · clear hp
          go_simp
          with_reducible refine hK9 _ ?_
          exact hs.next 3 _ (by simp [MxI])
        · clear hp
          go_simp
          with_reducible refine hK9 _ ?_
          exact hs.next 4 _ (by simp [MxI])
        · clear hp
          have cx : w9.cell? ⟨bk, o + j, none⟩ = some (.bool gd) := by rw [(bcell hs.bel0).1 _ _ HBK.out]; exact HCX.out
          go_simp
          with_reducible refine hK9 _ ?_
          exact hs.next 5 _ (by simp [MxI])
        · clear hp
          go_simp
          with_reducible refine hK9 _ ?_
          exact hs.next 6 _ (by simp [MxI])
        · clear hp
          go_simp
          refine (HR.out w9).mono ?_
          rintro e w8 ⟨rfl, hB8⟩
          go_simp
          with_reducible refine hK9 _ ?_
          exact (hs.below hB8).next 7 _ (by simp [MxI])
        · clear hp
          go_simp
          with_reducible refine hK9 _ ?_
          exact hs.next 8 _ (by simp [MxI])
        · clear hp
          go_simp
          with_reducible refine hK9 _ ?_
          exact hs.next 9 _ (by simp [MxI])
        · clear hp
          go_simp
          with_reducible refine hK9 _ ?_
          exact hs.next 10 _ (by simp [MxI])
        · clear hp
          go_simp
          with_reducible refine hK9 _ _ ?_
          exact hs.alloc (n := ⟨11, 12, 45, #[.bool false, .int .i64 0, .int .i64 0, .int .i64 0], #[.bool u2, .int .i64 g2, .int .i64 b2, .int .i64 s2]⟩) (by simp) hl (by simp) (by simp) (by simp)
        · have hA := allL_mem hp 11 (by decide +kernel)
          obtain ⟨bA, hxA, hgA, hrA⟩ := hs.new ⟨11, 12, 45, #[.bool false, .int .i64 0, .int .i64 0, .int .i64 0], #[.bool u2, .int .i64 g2, .int .i64 b2, .int .i64 s2]⟩ (by simp) hA
          clear hp
          simp only at hxA hrA hl
          rw [hl, if_neg (by simp)] at hrA
          rw [hxA] at hK9 ⊢
          rw [if_pos (by rfl)]
          refine wp_store_row 45 _ _ rfl bA #[.bool u2, .int .i64 g2, .int .i64 b2, .int .i64 s2] rfl rfl 45 #[.bool false, .int .i64 0, .int .i64 0, .int .i64 0] hrA infoPb rfl (by simp [Value.oneCell']) ?_
          simp only [Act.put]
          with_reducible refine hK9 undef _ ?_
          exact hs.write (n := ⟨11, 12, 45, #[.bool false, .int .i64 0, .int .i64 0, .int .i64 0], #[.bool u2, .int .i64 g2, .int .i64 b2, .int .i64 s2]⟩) (by simp) hxA hA (by simp) (by simp) (by simp) _ (by simp)
      intro L x w9 hS hL
      have hs : MxS wr [] [⟨11, 12, 45, #[.bool false, .int .i64 0, .int .i64 0, .int .i64 0], #[.bool u2, .int .i64 g2, .int .i64 b2, .int .i64 s2]⟩] L x w9 := hS
      clear hS
      simp only [actMix, pickV, List.tail_cons, List.headD_cons, Act.put, List.setIfInBounds_toArray, List.set_cons_zero, List.set_cons_succ, List.replicate_succ, List.replicate_zero, List.drop_succ_cons, List.drop_zero, List.take_succ_cons, List.take_zero]
      obtain ⟨b11, h11, g11, r11⟩ := hs.new ⟨11, 12, 45, #[.bool false, .int .i64 0, .int .i64 0, .int .i64 0], #[.bool u2, .int .i64 g2, .int .i64 b2, .int .i64 s2]⟩ (by simp) (hL 11 (by decide))
      simp only at h11 r11
      rw [if_pos (hL 12 (by decide))] at r11
      rw [h11]
      have HS2 := Lib.hid (HS.out.below hs.bel0)
      have HCX2 : Hid (w9.cell? ⟨bk, o + j, none⟩ = some (.bool gd)) := by show _ = _; rw [(bcell hs.bel0).1 _ _ HBK.out]; exact HCX.out
      have HBK2 : Hid (bk < w9.heap.size) := Nat.lt_of_lt_of_le HBK.out hs.bel0.size
      have HL7 := Lib.hid HS.out.q7.lt
      have HL8 := Lib.hid HS.out.q8.lt
      have R11 := Lib.hid r11
      clear hs hL h11 r11 HS HCX HBK HR
      obtain ⟨wa, rfl⟩ : ∃ wa, wa = w9 := ⟨w9, rfl⟩
      go_wp2_with fail
      refine region_mixt 13 [some (.agg #[.bool qu, .int .i64 qg, .int .i64 qb, .int .i64 qs]), some (.agg #[.int .i64 every, .int .i64 wait, .int .i64 rise, .int .i64 fall]), some (.slice (some ⟨bk, o, none⟩) xs.length cap), some (.int .i64 (j : Int)), some (.pointer (some ⟨bk, o + j, none⟩)), some (.bool gd), some (.int .i64 (j : Int)), some (.tuple #[.agg #[.bool u2, .int .i64 g2, .int .i64 b2, .int .i64 s2], .bool ch]), some (.tuple #[.agg #[.bool u2, .int .i64 g2, .int .i64 b2, .int .i64 s2], .bool ch]), some (.agg #[.bool u2, .int .i64 g2, .int .i64 b2, .int .i64 s2]), some (.bool ch), none, none]
        [[false, false, false, false, false, false, false, false, false, false, false, false, false], [false, false, false, false, false, false, false, false, false, false, false, false, false], [false, false, false, false, false, false, false, false, false, false, false, false, false], [false, false, false, false, false, false, false, false, false, false, false, false, false], [false, false, true, true, false, false, false, false, false, false, false, false, false], [false, false, false, false, true, false, false, false, false, false, false, false, false], [false, false, false, false, false, false, false, false, false, false, false, false, false], [true, true, false, false, false, true, true, false, false, false, false, false, false], [false, false, false, false, false, false, false, true, false, false, false, false, false], [false, false, false, false, false, false, false, false, true, false, false, false, false], [false, false, false, false, false, false, false, false, true, false, false, false, false], [false, false, false, false, false, false, false, false, false, false, false, false, false], [true, true, true, true, true, true, true, true, true, true, false, true, false]]
        (fun LL xx w9 => MxS wa [] [⟨11, 12, 41, #[.bool false, .int .i64 0, .int .i64 0, .int .i64 0], #[.bool u2, .int .i64 g2, .int .i64 b2, .int .i64 s2]⟩] LL xx w9)
        (by kernel_rfl) (by kernel_rfl) (by kernel_rfl) (by kernel_rfl) (by kernel_rfl) (by decide) ?_ ?_ ?_
      · intro x
        exact MxS.start (by simp)
      · simp only [List.take_succ_cons, List.take_zero]
        refine ⟨?_, ?_, ?_, ?_, ?_, ?_, ?_, ?_, ?_, ?_, ?_, ?_, ?_, trivial⟩
        all_goals
          intro L x w9 hS hl hp K9 hK9
          have hs : MxS wa [] [⟨11, 12, 41, #[.bool false, .int .i64 0, .int .i64 0, .int .i64 0], #[.bool u2, .int .i64 g2, .int .i64 b2, .int .i64 s2]⟩] L x w9 := hS
          clear hS
          replace hK9 := hK9.out
          simp only [actMix, pickV, List.tail_cons, List.headD_cons, Act.put, List.setIfInBounds_toArray, List.set_cons_zero, List.set_cons_succ] at hK9 ⊢
        · clear hp
          obtain ⟨p0, p1, p2, p3⟩ := pcell (hs.row HS2.out.q8 (by simp))
          go_simp
          with_reducible refine hK9 _ ?_
          exact hs.next 0 _ (by simp [MxI])
        · clear hp
          obtain ⟨k0, k1, k2, k3⟩ := pcell (hs.row HS2.out.b (by simp))
          go_simp
          with_reducible refine hK9 _ ?_
          exact hs.next 1 _ (by simp [MxI])
        · clear hp
          go_simp
          with_reducible refine hK9 _ ?_
          exact hs.next 2 _ (by simp [MxI])
        · clear hp
          go_simp
          with_reducible refine hK9 _ ?_
          exact hs.next 3 _ (by simp [MxI])
        · clear hp
          go_simp
          with_reducible refine hK9 _ ?_
          exact hs.next 4 _ (by simp [MxI])
        · clear hp
          have cx : w9.cell? ⟨bk, o + j, none⟩ = some (.bool gd) := by rw [(bcell hs.bel0).1 _ _ HBK2.out]; exact HCX2.out
          go_simp
          with_reducible refine hK9 _ ?_
          exact hs.next 5 _ (by simp [MxI])
        · clear hp
          go_simp
          with_reducible refine hK9 _ ?_
          exact hs.next 6 _ (by simp [MxI])
        · clear hp
          go_simp
          refine (HR2.out w9).mono ?_
          rintro e w8 ⟨rfl, hB8⟩
          go_simp
          with_reducible refine hK9 _ ?_
          exact (hs.below hB8).next 7 _ (by simp [MxI])
        · clear hp
          go_simp
          with_reducible refine hK9 _ ?_
          exact hs.next 8 _ (by simp [MxI])
        · clear hp
          go_simp
          with_reducible refine hK9 _ ?_
          exact hs.next 9 _ (by simp [MxI])
        · clear hp
          go_simp
          with_reducible refine hK9 _ ?_
          exact hs.next 10 _ (by simp [MxI])
        · clear hp
          go_simp
          with_reducible refine hK9 _ _ ?_
          exact hs.alloc (n := ⟨11, 12, 41, #[.bool false, .int .i64 0, .int .i64 0, .int .i64 0], #[.bool u2, .int .i64 g2, .int .i64 b2, .int .i64 s2]⟩) (by simp) hl (by simp) (by simp) (by simp)
        · have hA := allL_mem hp 11 (by decide +kernel)
          obtain ⟨bA, hxA, hgA, hrA⟩ := hs.new ⟨11, 12, 41, #[.bool false, .int .i64 0, .int .i64 0, .int .i64 0], #[.bool u2, .int .i64 g2, .int .i64 b2, .int .i64 s2]⟩ (by simp) hA
          clear hp
          simp only at hxA hrA hl
          rw [hl, if_neg (by simp)] at hrA
          rw [hxA] at hK9 ⊢
          rw [if_pos (by rfl)]
          refine wp_store_row 41 _ _ rfl bA #[.bool u2, .int .i64 g2, .int .i64 b2, .int .i64 s2] rfl rfl 41 #[.bool false, .int .i64 0, .int .i64 0, .int .i64 0] hrA infoRp rfl (by simp [Value.oneCell']) ?_
          simp only [Act.put]
          with_reducible refine hK9 undef _ ?_
          exact hs.write (n := ⟨11, 12, 41, #[.bool false, .int .i64 0, .int .i64 0, .int .i64 0], #[.bool u2, .int .i64 g2, .int .i64 b2, .int .i64 s2]⟩) (by simp) hxA hA (by simp) (by simp) (by simp) _ (by simp)
      intro L x w9 hS hL
      have hs : MxS wa [] [⟨11, 12, 41, #[.bool false, .int .i64 0, .int .i64 0, .int .i64 0], #[.bool u2, .int .i64 g2, .int .i64 b2, .int .i64 s2]⟩] L x w9 := hS
      clear hS
      simp only [actMix, pickV, List.tail_cons, List.headD_cons, Act.put, List.setIfInBounds_toArray, List.set_cons_zero, List.set_cons_succ, List.replicate_succ, List.replicate_zero, List.drop_succ_cons, List.drop_zero, List.take_succ_cons, List.take_zero]
      obtain ⟨b13, h13, g13, r13⟩ := hs.new ⟨11, 12, 41, #[.bool false, .int .i64 0, .int .i64 0, .int .i64 0], #[.bool u2, .int .i64 g2, .int .i64 b2, .int .i64 s2]⟩ (by simp) (hL 11 (by decide))
      simp only at h13 r13
      rw [if_pos (hL 12 (by decide))] at r13
      rw [h13]
      have HS3 := Lib.hid (HS2.out.below hs.bel0)
      have R11b := Lib.hid (R11.out.below hs.bel0)
      have R13 := Lib.hid r13
      have n1 : b7 ≠ b11 := by have := HL7.out; omega
      have n2 : b8 ≠ b11 := by have := HL8.out; omega
      have hwsz := HS2.out.q7.lt
      have hwsz2 := HS2.out.q8.lt
      have n3 : b7 ≠ b13 := by omega
      have n4 : b8 ≠ b13 := by omega
      clear hs hL h13 r13 HS2 HCX2 HBK2 HR2 R11 hwsz hwsz2 g13 g11 HL7 HL8
      obtain ⟨wb, rfl⟩ : ∃ wb, wb = w9 := ⟨w9, rfl⟩
      go_wp2_with fail
      refine region_mixt 3 [some (.agg #[.bool u2, .int .i64 g2, .int .i64 b2, .int .i64 s2]), some (.agg #[.bool u2, .int .i64 g2, .int .i64 b2, .int .i64 s2]), none]
        [[false, false, false], [false, false, false], [true, false, false]]
        (fun LL xx w9 => MxS wb [⟨b7, 2, 45, #[.bool qu, .int .i64 qg, .int .i64 qb, .int .i64 qs], #[.bool u2, .int .i64 g2, .int .i64 b2, .int .i64 s2]⟩] [] LL xx w9)
        (by kernel_rfl) (by kernel_rfl) (by kernel_rfl) (by kernel_rfl) (by kernel_rfl) (by decide) ?_ ?_ ?_
      · intro x
        exact MxS.start (by simp; exact HS3.out.q7)
      · simp only [List.take_succ_cons, List.take_zero]
        refine ⟨?_, ?_, ?_, trivial⟩
        all_goals
          intro L x w9 hS hl hp K9 hK9
          have hs : MxS wb [⟨b7, 2, 45, #[.bool qu, .int .i64 qg, .int .i64 qb, .int .i64 qs], #[.bool u2, .int .i64 g2, .int .i64 b2, .int .i64 s2]⟩] [] L x w9 := hS
          clear hS
          replace hK9 := hK9.out
          simp only [actMix, pickV, List.tail_cons, List.headD_cons, Act.put, List.setIfInBounds_toArray, List.set_cons_zero, List.set_cons_succ] at hK9 ⊢
        · clear hp
          obtain ⟨p0, p1, p2, p3⟩ := pcell (hs.row R11b.out (by simp; exact n1))
          go_simp
          with_reducible refine hK9 _ ?_
          exact hs.next 0 _ (by simp [MxI])
        · clear hp
          obtain ⟨p0, p1, p2, p3⟩ := pcell (hs.row R13.out (by simp; exact n3))
          go_simp
          with_reducible refine hK9 _ ?_
          exact hs.next 1 _ (by simp [MxI])
        · have hrA := hs.old ⟨b7, 2, 45, #[.bool qu, .int .i64 qg, .int .i64 qb, .int .i64 qs], #[.bool u2, .int .i64 g2, .int .i64 b2, .int .i64 s2]⟩ (by simp)
          clear hp
          simp only at hrA hl
          rw [hl, if_neg (by simp)] at hrA
          rw [if_pos (by rfl)]
          refine wp_store_row 45 _ _ rfl b7 #[.bool u2, .int .i64 g2, .int .i64 b2, .int .i64 s2] rfl rfl 45 #[.bool qu, .int .i64 qg, .int .i64 qb, .int .i64 qs] hrA infoPb rfl (by simp [Value.oneCell']) ?_
          simp only [Act.put]
          with_reducible refine hK9 undef _ ?_
          exact hs.over (o := ⟨b7, 2, 45, #[.bool qu, .int .i64 qg, .int .i64 qb, .int .i64 qs], #[.bool u2, .int .i64 g2, .int .i64 b2, .int .i64 s2]⟩) (by simp) (by simp) (by simp) _ (by simp; exact HS3.out.q7.lt)
      intro L x w9 hS hL
      have hs : MxS wb [⟨b7, 2, 45, #[.bool qu, .int .i64 qg, .int .i64 qb, .int .i64 qs], #[.bool u2, .int .i64 g2, .int .i64 b2, .int .i64 s2]⟩] [] L x w9 := hS
      clear hS
      simp only [actMix, pickV, List.tail_cons, List.headD_cons, Act.put, List.setIfInBounds_toArray, List.set_cons_zero, List.set_cons_succ, List.replicate_succ, List.replicate_zero, List.drop_succ_cons, List.drop_zero, List.take_succ_cons, List.take_zero]
      have h7n := hs.old ⟨b7, 2, 45, #[.bool qu, .int .i64 qg, .int .i64 qb, .int .i64 qs], #[.bool u2, .int .i64 g2, .int .i64 b2, .int .i64 s2]⟩ (by simp)
      simp only at h7n
      rw [if_pos (hL 2 (by decide))] at h7n
      have hne9 := HS3.out.ne
      have h8n := hs.row HS3.out.q8 (by simp; exact hne9)
      have hl7 := HS3.out.l7
      have hl8 := HS3.out.l8
      have hsz3 := HS3.out.bel.size
      have HS4 : Hid (PrS w (w9.setRow b8 #[.bool u2, .int .i64 g2, .int .i64 b2, .int .i64 s2]) b7 b8 #[.bool up, .int .i64 good, .int .i64 bad, .int .i64 since] #[.int .i64 every, .int .i64 wait, .int .i64 rise, .int .i64 fall] #[.bool u2, .int .i64 g2, .int .i64 b2, .int .i64 s2]) :=
        ⟨(HS3.out.bel.trans (hs.bel (by simp; omega) hsz3)).trans (below_setRow (by omega) _), (hs.row HS3.out.a (by simp; omega)).far2 (by omega), (hs.row HS3.out.b (by simp; omega)).far2 (by omega), h7n.far2 hne9, h8n.over2, hne9, hl7, hl8⟩
      have D11 := Lib.hid ((hs.row R11b.out (by simp; exact n1)).far2 (cs' := #[.bool u2, .int .i64 g2, .int .i64 b2, .int .i64 s2]) (fun e => n2 e.symm))
      have D13 := Lib.hid ((hs.row R13.out (by simp; exact n3)).far2 (cs' := #[.bool u2, .int .i64 g2, .int .i64 b2, .int .i64 s2]) (fun e => n4 e.symm))
      clear hs hL HS3 R11b R13 h7n hl7 hl8 hsz3 hne9
      refine wpList_store_row rfl 41 _ _ rfl b8 #[.bool u2, .int .i64 g2, .int .i64 b2, .int .i64 s2] rfl rfl 41 #[.bool qu, .int .i64 qg, .int .i64 qb, .int .i64 qs] h8n infoRp rfl (by simp [Value.oneCell']) ?_
      clear h8n
      generalize w9.setRow b8 #[.bool u2, .int .i64 g2, .int .i64 b2, .int .i64 s2] = wc at *
      obtain ⟨d0, d1, d2, d3⟩ := pcell D11.out
      obtain ⟨e0, e1, e2, e3⟩ := pcell D13.out
      clear n1 n2 n3 n4
      cases ch with
      | true =>
        go_wp2_with fail
        go_roundw
        case rel => exact ⟨j + 1, m + 1, u2, g2, b2, s2, hlt, h60, by go_num, by go_num, by omega, hR2, HS4⟩
        case measure => simp [intOf]; omega
      | false =>
        go_wp2_with fail
        go_roundw
        case rel => exact ⟨j + 1, m, u2, g2, b2, s2, hlt, h60, rfl, by go_num, by omega, hR2, HS4⟩
        case measure => simp [intOf]; omega
    · have hK : j = xs.length ∨ (j = 60 ∧ j < xs.length) := by omega
      have p5 : (if (60 : Int) < (xs.length : Int) then 60 else (xs.length : Int)) = (j : Int) := by split <;> omega
      have HTK := Lib.hid (isBools_take j hj (HX.out.below HS.out.bel))
      have hln : (xs.take j).length = j := by rw [List.length_take]; omega
      have hE := fun W hx => HRN.out 7 a cap (xs.take j) (by omega) W hx
      rw [hln, runN_take _ _ _ _ _ _ _ (Nat.le_refl _)] at hE
      have hsm := runN_same ⟨up, good, bad, since⟩ r' f' xs (fun k => (k : Int)) (fun _ => 7) j
      rw [← HQ.out] at hsm
      generalize runN ⟨up, good, bad, since⟩ r' f' xs (fun _ => 7) j = E at *
      obtain ⟨⟨eu, eg, eb, es⟩, em⟩ := E
      obtain ⟨⟨s1, s2, s3⟩, s4⟩ := hsm
      simp only at s1 s2 s3 s4 hE
      subst s1 s2 s3 s4
      have HE := Lib.hid hE
      have hjc : j ≤ cap := HTK.out.1
      have HTK2 := Lib.hid HTK.out.2
      have hm2 : m ≤ 60 := by omega
      clear hE HQ hln HRC HRR HRN HTK HX
      by_cases hlt2 : j < xs.length
      case' pos =>
        have j1 : (j : Int) < xs.length := by omega
        have j2 : ¬ (j : Int) < 60 := by omega
        clear hK
        go_wp2_with fail
      case' neg =>
        have j1 : ¬ (j : Int) < xs.length := by omega
        clear hK
        go_wp2_with fail
      all_goals
        clear j1 hlt
        refine region_mixt 13 [some (.agg #[.bool up, .int .i64 good, .int .i64 bad, .int .i64 since]), some (.agg #[.int .i64 every, .int .i64 wait, .int .i64 rise, .int .i64 fall]), some (.slice a xs.length cap), some (.slice a xs.length cap), some (.int .i64 (xs.length : Int)), some (.int .i64 (j : Int)), some (.slice a j cap), some (.tuple #[.agg #[.bool qu, .int .i64 qg, .int .i64 qb, .int .i64 es], .int .i64 (m : Nat)]), some (.tuple #[.agg #[.bool qu, .int .i64 qg, .int .i64 qb, .int .i64 es], .int .i64 (m : Nat)]), some (.agg #[.bool qu, .int .i64 qg, .int .i64 qb, .int .i64 es]), some (.int .i64 (m : Nat)), none, none]
          [[false, false, false, false, false, false, false, false, false, false, false, false, false], [false, false, false, false, false, false, false, false, false, false, false, false, false], [false, false, false, false, false, false, false, false, false, false, false, false, false], [false, false, false, false, false, false, false, false, false, false, false, false, false], [false, false, false, true, false, false, false, false, false, false, false, false, false], [false, false, false, false, true, false, false, false, false, false, false, false, false], [false, false, true, false, false, true, false, false, false, false, false, false, false], [true, true, false, false, false, false, true, false, false, false, false, false, false], [false, false, false, false, false, false, false, true, false, false, false, false, false], [false, false, false, false, false, false, false, false, true, false, false, false, false], [false, false, false, false, false, false, false, false, true, false, false, false, false], [false, false, false, false, false, false, false, false, false, false, false, false, false], [true, true, true, true, true, true, true, true, true, true, false, true, false]]
          (fun LL xx w9 => MxS wr [] [⟨11, 12, 45, #[.bool false, .int .i64 0, .int .i64 0, .int .i64 0], #[.bool qu, .int .i64 qg, .int .i64 qb, .int .i64 es]⟩] LL xx w9)
          (by kernel_rfl) (by kernel_rfl) (by kernel_rfl) (by kernel_rfl) (by kernel_rfl) (by decide) ?_ ?_ ?_
        · intro x
          exact MxS.start (by simp)
        · simp only [List.take_succ_cons, List.take_zero]
          refine ⟨?_, ?_, ?_, ?_, ?_, ?_, ?_, ?_, ?_, ?_, ?_, ?_, ?_, trivial⟩
          all_goals
            intro L x w9 hS hl hp K9 hK9
            have hs : MxS wr [] [⟨11, 12, 45, #[.bool false, .int .i64 0, .int .i64 0, .int .i64 0], #[.bool qu, .int .i64 qg, .int .i64 qb, .int .i64 es]⟩] L x w9 := hS
            clear hS
            replace hK9 := hK9.out
            simp only [actMix, pickV, List.tail_cons, List.headD_cons, Act.put, List.setIfInBounds_toArray, List.set_cons_zero, List.set_cons_succ] at hK9 ⊢
          · clear hp
            obtain ⟨p0, p1, p2, p3⟩ := pcell (hs.row HS.out.a (by simp))
            go_simp
            with_reducible refine hK9 _ ?_
            exact hs.next 0 _ (by simp [MxI])
          · clear hp
            obtain ⟨k0, k1, k2, k3⟩ := pcell (hs.row HS.out.b (by simp))
            go_simp
            with_reducible refine hK9 _ ?_
            exact hs.next 1 _ (by simp [MxI])
          · clear hp
            go_simp
            with_reducible refine hK9 _ ?_
            exact hs.next 2 _ (by simp [MxI])
          · clear hp
            go_simp
            with_reducible refine hK9 _ ?_
            exact hs.next 3 _ (by simp [MxI])
          · clear hp
            go_simp
            with_reducible refine hK9 _ ?_
            exact hs.next 4 _ (by simp [MxI])
          · clear hp
            go_simp
            with_reducible refine hK9 _ ?_
            exact hs.next 5 _ (by simp [MxI])
          · clear hp
            go_simp
            with_reducible refine hK9 _ ?_
            exact hs.next 6 _ (by simp [MxI])
          · clear hp
            go_simp
            refine (HE.out w9 (HTK2.out.below hs.bel0)).mono ?_
            rintro e w8 ⟨rfl, hB8⟩
            go_simp
            with_reducible refine hK9 _ ?_
            exact (hs.below hB8).next 7 _ (by simp [MxI])
          · clear hp
            go_simp
            with_reducible refine hK9 _ ?_
            exact hs.next 8 _ (by simp [MxI])
          · clear hp
            go_simp
            with_reducible refine hK9 _ ?_
            exact hs.next 9 _ (by simp [MxI])
          · clear hp
            go_simp
            with_reducible refine hK9 _ ?_
            exact hs.next 10 _ (by simp [MxI])
          · clear hp
            go_simp
            with_reducible refine hK9 _ _ ?_
            exact hs.alloc (n := ⟨11, 12, 45, #[.bool false, .int .i64 0, .int .i64 0, .int .i64 0], #[.bool qu, .int .i64 qg, .int .i64 qb, .int .i64 es]⟩) (by simp) hl (by simp) (by simp) (by simp)
          · have hA := allL_mem hp 11 (by decide +kernel)
            obtain ⟨bA, hxA, hgA, hrA⟩ := hs.new ⟨11, 12, 45, #[.bool false, .int .i64 0, .int .i64 0, .int .i64 0], #[.bool qu, .int .i64 qg, .int .i64 qb, .int .i64 es]⟩ (by simp) hA
            clear hp
            simp only at hxA hrA hl
            rw [hl, if_neg (by simp)] at hrA
            rw [hxA] at hK9 ⊢
            rw [if_pos (by rfl)]
            refine wp_store_row 45 _ _ rfl bA #[.bool qu, .int .i64 qg, .int .i64 qb, .int .i64 es] rfl rfl 45 #[.bool false, .int .i64 0, .int .i64 0, .int .i64 0] hrA infoPb rfl (by simp [Value.oneCell']) ?_
            simp only [Act.put]
            with_reducible refine hK9 undef _ ?_
            exact hs.write (n := ⟨11, 12, 45, #[.bool false, .int .i64 0, .int .i64 0, .int .i64 0], #[.bool qu, .int .i64 qg, .int .i64 qb, .int .i64 es]⟩) (by simp) hxA hA (by simp) (by simp) (by simp) _ (by simp)
        intro L x w9 hS hL
        have hs : MxS wr [] [⟨11, 12, 45, #[.bool false, .int .i64 0, .int .i64 0, .int .i64 0], #[.bool qu, .int .i64 qg, .int .i64 qb, .int .i64 es]⟩] L x w9 := hS
        clear hS
        simp only [actMix, pickV, List.tail_cons, List.headD_cons, Act.put, List.setIfInBounds_toArray, List.set_cons_zero, List.set_cons_succ, List.replicate_succ, List.replicate_zero, List.drop_succ_cons, List.drop_zero, List.take_succ_cons, List.take_zero]

        obtain ⟨b15, h15, g15, r15⟩ := hs.new ⟨11, 12, 45, #[.bool false, .int .i64 0, .int .i64 0, .int .i64 0], #[.bool qu, .int .i64 qg, .int .i64 qb, .int .i64 es]⟩ (by simp) (hL 11 (by decide))
        simp only at h15 r15
        rw [if_pos (hL 12 (by decide))] at r15
        rw [h15]
        have HS5 := Lib.hid (HS.out.below hs.bel0)
        have R15 := Lib.hid r15
        clear hs hL h15 r15 HS HE HTK2 g15
        obtain ⟨wd, rfl⟩ : ∃ wd, wd = w9 := ⟨w9, rfl⟩
        go_wp2_with fail
        refine region_mixt 31 [some (.agg #[.int .i64 every, .int .i64 wait, .int .i64 rise, .int .i64 fall]), some (.agg #[.int .i64 e', .int .i64 t', .int .i64 r', .int .i64 f']), some (.agg #[.int .i64 every, .int .i64 wait, .int .i64 rise, .int .i64 fall]), some (.agg #[.int .i64 e', .int .i64 t', .int .i64 r', .int .i64 f']), some (.bool true), some (.bool true), some (.int .i64 (m : Nat)), some (.int .i64 (m : Nat)), some (.bool true), some (.bool true), some (.bool true), some (.pointer (some ⟨b15, 0, none⟩)), some (.bool qu), some (.pointer (some ⟨b7, 0, none⟩)), some (.bool qu), some (.bool true), some (.bool true), some (.bool true), some (.pointer (some ⟨b15, 1, none⟩)), some (.int .i64 qg), some (.pointer (some ⟨b7, 1, none⟩)), some (.int .i64 qg), some (.bool true), some (.bool true), some (.bool true), some (.pointer (some ⟨b15, 2, none⟩)), some (.int .i64 qb), some (.pointer (some ⟨b7, 2, none⟩)), some (.int .i64 qb), some (.bool true), some (.bool true)]
          [[false, false, false, false, false, false, false, false, false, false, false, false, false, false, false, false, false, false, false, false, false, false, false, false, false, false, false, false, false, false, false], [true, false, false, false, false, false, false, false, false, false, false, false, false, false, false, false, false, false, false, false, false, false, false, false, false, false, false, false, false, false, false], [false, false, false, false, false, false, false, false, false, false, false, false, false, false, false, false, false, false, false, false, false, false, false, false, false, false, false, false, false, false, false], [false, true, true, false, false, false, false, false, false, false, false, false, false, false, false, false, false, false, false, false, false, false, false, false, false, false, false, false, false, false, false], [false, true, false, true, false, false, false, false, false, false, false, false, false, false, false, false, false, false, false, false, false, false, false, false, false, false, false, false, false, false, false], [false, false, false, true, true, false, false, false, false, false, false, false, false, false, false, false, false, false, false, false, false, false, false, false, false, false, false, false, false, false, false], [false, false, false, false, false, true, false, false, false, false, false, false, false, false, false, false, false, false, false, false, false, false, false, false, false, false, false, false, false, false, false], [false, false, false, false, false, true, false, false, false, false, false, false, false, false, false, false, false, false, false, false, false, false, false, false, false, false, false, false, false, false, false], [false, false, false, false, false, true, true, true, false, false, false, false, false, false, false, false, false, false, false, false, false, false, false, false, false, false, false, false, false, false, false], [false, false, false, false, false, true, false, false, true, false, false, false, false, false, false, false, false, false, false, false, false, false, false, false, false, false, false, false, false, false, false], [false, false, false, false, false, true, false, false, false, true, false, false, false, false, false, false, false, false, false, false, false, false, false, false, false, false, false, false, false, false, false], [false, false, false, false, false, false, false, false, false, false, true, false, false, false, false, false, false, false, false, false, false, false, false, false, false, false, false, false, false, false, false], [false, false, false, false, false, false, false, false, false, false, true, true, false, false, false, false, false, false, false, false, false, false, false, false, false, false, false, false, false, false, false], [false, false, false, false, false, false, false, false, false, false, true, false, false, false, false, false, false, false, false, false, false, false, false, false, false, false, false, false, false, false, false], [false, false, false, false, false, false, false, false, false, false, true, false, false, true, false, false, false, false, false, false, false, false, false, false, false, false, false, false, false, false, false], [false, false, false, false, false, false, false, false, false, false, true, false, true, false, true, false, false, false, false, false, false, false, false, false, false, false, false, false, false, false, false], [false, false, false, false, false, false, false, false, false, false, true, false, false, false, false, true, false, false, false, false, false, false, false, false, false, false, false, false, false, false, false], [false, false, false, false, false, false, false, false, false, false, true, false, false, false, false, false, true, false, false, false, false, false, false, false, false, false, false, false, false, false, false], [false, false, false, false, false, false, false, false, false, false, false, false, false, false, false, false, false, true, false, false, false, false, false, false, false, false, false, false, false, false, false], [false, false, false, false, false, false, false, false, false, false, false, false, false, false, false, false, false, true, true, false, false, false, false, false, false, false, false, false, false, false, false], [false, false, false, false, false, false, false, false, false, false, false, false, false, false, false, false, false, true, false, false, false, false, false, false, false, false, false, false, false, false, false], [false, false, false, false, false, false, false, false, false, false, false, false, false, false, false, false, false, true, false, false, true, false, false, false, false, false, false, false, false, false, false], [false, false, false, false, false, false, false, false, false, false, false, false, false, false, false, false, false, true, false, true, false, true, false, false, false, false, false, false, false, false, false], [false, false, false, false, false, false, false, false, false, false, false, false, false, false, false, false, false, true, false, false, false, false, true, false, false, false, false, false, false, false, false], [false, false, false, false, false, false, false, false, false, false, false, false, false, false, false, false, false, true, false, false, false, false, false, true, false, false, false, false, false, false, false], [false, false, false, false, false, false, false, false, false, false, false, false, false, false, false, false, false, false, false, false, false, false, false, false, true, false, false, false, false, false, false], [false, false, false, false, false, false, false, false, false, false, false, false, false, false, false, false, false, false, false, false, false, false, false, false, true, true, false, false, false, false, false], [false, false, false, false, false, false, false, false, false, false, false, false, false, false, false, false, false, false, false, false, false, false, false, false, true, false, false, false, false, false, false], [false, false, false, false, false, false, false, false, false, false, false, false, false, false, false, false, false, false, false, false, false, false, false, false, true, false, false, true, false, false, false], [false, false, false, false, false, false, false, false, false, false, false, false, false, false, false, false, false, false, false, false, false, false, false, false, true, false, true, false, true, false, false], [false, false, false, false, false, false, false, false, false, false, false, false, false, false, false, false, false, false, false, false, false, false, false, false, true, false, false, false, false, true, false]]
          (fun LL xx w9 => MxS wd [] [] LL xx w9)
          (by kernel_rfl) (by kernel_rfl) (by kernel_rfl) (by kernel_rfl) (by kernel_rfl) (by decide) ?_ ?_ ?_
        · intro x
          exact MxS.start (by simp)
        · simp only [List.take_succ_cons, List.take_zero]
          refine ⟨?_, ?_, ?_, ?_, ?_, ?_, ?_, ?_, ?_, ?_, ?_, ?_, ?_, ?_, ?_, ?_, ?_, ?_, ?_, ?_, ?_, ?_, ?_, ?_, ?_, ?_, ?_, ?_, ?_, ?_, ?_, trivial⟩
          all_goals
            intro L x w9 hS hl hp K9 hK9
            have hs : MxS wd [] [] L x w9 := hS
            clear hS
            replace hK9 := hK9.out
            simp only [actMix, pickV, List.tail_cons, List.headD_cons, Act.put, List.setIfInBounds_toArray, List.set_cons_zero, List.set_cons_succ] at hK9 ⊢
          · clear hp
            obtain ⟨k0, k1, k2, k3⟩ := pcell (hs.row HS5.out.b (by simp))
            go_simp
            with_reducible refine hK9 _ ?_
            exact hs.next 0 _ (by simp [MxI])
          · clear hp
            go_simp
            refine (HCP.out w9).mono ?_
            rintro e w8 ⟨rfl, hB8⟩
            go_simp
            with_reducible refine hK9 _ ?_
            exact (hs.below hB8).next 1 _ (by simp [MxI])
          · clear hp
            obtain ⟨k0, k1, k2, k3⟩ := pcell (hs.row HS5.out.b (by simp))
            go_simp
            with_reducible refine hK9 _ ?_
            exact hs.next 2 _ (by simp [MxI])
          · clear hp
            go_simp
            refine (HCR.out w9).mono ?_
            rintro e w8 ⟨rfl, hB8⟩
            go_simp
            with_reducible refine hK9 _ ?_
            exact (hs.below hB8).next 3 _ (by simp [MxI])
          · clear hp
            go_simp
            with_reducible refine hK9 _ ?_
            exact hs.next 4 _ (by simp [MxI])
          · clear hp
            go_simp
            with_reducible refine hK9 _ ?_
            exact hs.next 5 _ (by simp [MxI])
          · clear hp
            go_simp
            with_reducible refine hK9 _ ?_
            exact hs.next 6 _ (by simp [MxI])
          · clear hp
            go_simp
            with_reducible refine hK9 _ ?_
            exact hs.next 7 _ (by simp [MxI])
          · clear hp
            go_simp
            with_reducible refine hK9 _ ?_
            exact hs.next 8 _ (by simp [MxI])
          · clear hp
            go_simp
            with_reducible refine hK9 _ ?_
            exact hs.next 9 _ (by simp [MxI])
          · clear hp
            go_simp
            with_reducible refine hK9 _ ?_
            exact hs.next 10 _ (by simp [MxI])
          · clear hp
            go_simp
            with_reducible refine hK9 _ ?_
            exact hs.next 11 _ (by simp [MxI])
          · clear hp
            obtain ⟨p0, p1, p2, p3⟩ := pcell (hs.row R15.out (by simp))
            go_simp
            with_reducible refine hK9 _ ?_
            exact hs.next 12 _ (by simp [MxI])
          · clear hp
            go_simp
            with_reducible refine hK9 _ ?_
            exact hs.next 13 _ (by simp [MxI])
          · clear hp
            obtain ⟨p0, p1, p2, p3⟩ := pcell (hs.row HS5.out.q7 (by simp))
            go_simp
            with_reducible refine hK9 _ ?_
            exact hs.next 14 _ (by simp [MxI])
          · clear hp
            go_simp
            with_reducible refine hK9 _ ?_
            exact hs.next 15 _ (by simp [MxI])
          · clear hp
            go_simp
            with_reducible refine hK9 _ ?_
            exact hs.next 16 _ (by simp [MxI])
          · clear hp
            go_simp
            with_reducible refine hK9 _ ?_
            exact hs.next 17 _ (by simp [MxI])
          · clear hp
            go_simp
            with_reducible refine hK9 _ ?_
            exact hs.next 18 _ (by simp [MxI])
          · clear hp
            obtain ⟨p0, p1, p2, p3⟩ := pcell (hs.row R15.out (by simp))
            go_simp
            with_reducible refine hK9 _ ?_
            exact hs.next 19 _ (by simp [MxI])
          · clear hp
            go_simp
            with_reducible refine hK9 _ ?_
            exact hs.next 20 _ (by simp [MxI])
          · clear hp
            obtain ⟨p0, p1, p2, p3⟩ := pcell (hs.row HS5.out.q7 (by simp))
            go_simp
            with_reducible refine hK9 _ ?_
            exact hs.next 21 _ (by simp [MxI])
          · clear hp
            go_simp
            with_reducible refine hK9 _ ?_
            exact hs.next 22 _ (by simp [MxI])
          · clear hp
            go_simp
            with_reducible refine hK9 _ ?_
            exact hs.next 23 _ (by simp [MxI])
          · clear hp
            go_simp
            with_reducible refine hK9 _ ?_
            exact hs.next 24 _ (by simp [MxI])
          · clear hp
            go_simp
            with_reducible refine hK9 _ ?_
            exact hs.next 25 _ (by simp [MxI])
          · clear hp
            obtain ⟨p0, p1, p2, p3⟩ := pcell (hs.row R15.out (by simp))
            go_simp
            with_reducible refine hK9 _ ?_
            exact hs.next 26 _ (by simp [MxI])
          · clear hp
            go_simp
            with_reducible refine hK9 _ ?_
            exact hs.next 27 _ (by simp [MxI])
          · clear hp
            obtain ⟨p0, p1, p2, p3⟩ := pcell (hs.row HS5.out.q7 (by simp))
            go_simp
            with_reducible refine hK9 _ ?_
            exact hs.next 28 _ (by simp [MxI])
          · clear hp
            go_simp
            with_reducible refine hK9 _ ?_
            exact hs.next 29 _ (by simp [MxI])
          · clear hp
            go_simp
            with_reducible refine hK9 _ ?_
            exact hs.next 30 _ (by simp [MxI])
        intro L x w9 hS hL
        have hs : MxS wd [] [] L x w9 := hS
        clear hS
        simp only [actMix, pickV, List.tail_cons, List.headD_cons, Act.put, List.setIfInBounds_toArray, List.set_cons_zero, List.set_cons_succ, List.replicate_succ, List.replicate_zero, List.drop_succ_cons, List.drop_zero, List.take_succ_cons, List.take_zero]

        have HBE := Lib.hid (HS5.out.bel.trans (hs.bel0.mono HS5.out.bel.size))
        clear hs hL HS5 R15
        go_wp2_with fail
        go_ret
        exact ⟨rfl, HBE.out⟩
end Go.Proofs.Ytklfpnnnoaaiaaa
