/- The law ChoiceWhole. -/
import Derived.Test.YtcmjcpgfnkhnoaaLawCa
namespace Go.Proofs.Ytcmjcpgfnkhnoaa
open Go.RowKit

theorem isCands_some {w : World} {g c : Nat} {cs : List Cand} (h : IsCands w (some ⟨g, 0, none⟩) c cs) (hne : cs ≠ []) : g < w.heap.size ∧ ∀ (j : Nat) e, cs[j]? = some e → w.cell? ⟨g, j * 4, none⟩ = some (.string e.nm) ∧ w.cell? ⟨g, j * 4 + 1, none⟩ = some (.int .i64 e.w) ∧ w.cell? ⟨g, j * 4 + 2, none⟩ = some (.int .i64 e.b) ∧ w.cell? ⟨g, j * 4 + 3, none⟩ = some (.float .f64 e.t) := by
  obtain h | ⟨bk, o, ha, hlt, _, hcell⟩ := h
  · exact absurd h hne
  · injection ha with ha
    injection ha with h1 h2
    subst h1 h2
    refine ⟨hlt, fun j e he => ?_⟩
    have := hcell j e he
    rwa [Nat.zero_add] at this
theorem own_baseC {w : World} {b b' : Nat} {e : TypeId} {n m : Nat} {v : Value} {xs : List Value} (h : w.ownsRow b e n v m xs) (hb : b' ≤ b) : w.ownsRow b' e n v m xs := by
  obtain ⟨hl, h0 | ⟨g, cap, cur, rfl, hbb, r⟩⟩ := h
  · exact ⟨hl, .inl h0⟩
  · exact ⟨hl, .inr ⟨g, cap, cur, rfl, Nat.le_trans hb hbb, r⟩⟩
set_option maxHeartbeats 8000000 in
set_option maxRecDepth 100000 in
theorem lawChoiceWhole (a : Option Addr) (c : Nat) (cs0 : List Cand) (hfl : cs0.length ≤ 9223372036854775807) (W : World) (hf : IsCands W a c cs0) :
    Calls Try.prog 6 #[.slice a cs0.length c] W fun e w' => e = .returned (.bool true) ∧ Below W.heap.size W w' := by
  by_cases h0 : cs0 = []
  · subst h0; exact lawChoiceWhole_nil a c W
  have HF := Lib.hid hf
  clear hf
  have hpos0 : 0 < cs0.length := List.length_pos_iff.2 h0
  obtain h | ⟨bk, o, rfl, _, _, _⟩ := HF.out
  · exact absurd h h0
  go_enter Try.func6, Try.ntmps6
  go_wp2_with (go_at_call 17; refine (awake16 _).mono ?_; rintro e w1 ⟨rfl, hb1⟩)
  obtain h | ⟨bk', o', ha, hbk, hc, hcell⟩ := HF.out.below hb1
  · exact absurd h h0
  injection ha with ha
  injection ha with ha1 ha2
  subst ha1 ha2
  have HOW := Lib.hid (own18_some bk o c cs0 hpos0 hfl w1 hbk hc hcell)
  clear hcell HF
  refine HOW.out.mono ?_
  rintro e w2 ⟨u, v, rfl, ho2, hb2⟩
  obtain ⟨xa, xc, rfl⟩ := own_slice ho2
  have hl20 : (cs0.take 20).length ≤ 20 := by simp; omega
  have hpos : 0 < (cs0.take 20).length := by simp; omega
  have hB2 := Lib.hid (hb1.trans (hb2.mono hb1.size))
  have HO2 := Lib.hid (own_baseC ho2 hb1.size)
  clear ho2 hb1 hb2 HOW
  generalize cs0.take 20 = cs at *
  obtain ⟨g, rfl⟩ := own_someC HO2.out hpos
  go_wp2_with fail
  go_loopw [5, 21] (fun _ i wr => ∃ j : Nat, j ≤ cs.length ∧ i = .int .i64 (j : Int) ∧ Hid (wr.ownsRow W.heap.size 54 4 (.slice (some ⟨g, 0, none⟩) cs.length xc) cs.length (cellsC (mskCs cs j))) ∧ Hid (Below W.heap.size W wr)) (fun _ i _ => cs.length - (intOf i).toNat)
  case atStart => exact ⟨0, Nat.zero_le _, rfl, by rw [mskCs_zero]; exact HO2, hB2⟩
  case round =>
    clear HO2 hB2
    obtain ⟨j, hj, rfl, ho, hb⟩ := hrel
    by_cases hlt : j < cs.length
    · obtain ⟨_, q2, q3, _⟩ := cellsC_at _ _ _ (mskCs_at hlt)
      have c2 := ho.out.cellAt (j * 4 + 1) (by omega)
      have c3 := ho.out.cellAt (j * 4 + 2) (by omega)
      rw [q2] at c2
      rw [q3] at c3
      have f2 := ho.out.frozenAt (j * 4 + 1)
      have f3 := ho.out.frozenAt (j * 4 + 2)
      have hms := mskCs_set hlt
      obtain ⟨V, hV⟩ : ∃ V, V = cs[j].w := ⟨_, rfl⟩
      obtain ⟨U, hU⟩ : ∃ U, U = cs[j].b := ⟨_, rfl⟩
      rw [← hV] at c2 hms
      rw [← hU] at c3 hms
      obtain ⟨X, hX⟩ : ∃ X, X = bits .and .i64 V 32767 := ⟨_, rfl⟩
      obtain ⟨Y, hY⟩ : ∃ Y, Y = bits .and .i64 U 65535 := ⟨_, rfl⟩
      have hXb := and_smallC V 32767 (by omega)
      rw [show ((32767 : Nat) : Int) = 32767 from rfl, ← hX] at hms hXb
      rw [show ((65535 : Nat) : Int) = 65535 from rfl, ← hY] at hms
      have hg := ho.out.lt g rfl
      obtain ⟨W1, hW⟩ : ∃ W1, W1 = wr.drew := ⟨_, rfl⟩
      have d2 : W1.cell? ⟨g, j * 4 + 1, none⟩ = some (.int .i64 V) := by rw [hW]; exact c2
      have d3 : W1.cell? ⟨g, j * 4 + 2, none⟩ = some (.int .i64 U) := by rw [hW]; exact c3
      have e2 : W1.frozen? ⟨g, j * 4 + 1, none⟩ = false := by rw [hW]; exact f2
      have e3 : W1.frozen? ⟨g, j * 4 + 2, none⟩ = false := by rw [hW]; exact f3
      have hO1 := ((hW ▸ ho.out.drew : W1.ownsRow _ _ _ _ _ _).stored (j * 4 + 1) (.int .i64 (1 + X))).1
      have hO2 := (hO1.stored (j * 4 + 2) (.int .i64 Y)).1
      rw [hms] at hO2
      have HO2 := Lib.hid hO2
      have HB2 : Hid (Below W.heap.size W ((W1.setCell ⟨g, j * 4 + 1, none⟩ (.int .i64 (1 + X))).setCell ⟨g, j * 4 + 2, none⟩ (.int .i64 Y))) := ((hW ▸ hb.out.drew : Below _ _ W1).setCell (p := ⟨g, j * 4 + 1, none⟩) hg.1 _).setCell (p := ⟨g, j * 4 + 2, none⟩) hg.1 _
      have HWW := Lib.hid hW
      have j1 : (j : Int) < cs.length := by omega
      have hw1 : IntKind.i64.wrap (1 + X) = 1 + X := by simp [IntKind.wrap, IntKind.signed, IntKind.bits]; omega
      have hX' : bits .and .i64 V 32767 = X := hX.symm
      have hY' : bits .and .i64 U 65535 = Y := hY.symm
      clear hO1 hO2 hms ho hb hg hV hU q2 q3 hX hY c2 c3 f2 f3 hW
      go_wp2_with fail
      refine region_mixt 20 [some (.slice (some ⟨g, 0, none⟩) cs.length xc), some (.int .i64 (j : Int)), some (.slice (some ⟨g, 0, none⟩) cs.length xc), some (.int .i64 (j : Int)), some (.slice (some ⟨g, 0, none⟩) cs.length xc), some (.int .i64 (j : Int)), some (.pointer (some ⟨g, j * 4, none⟩)), some (.pointer (some ⟨g, j * 4 + 1, none⟩)), some (.int .i64 V), some (.int .i64 X), some (.int .i64 (1 + X)), some (.slice (some ⟨g, 0, none⟩) cs.length xc), some (.int .i64 (j : Int)), some (.pointer (some ⟨g, j * 4, none⟩)), some (.pointer (some ⟨g, j * 4 + 2, none⟩)), some (.int .i64 U), some (.int .i64 Y), some (.pointer (some ⟨g, j * 4, none⟩)), some (.pointer (some ⟨g, j * 4 + 1, none⟩)), none]
        [[false, false, false, false, false, false, false, false, false, false, false, false, false, false, false, false, false, false, false, false], [false, false, false, false, false, false, false, false, false, false, false, false, false, false, false, false, false, false, false, false], [false, false, false, false, false, false, false, false, false, false, false, false, false, false, false, false, false, false, false, false], [false, false, false, false, false, false, false, false, false, false, false, false, false, false, false, false, false, false, false, false], [false, false, false, false, false, false, false, false, false, false, false, false, false, false, false, false, false, false, false, false], [false, false, false, false, false, false, false, false, false, false, false, false, false, false, false, false, false, false, false, false], [false, false, false, false, true, true, false, false, false, false, false, false, false, false, false, false, false, false, false, false], [false, false, false, false, false, false, true, false, false, false, false, false, false, false, false, false, false, false, false, false], [false, false, false, false, false, false, false, true, false, false, false, false, false, false, false, false, false, false, false, false], [false, false, false, false, false, false, false, false, true, false, false, false, false, false, false, false, false, false, false, false], [false, false, false, false, false, false, false, false, false, true, false, false, false, false, false, false, false, false, false, false], [false, false, false, false, false, false, false, false, false, false, false, false, false, false, false, false, false, false, false, false], [false, false, false, false, false, false, false, false, false, false, false, false, false, false, false, false, false, false, false, false], [false, false, false, false, false, false, false, false, false, false, false, true, true, false, false, false, false, false, false, false], [false, false, false, false, false, false, false, false, false, false, false, false, false, true, false, false, false, false, false, false], [false, false, false, false, false, false, false, false, false, false, false, false, false, false, true, false, false, false, false, false], [false, false, false, false, false, false, false, false, false, false, false, false, false, false, false, true, false, false, false, false], [true, true, false, false, true, true, true, true, true, true, true, false, false, false, false, true, false, false, false, false], [true, true, false, false, true, true, true, true, true, true, true, false, false, false, false, true, false, true, false, false], [true, true, false, false, true, true, true, true, true, true, true, false, false, false, false, true, false, false, true, false]]
        (fun LL _ w1 => MkS W1 g (j * 4 + 1) (1 + X) LL w1)
        (by kernel_rfl) (by kernel_rfl) (by kernel_rfl) (by kernel_rfl) (by kernel_rfl) (by decide) ?_ ?_ ?_
      · intro _
        exact ⟨fun _ => HWW.out.symm, fun h => (by cases h)⟩
      · simp only [List.take_succ_cons, List.take_zero]
        refine ⟨?_, ?_, ?_, ?_, ?_, ?_, ?_, ?_, ?_, ?_, ?_, ?_, ?_, ?_, ?_, ?_, ?_, ?_, ?_, ?_, trivial⟩
        all_goals
          intro LL x w9 hS hl9 hp K hK
          have hs9 : MkS W1 g (j * 4 + 1) (1 + X) LL w9 := hS
          clear hS
          replace hK := hK.out
          simp only [actMix, pickV, List.tail_cons, List.headD_cons, Act.put, List.setIfInBounds_toArray, List.set_cons_zero, List.set_cons_succ] at hK ⊢
        iterate 8
          · clear hp
            go_simp
            with_reducible refine hK _ ?_
            exact hs9.keep _ (by decide)
        · clear hp
          have e13 : LL 19 = false := by
            cases h13 : LL 19
            · rfl
            · rw [(hs9.yes h13).2.1] at hl9; cases hl9
          obtain rfl := hs9.no e13
          go_simp
          with_reducible refine hK _ ?_
          exact hs9.keep _ (by decide)
        iterate 6
          · clear hp
            go_simp
            with_reducible refine hK _ ?_
            exact hs9.keep _ (by decide)
        · clear hp
          have e13 : LL 19 = false := by
            cases h13 : LL 19
            · rfl
            · rw [(hs9.yes h13).2.2] at hl9; cases hl9
          obtain rfl := hs9.no e13
          go_simp
          with_reducible refine hK _ ?_
          exact hs9.keep _ (by decide)
        iterate 3
          · clear hp
            go_simp
            with_reducible refine hK _ ?_
            exact hs9.keep _ (by decide)
        · have h7 := allL_mem hp 8 (by decide +kernel)
          have h11 := allL_mem hp 15 (by decide +kernel)
          clear hp
          obtain rfl := hs9.no hl9
          go_simp
          with_reducible refine hK undef _ ?_
          refine ⟨fun e => ?_, fun _ => ⟨rfl, ?_, ?_⟩⟩
          · simp [setL] at e
          · simpa [setL] using h7
          · simpa [setL] using h11
      · intro LL x w9 hS hall
        have hs9 : MkS W1 g (j * 4 + 1) (1 + X) LL w9 := hS
        obtain ⟨rfl, _, _⟩ := hs9.yes (hall 19 (by decide))
        clear hS hs9 hall
        have e4 : (W1.setCell ⟨g, j * 4 + 1, none⟩ (.int .i64 (1 + X))).frozen? ⟨g, j * 4 + 2, none⟩ = false := by rw [World.frozen?_setCell]; exact e3
        have d4 : (W1.setCell ⟨g, j * 4 + 1, none⟩ (.int .i64 (1 + X))).cell? ⟨g, j * 4 + 2, none⟩ = some (.int .i64 U) := by
          rw [World.cell?_setCell_other _ _ _ _ (by intro e; injection e with _ e; omega)]; exact d3
        generalize W1.setCell ⟨g, j * 4 + 1, none⟩ (.int .i64 (1 + X)) = W9 at *
        simp only [actMix, pickV, List.tail_cons, List.headD_cons, Act.put, List.setIfInBounds_toArray, List.set_cons_zero, List.set_cons_succ, List.replicate_succ, List.replicate_zero, List.drop_succ_cons, List.drop_zero, List.take_succ_cons, List.take_zero]
        go_wp2_with fail
        refine ⟨⟨j + 1, hlt, by go_num, HO2, HB2⟩, by simp [intOf]; omega⟩
    · obtain rfl : cs.length = j := by omega
      rw [mskCs_all] at ho
      have hlD : (cs.map mskC).length = cs.length := List.length_map _
      have HSM : Hid (∀ x ∈ cs.map mskC, Small x) := by
        intro x hx
        obtain ⟨y, _, rfl⟩ := List.mem_map.1 hx
        exact mskC_small y
      have ho2 : wr.ownsRow W.heap.size 54 4 (.slice (some ⟨g, 0, none⟩) cs.length xc) (cs.map mskC).length (cellsC (cs.map mskC)) := by rw [hlD]; exact ho.out
      obtain ⟨_, hie⟩ := isCands_own ho2
      have HIE := Lib.hid hie
      have HB := Lib.hid hb.out
      clear ho ho2 hie hb
      generalize cs.map mskC = D at *
      rw [← hlD] at hl20 hpos hlt ⊢
      clear hlD
      have hne : D ≠ [] := fun h => by rw [h] at hpos; simp at hpos
      have HL := Lib.hid (cleast19 (some ⟨g, 0, none⟩) xc D (by omega) HSM.out wr HIE.out)
      have hz : ¬ (D.length : Int) = 0 := by omega
      have hzb : ((D.length : Int) == 0) = false := by rw [beq_eq_false_iff_ne]; exact hz
      have hnl : ¬ ((D.length : Int) < D.length) := by omega
      have hsf := store_flt Try.prog
      go_wp2_with (go_at_call 19; refine HL.out.mono ?_; rintro e w3 ⟨r, rfl, hr, hb3⟩; obtain ⟨hr0, hr1, hok⟩ := hr.2 hne; obtain ⟨m, rfl⟩ := Int.eq_ofNat_of_zero_le hr0; obtain ⟨hg3, hcell3⟩ := isCands_some (HIE.out.below hb3) hne; have hml : m < D.length := Int.ofNat_lt.1 hr1; have hd1 : decide (D.length ≤ m) = false := decide_eq_false (Nat.not_le.2 hml); have hd2 : decide ((m : Int) < 0) = false := decide_eq_false (by omega); obtain ⟨c1, c2, c3, c4⟩ := hcell3 m D[m] (List.getElem?_eq_getElem hml); have HOK := Lib.hid hok; have HCELL := Lib.hid hcell3; have HB3 := Lib.hid (HB.out.trans (hb3.mono HB.out.size)); clear hr hb3 hok hcell3)
      have HROW := Lib.hid (Row.new w3 54 #[.string D[m].nm, .int .i64 D[m].w, .int .i64 D[m].b, .float .f64 D[m].t])
      have HB4 := Lib.hid (HB3.out.alloc HB3.out.size (.cells #[.string D[m].nm, .int .i64 D[m].w, .int .i64 D[m].b, .float .f64 D[m].t] 54))
      have hs4 : (w3.alloc (.cells #[.string D[m].nm, .int .i64 D[m].w, .int .i64 D[m].b, .float .f64 D[m].t] 54)).heap.size = w3.heap.size + 1 := World.size_alloc _ _
      have HC4 : Hid (∀ (j : Nat) e, D[j]? = some e → (w3.alloc (.cells #[.string D[m].nm, .int .i64 D[m].w, .int .i64 D[m].b, .float .f64 D[m].t] 54)).cell? ⟨g, j * 4, none⟩ = some (.string e.nm) ∧ (w3.alloc (.cells #[.string D[m].nm, .int .i64 D[m].w, .int .i64 D[m].b, .float .f64 D[m].t] 54)).cell? ⟨g, j * 4 + 1, none⟩ = some (.int .i64 e.w) ∧ (w3.alloc (.cells #[.string D[m].nm, .int .i64 D[m].w, .int .i64 D[m].b, .float .f64 D[m].t] 54)).cell? ⟨g, j * 4 + 2, none⟩ = some (.int .i64 e.b) ∧ (w3.alloc (.cells #[.string D[m].nm, .int .i64 D[m].w, .int .i64 D[m].b, .float .f64 D[m].t] 54)).cell? ⟨g, j * 4 + 3, none⟩ = some (.float .f64 e.t)) := by
        intro j e he
        obtain ⟨hc', _⟩ := bcell (below_alloc w3 (.cells #[.string D[m].nm, .int .i64 D[m].w, .int .i64 D[m].b, .float .f64 D[m].t] 54))
        rw [hc' _ _ hg3, hc' _ _ hg3, hc' _ _ hg3, hc' _ _ hg3]
        exact HCELL.out j e he
      obtain ⟨R, hR⟩ : ∃ R, R = w3.heap.size := ⟨_, rfl⟩
      rw [← hR] at HROW hs4 hg3 ⊢
      generalize w3.alloc (.cells #[.string D[m].nm, .int .i64 D[m].w, .int .i64 D[m].b, .float .f64 D[m].t] 54) = w4 at *
      clear HCELL HB3 c1 c2 c3 c4 hR HIE HB HL
      go_loopw [67] (fun i wr => ∃ k : Nat, k ≤ D.length ∧ i = .int .i64 (k : Int) ∧ Below w4.heap.size w4 wr) (fun i _ => D.length - (intOf i).toNat)
      case atStart => exact ⟨0, Nat.zero_le _, rfl, Below.refl _ _⟩
      case round =>
        obtain ⟨k, hk, rfl, hbk⟩ := hrel
        by_cases hlk : k < D.length
        · obtain ⟨c1, c2, c3, c4⟩ := HC4.out k D[k] (List.getElem?_eq_getElem hlk)
          obtain ⟨hc', _⟩ := bcell hbk
          rw [← hc' _ _ (by omega)] at c1 c2 c3 c4
          have r1 : wr.cell? ⟨R, 1, none⟩ = some (.int .i64 D[m].w) := by rw [hc' _ _ (by omega)]; exact HROW.out.cell 1
          have r2 : wr.cell? ⟨R, 2, none⟩ = some (.int .i64 D[m].b) := by rw [hc' _ _ (by omega)]; exact HROW.out.cell 2
          have hRw : R < wr.heap.size := by have := hbk.size; omega
          obtain ⟨wh1, wh2⟩ := whole_ok hml hlk HSM.out (by have := HOK.out k hlk; rwa [Int.toNat_natCast, Int.ofNat_le] at this)
          have s1 := HSM.out _ (List.getElem_mem hml)
          have s2 := HSM.out _ (List.getElem_mem hlk)
          unfold Small at s1 s2
          generalize D[m].w = wm at *
          generalize D[m].b = bm at *
          generalize D[k].w = wi at *
          generalize D[k].b = bi at *
          generalize D[k].nm = ni at *
          generalize D[k].t = ti at *
          have k1 : (k : Int) < D.length := by omega
          have hp1 : 0 ≤ (bi + 1) * wm := Int.mul_nonneg (by omega) (by omega)
          have hp2 : (bi + 1) * wm ≤ 131072 * 131072 := Int.mul_le_mul (by omega) (by omega) (by omega) (by omega)
          have hp3 : 0 ≤ (bm + 1) * wi := Int.mul_nonneg (by omega) (by omega)
          have hp4 : (bm + 1) * wi ≤ 131072 * 131072 := Int.mul_le_mul (by omega) (by omega) (by omega) (by omega)
          have hi1 : bi + 1 ≤ 131072 := by omega
          have hi2 : 0 ≤ bi := by omega
          have hi3 : bm + 1 ≤ 131072 := by omega
          have hi4 : 0 ≤ bm := by omega
          have HBn : Hid (∀ nq, Below w4.heap.size w4 ((wr.alloc (.cells #[.string ni, .int .i64 wi, .int .i64 bi, .float .f64 ti] 54)).drewN nq)) := fun nq => below_drewN (hbk.alloc hbk.size _) nq
          have hbsz := hbk.size
          clear hbk hc' s1 s2
          cases hq : ((bi + 1) * wm == (bm + 1) * wi)
          · clear wh2
            go_wp2_with fail
            go_quiet (fail)
            go_wp2_with fail
            go_roundw
            case rel => exact ⟨k + 1, hlk, by go_num, HBn.out nq⟩
            case measure => simp [intOf]; omega
          · have hkm : ¬ (k : Int) < m := by
              have := wh2 (by simpa using hq)
              omega
            clear wh2
            go_wp2_with fail
            go_quiet (fail)
            go_wp2_with fail
            go_roundw
            case rel => exact ⟨k + 1, hlk, by go_num, HBn.out nq⟩
            case measure => simp [intOf]; omega
        · obtain rfl : D.length = k := by omega
          go_wp2_with fail
          go_ret
          exact ⟨rfl, HB4.out.trans (hbk.mono HB4.out.size)⟩
end Go.Proofs.Ytcmjcpgfnkhnoaa
