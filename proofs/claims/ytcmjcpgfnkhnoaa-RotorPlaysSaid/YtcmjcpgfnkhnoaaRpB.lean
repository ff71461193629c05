/- The reference's Pick. -/
import Derived.Test.YtcmjcpgfnkhnoaaRpA
namespace Go.Proofs.Ytcmjcpgfnkhnoaa
open Go.RowKit Go.Maps

/-- What holds while the region runs. -/
structure PkS (w0 : World) (r : List Ent) (L : Nat → Bool) (x : Nat → Value) (w : World) : Prop where
  bel : Below w0.heap.size w0 w
  ord : L 11 = true → L 9 = true
  ord9 : L 9 = true → L 6 = true
  p11 : L 11 = true → ∃ a' c', x 11 = .slice a' r.length c' ∧ w.ownsRow w0.heap.size 38 2 (.slice a' r.length c') r.length (cellsE r)
theorem setL_of {L : Nat → Bool} {j : Nat} (i : Nat) (h : L j = true) : setL L i j = true := by simp only [setL]; split; rfl; exact h
theorem PkS.keep {w0 w w' : World} {r : List Ent} {L : Nat → Bool} {x : Nat → Value} (h : PkS w0 r L x w) (i : Nat) (u : Value) (hi : i ≠ 11) (h9 : i = 9 → L 6 = true) (hw : L 11 = true → w' = w) (hb : Below w.heap.size w w') : PkS w0 r (setL L i) (updV x i u) w' := by
  have e11 : setL L i 11 = L 11 := by simp only [setL, if_neg (Ne.symm hi)]
  have x11 : updV x i u 11 = x 11 := by simp only [updV, if_neg (Ne.symm hi)]
  refine ⟨h.bel.trans (hb.mono h.bel.size), fun e => ?_, fun e => ?_, fun e => ?_⟩
  · rw [e11] at e
    exact setL_of i (h.ord e)
  · by_cases hi9 : i = 9
    · exact setL_of i (h9 hi9)
    · simp only [setL, if_neg (Ne.symm hi9)] at e
      exact setL_of i (h.ord9 e)
  · rw [e11] at e
    rw [x11, hw e]
    exact h.p11 e
theorem cnt_at {es : List Ent} {j : Nat} (hj : j < (once es).length) : (cnt es)[j]'(by unfold cnt; rw [List.length_map]; exact hj) = ((once es)[j].1, lim (once es)[j].2) := by simp [cnt]
set_option maxHeartbeats 8000000 in
set_option maxRecDepth 100000 in
theorem rpick23_nil (p : Value) (a : Option Addr) (c : Nat) (w : World) :
    Calls Try.prog 23 #[p, .slice a 0 c] w fun e w' => e = .returned (.tuple #[p, .string ⟨#[]⟩, .bool false]) ∧ Below w.heap.size w w' := by
  have h1 := Lib.hid (once14 a c [] (by decide) w (.inl rfl))
  rw [show once [] = [] from rfl] at h1
  have h1' : Hid (Calls Try.prog 14 #[.slice a 0 c] w fun e w' => ∃ a' c', e = .returned (.slice a' 0 c') ∧ w'.ownsRow w.heap.size 34 2 (.slice a' 0 c') 0 (cellsE []) ∧ Below w.heap.size w w') := h1.out
  clear h1
  go_enter Try.func23, Try.ntmps23
  go_wp2_with (go_at_call 14; refine h1'.out.mono ?_; rintro e w1 ⟨a1, c1, rfl, _, hb⟩)
  refine bodyPost_ret (v := .tuple #[p, .string ⟨#[]⟩, .bool false]) (by simp [results, Try.results23, go_sem]) rfl ⟨rfl, hb⟩
set_option maxHeartbeats 8000000 in
set_option maxRecDepth 100000 in
theorem rpick23 (a0 : Option Addr) (c0 : Nat) (l : List Ent) (hll : l.length ≤ 100000) (M : Int) (hM : M ≤ 1000000000000000) (hf : ∀ s, -M ≤ ofL l s ∧ ofL l s ≤ M) (a : Option Addr) (c : Nat) (es : List Ent) (hne : es ≠ []) (hl : es.length ≤ 1000) (w : World) (hx : IsEnts w a0 c0 l) (he : IsEnts w a c es) :
    Calls Try.prog 23 #[.slice a0 l.length c0, .slice a es.length c] w fun e w' => ∃ a' c', e = .returned (.tuple #[.slice a' (pickL l (cnt es)).length c', .string (turn (ofL l) (cnt es)), .bool true]) ∧ IsEnts w' a' c' (pickL l (cnt es)) ∧ Below w.heap.size w w' ∧ ∀ p, a' = some p → w.heap.size ≤ p.block ∧ p.block < w'.heap.size := by
  have HON := Lib.hid (once14 a c es (by omega) w he)
  have hpos : 0 < (once es).length := List.length_pos_iff.2 (once_ne hne)
  have hol := once_len es
  have hA := Lib.hid (cnt_apart es)
  have hlE : (cnt es).length = (once es).length := by unfold cnt; rw [List.length_map]
  have HW : Hid (∀ e ∈ cnt es, 1 ≤ e.2 ∧ e.2 ≤ 65535) := by
    intro e h
    unfold cnt at h
    obtain ⟨x, _, rfl⟩ := List.mem_map.1 h
    exact lim_one _
  have HCA : Hid (∀ (j : Nat) (hj : j < (once es).length), (cnt es)[j]'(by rw [hlE]; exact hj) = ((once es)[j].1, lim (once es)[j].2)) := fun j hj => cnt_at hj
  have HX := Lib.hid hx
  have HF := Lib.hid hf
  clear hx he hf
  generalize cnt es = E at *
  generalize once es = O at *
  go_enter Try.func23, Try.ntmps23
  have hz : ((O.length : Int) == 0) = false := by rw [beq_eq_false_iff_ne]; omega
  go_wp2_with (go_at_call 14; refine HON.out.mono ?_; rintro e w1 ⟨oa, oc, rfl, ho, hb⟩)
  obtain ⟨_, hoe, _⟩ := isEnts_own ho
  have HOE := Lib.hid hoe
  have HX1 := Lib.hid (HX.out.below hb)
  have HB1 := Lib.hid hb
  clear ho hoe hb HON HX
  go_loopw [0, 8, 22] (fun u s i wr => ∃ (j : Nat) (ua : Option Addr) (uc : Nat), j ≤ O.length ∧ i = .int .i64 (j : Int) ∧ u = .slice ua (addL l (E.take j)).length uc ∧ s = .int .i64 (sumW (E.take j)) ∧ Hid (IsEnts wr ua uc (addL l (E.take j))) ∧ Hid (Below w1.heap.size w1 wr)) (fun _ _ i _ => O.length - (intOf i).toNat)
  case atStart => exact ⟨0, _, _, Nat.zero_le _, rfl, rfl, rfl, HX1, Below.refl _ _⟩
  case round =>
    obtain ⟨j, ua, uc, hj, rfl, rfl, rfl, hie, hbl⟩ := hrel
    by_cases hlt : j < O.length
    · have hltE : j < E.length := by omega
      obtain h0 | ⟨bk, o, rfl, hbk, hcc, hcell⟩ := HOE.out.below hbl.out
      · subst h0; simp at hlt
      obtain ⟨c1, c2⟩ := hcell j O[j] (by simp [hlt])
      have hstep := addL_step l hltE
      have hsum := sumW_step hltE
      have hEj := HCA.out j hlt
      have hll2 := addL_len (E.take j) l
      have hWt : ∀ e ∈ E.take j, 1 ≤ e.2 ∧ e.2 ≤ 65535 := fun e he => HW.out e (List.mem_of_mem_take he)
      have hb1 := addAll_bound (hA.out.take j) hWt (ofL l) O[j].1
      have hb2 := sumW_bound (E.take j) hWt
      have hb3 : (E.take j).length ≤ 1000 := by simp; omega
      have hb4 := HF.out O[j].1
      rw [← ofL_add] at hb1
      rw [hEj] at hstep hsum
      obtain ⟨f, hfe⟩ : ∃ f, f = O[j] := ⟨_, rfl⟩
      rw [← hfe] at c1 c2 hstep hsum hb1 hb4
      clear hcell hfe hEj
      obtain ⟨N, V⟩ := f
      simp only at c1 c2 hstep hsum hb1 hb4
      have hlv := lim_one V
      obtain ⟨S, hSe⟩ : ∃ S, S = sumW (E.take j) := ⟨_, rfl⟩
      rw [← hSe] at hsum hb2 ⊢
      obtain ⟨cur, hcur⟩ : ∃ cur, cur = addL l (E.take j) := ⟨_, rfl⟩
      rw [← hcur] at hstep hie hll2 hb1 ⊢
      have hcl : cur.length ≤ 101000 := by omega
      have hS1 : 0 ≤ S := by omega
      have hS2 : S ≤ 65535000 := by omega
      obtain ⟨P, hP⟩ : ∃ P, P = ofL cur N := ⟨_, rfl⟩
      obtain ⟨Q, hQ⟩ : ∃ Q, Q = lim V := ⟨_, rfl⟩
      rw [← hP, ← hQ] at hstep
      rw [← hP] at hb1
      rw [← hQ] at hlv hsum
      have hPQ : IntKind.i64.wrap (P + Q) = P + Q := by simp [IntKind.wrap, IntKind.signed, IntKind.bits]; omega
      have HP := Lib.hid hP
      have HQ := Lib.hid hQ
      have HST := Lib.hid hstep
      have HSU := Lib.hid hsum
      have j1 : (j : Int) < O.length := by omega
      have hP1 : -1000000000000000 ≤ P := by omega
      have hP2 : P ≤ 1000000000065535 := by omega
      clear hstep hsum hb1 hb2 hb3 hb4 hWt hSe hcur hP hQ hll2 hltE
      have hw35 := weight35 V
      rw [← HQ.out] at hw35
      go_wp2_with fail
      obtain ⟨R, hR⟩ : ∃ R, R = wr.heap.size := ⟨_, rfl⟩
      have HBA := Lib.hid (hbl.out.alloc hbl.out.size (.cells #[.string N, .int .i64 V] 34))
      have HIA := Lib.hid (hie.out.below (below_alloc wr (.cells #[.string N, .int .i64 V] 34)))
      have HRA := Lib.hid (Row.new wr 34 #[.string N, .int .i64 V])
      have hsz : (wr.alloc (.cells #[.string N, .int .i64 V] 34)).heap.size = wr.heap.size + 1 := World.size_alloc _ _
      rw [← hR] at HRA hsz ⊢
      obtain ⟨W1, hW1⟩ : ∃ W1, W1 = (wr.alloc (.cells #[.string N, .int .i64 V] 34)).drew := ⟨_, rfl⟩
      have HB1' : Hid (Below w1.heap.size w1 W1) := by rw [hW1]; exact HBA.out.drew
      have HI1 : Hid (IsEnts W1 ua uc cur) := by rw [hW1]; exact HIA.out
      have HR1 : Hid (Row W1 R 34 #[.string N, .int .i64 V]) := by rw [hW1]; exact HRA.out
      have hs1 : W1.heap.size = R + 1 := by rw [hW1]; exact hsz
      have HWW := Lib.hid hW1
      clear hie hbl HBA HIA HRA hR hW1 hsz c1 c2
      refine region_mixt 12 [some (.slice ua cur.length uc), some (.pointer (some ⟨R, 0, none⟩)), some (.string N), some (.slice ua cur.length uc), some (.pointer (some ⟨R, 0, none⟩)), some (.string N), some (.int .i64 P), some (.pointer (some ⟨R, 1, none⟩)), some (.int .i64 V), some (.int .i64 Q), some (.int .i64 (P + Q)), none]
        [[false, false, false, false, false, false, false, false, false, false, false, false], [false, false, false, false, false, false, false, false, false, false, false, false], [false, true, false, false, false, false, false, false, false, false, false, false], [false, false, false, false, false, false, false, false, false, false, false, false], [false, false, false, false, false, false, false, false, false, false, false, false], [false, false, false, false, true, false, false, false, false, false, false, false], [false, false, false, true, false, true, false, false, false, false, false, false], [false, false, false, false, false, false, false, false, false, false, false, false], [false, false, false, false, false, false, false, true, false, false, false, false], [false, false, false, false, false, false, true, false, true, false, false, false], [false, false, false, false, false, false, true, false, false, true, false, false], [true, false, true, false, false, false, false, false, false, true, true, false]]
        (fun LL x w1 => PkS W1 (setM cur N (P + Q)) LL x w1)
        (by kernel_rfl) (by kernel_rfl) (by kernel_rfl) (by kernel_rfl) (by kernel_rfl) (by decide) ?_ ?_ ?_
      · intro _
        exact HWW.out ▸ ⟨Below.refl _ _, fun h => (by cases h), fun h => (by cases h), fun h => (by cases h)⟩
      · simp only [List.take_succ_cons, List.take_zero]
        refine ⟨?_, ?_, ?_, ?_, ?_, ?_, ?_, ?_, ?_, ?_, ?_, ?_, trivial⟩
        all_goals
          intro LL x w9 hS hl9 hp K hK
          have hs9 : PkS W1 (setM cur N (P + Q)) LL x w9 := hS
          clear hS
          have r1 : w9.cell? ⟨R, 0, none⟩ = some (.string N) := by rw [(bcell hs9.bel).1 _ _ (by omega)]; exact HR1.out.cell 0
          have r2 : w9.cell? ⟨R, 1, none⟩ = some (.int .i64 V) := by rw [(bcell hs9.bel).1 _ _ (by omega)]; exact HR1.out.cell 1
          replace hK := hK.out
          simp only [actMix, pickV, List.tail_cons, List.headD_cons, Act.put, List.setIfInBounds_toArray, List.set_cons_zero, List.set_cons_succ] at hK ⊢
        iterate 6
          · clear hp
            go_simp
            with_reducible refine hK _ ?_
            exact hs9.keep _ _ (by decide) (fun h => absurd h (by decide)) (fun _ => rfl) (Below.refl _ _)
        · clear hp
          have e11 : LL 11 = false := by
            cases h : LL 11
            · rfl
            · rw [hs9.ord9 (hs9.ord h)] at hl9; cases hl9
          have hof := of12 ua uc cur (by omega) N w9 (HI1.out.below hs9.bel)
          rw [← HP.out] at hof
          go_simp
          refine hof.mono ?_
          rintro e w' ⟨rfl, hbo⟩
          with_reducible refine hK _ ?_
          exact hs9.keep _ _ (by decide) (fun h => absurd h (by decide)) (fun h => by rw [e11] at h; cases h) hbo
        iterate 2
          · clear hp
            go_simp
            with_reducible refine hK _ ?_
            exact hs9.keep _ _ (by decide) (fun h => absurd h (by decide)) (fun _ => rfl) (Below.refl _ _)
        · have h6 := allL_mem hp 6 (by decide +kernel)
          clear hp
          go_simp
          refine (hw35 _).mono ?_
          rintro e w' ⟨rfl, rfl⟩
          with_reducible refine hK _ ?_
          exact hs9.keep _ _ (by decide) (fun _ => h6) (fun _ => rfl) (Below.refl _ _)
        · clear hp
          go_simp
          with_reducible refine hK _ ?_
          exact hs9.keep _ _ (by decide) (fun h => absurd h (by decide)) (fun _ => rfl) (Below.refl _ _)
        · have h9 := allL_mem hp 9 (by decide +kernel)
          clear hp
          have hst := set34 ua uc cur (by omega) N (P + Q) w9 (HI1.out.below hs9.bel)
          go_simp
          refine hst.mono ?_
          rintro e w' ⟨a', c', rfl, ho', hbo⟩
          with_reducible refine hK _ _ ?_
          refine ⟨hs9.bel.trans (hbo.mono hs9.bel.size), fun _ => setL_of _ h9, fun _ => setL_of _ (hs9.ord9 h9), fun _ => ?_⟩
          · exact ⟨a', c', by simp [updV], own_base ho' hs9.bel.size⟩
      · intro LL x w9 hS hall
        have hs9 : PkS W1 (setM cur N (P + Q)) LL x w9 := hS
        obtain ⟨a', c', hx11, ho9⟩ := hs9.p11 (hall 11 (by decide))
        have r2 : w9.cell? ⟨R, 1, none⟩ = some (.int .i64 V) := by rw [(bcell hs9.bel).1 _ _ (by omega)]; exact HR1.out.cell 1
        have HO9 := Lib.hid ho9
        have HB9 := Lib.hid (HB1'.out.trans (hs9.bel.mono HB1'.out.size))
        clear hS hs9 hall ho9
        simp only [actMix, pickV, List.tail_cons, List.headD_cons, Act.put, List.setIfInBounds_toArray, List.set_cons_zero, List.set_cons_succ, List.replicate_succ, List.replicate_zero, List.drop_succ_cons, List.drop_zero, List.take_succ_cons, List.take_zero]
        rw [hx11]
        clear hx11
        go_wp2_with (go_at_call 35; refine (hw35 _).mono ?_; rintro e w' ⟨rfl, rfl⟩)
        obtain ⟨_, hie9, _⟩ := isEnts_own HO9.out
        rw [← HST.out] at hie9 ⊢
        go_roundw
        case rel => exact ⟨j + 1, a', c', hlt, by go_num, rfl, by rw [HSU.out], hie9, HB9⟩
        case measure => simp [intOf]; omega
    · obtain rfl : j = O.length := by omega
      have hET : E.take O.length = E := by rw [← hlE]; exact List.take_length
      have hFC : ofL (addL l E) = addAll (ofL l) E := ofL_add E l
      have hPK : pickL l E = setM (addL l E) (bst (ofL (addL l E)) E O.length) (ofL (addL l E) (bst (ofL (addL l E)) E O.length) - sumW E) := by
        unfold pickL; rw [turn_bst (ofL l) hA.out, ← hFC, hlE]
      have hTN : turn (ofL l) E = bst (ofL (addL l E)) E O.length := by rw [turn_bst (ofL l) hA.out, ← hFC, hlE]
      have hll2 := addL_len E l
      have hb2 := sumW_bound E HW.out
      have hbd : ∀ s, -1000000000000000 ≤ ofL (addL l E) s ∧ ofL (addL l E) s ≤ 1000000065535000 := by
        intro s
        have hb1 := addAll_bound hA.out HW.out (ofL l) s
        have hb4 := HF.out s
        rw [hFC]; omega
      have hnm : ∀ (i : Nat) (hi : i < O.length), nm E i = O[i].1 := by
        intro i hi
        rw [nm_eq (by omega), HCA.out i hi]
      rw [hET] at hie ⊢
      obtain ⟨cur, hcur⟩ : ∃ cur, cur = addL l E := ⟨_, rfl⟩
      obtain ⟨S, hSe⟩ : ∃ S, S = sumW E := ⟨_, rfl⟩
      rw [← hcur] at hie hPK hTN hll2 hbd ⊢
      rw [← hSe] at hPK hb2 ⊢
      have hcl : cur.length ≤ 101000 := by omega
      have hS1 : 0 ≤ S := by omega
      have hS2 : S ≤ 65535000 := by omega
      have HPK := Lib.hid hPK
      have HTN := Lib.hid hTN
      have HBD := Lib.hid hbd
      have HNM := Lib.hid hnm
      have HBL := Lib.hid hbl.out
      have HIE := Lib.hid hie.out
      obtain ⟨B, hB⟩ : ∃ B, B = bst (ofL cur) E := ⟨_, rfl⟩
      have HB0 : Hid (B 0 = O[0].1) := by rw [hB]; exact hnm 0 hpos
      have HBS : Hid (∀ (i : Nat) (hi : i < O.length), B (i + 1) = if ofL cur (B i) < ofL cur O[i].1 then O[i].1 else B i) := by
        intro i hi
        rw [← hnm i hi, hB]; rfl
      rw [← hB] at HPK HTN
      obtain h0 | ⟨bk, o, hoe, hbk, hcc, hcell⟩ := HOE.out.below hbl.out
      · subst h0; simp at hpos
      obtain ⟨c1, c2⟩ := hcell 0 O[0] (by simp [hpos])
      rw [← HB0.out, Nat.zero_mul, Nat.add_zero] at c1
      subst hoe
      have hj0 : ¬ (O.length : Int) < O.length := by omega
      have j1 : (0 : Int) < O.length := by omega
      clear hcell c2 hET hFC hPK hTN hll2 hb2 hbd hnm hB hcur hSe hie hbl hlt hj
      go_wp2_with fail
      obtain ⟨wv, rfl⟩ : ∃ wv, wv = wr := ⟨wr, rfl⟩
      go_loopw [11, 50] (fun b i wr => ∃ j : Nat, j ≤ O.length ∧ i = .int .i64 (j : Int) ∧ b = .string (B j) ∧ Hid (Below wv.heap.size wv wr)) (fun _ i _ => O.length - (intOf i).toNat)
      case atStart => exact ⟨0, Nat.zero_le _, rfl, rfl, Below.refl _ _⟩
      case round =>
        obtain ⟨j, hj, rfl, rfl, hb2⟩ := hrel
        clear c1 j1
        by_cases hlt : j < O.length
        · have hbw : Below w1.heap.size w1 wr := HBL.out.trans (hb2.out.mono HBL.out.size)
          obtain h0 | ⟨bk', o', hoe, hbk', _, hcell⟩ := HOE.out.below hbw
          · subst h0; simp at hlt
          cases hoe
          obtain ⟨c1, c2⟩ := hcell j O[j] (by simp [hlt])
          have hbs := HBS.out j hlt
          have hbd1 := HBD.out O[j].1
          have hbd2 := HBD.out (B j)
          obtain ⟨f, hfe⟩ : ∃ f, f = O[j] := ⟨_, rfl⟩
          rw [← hfe] at c1 c2 hbs hbd1
          clear hcell hfe
          obtain ⟨N, V⟩ := f
          simp only at c1 c2 hbs hbd1
          obtain ⟨P, hP⟩ : ∃ P, P = ofL cur N := ⟨_, rfl⟩
          obtain ⟨Q, hQ⟩ : ∃ Q, Q = ofL cur (B j) := ⟨_, rfl⟩
          rw [← hP, ← hQ] at hbs
          rw [← hP] at hbd1
          rw [← hQ] at hbd2
          obtain ⟨T, hT⟩ : ∃ T, T = B j := ⟨_, rfl⟩
          rw [← hT] at hbs hQ ⊢
          have HP := Lib.hid hP
          have HQ := Lib.hid hQ
          have HT := Lib.hid hT
          have j1 : (j : Int) < O.length := by omega
          have HIA := Lib.hid (HIE.out.below (hb2.out.alloc hb2.out.size (.cells #[.string N, .int .i64 V] 34)))
          have HBA := Lib.hid (hb2.out.alloc hb2.out.size (.cells #[.string N, .int .i64 V] 34))
          have HBSJ := Lib.hid hbs
          clear hP hQ hT hbs hbw hbk' hbk
          have HRA := Lib.hid (Row.new wr 34 #[.string N, .int .i64 V])
          have hsz : (wr.alloc (.cells #[.string N, .int .i64 V] 34)).heap.size = wr.heap.size + 1 := World.size_alloc _ _
          have HSZ := Lib.hid hsz
          clear hsz
          go_wp2_with fail
          clear c1 c2
          have hof := of12 ua uc cur (by omega) N _ HIA.out
          refine hof.mono ?_
          rintro e w2 ⟨rfl, hbo⟩
          rw [← HP.out]
          clear hof
          have r1 : w2.cell? ⟨wr.heap.size, 0, none⟩ = some (.string N) := by rw [(bcell hbo).1 _ _ (by rw [HSZ.out]; omega)]; exact HRA.out.cell 0
          have HI2 := Lib.hid (HIA.out.below hbo)
          have HB2 := Lib.hid (HBA.out.trans (hbo.mono HBA.out.size))
          have HS2 : Hid (wr.heap.size + 1 ≤ w2.heap.size) := by have := hbo.size; rw [HSZ.out] at this; exact this
          clear hbo HIA HBA hb2 HRA HSZ
          go_wp2_with fail
          have hof := of12 ua uc cur (by omega) T _ HI2.out
          refine hof.mono ?_
          rintro e w3 ⟨rfl, hbo⟩
          rw [← HQ.out]
          clear hof
          have r2 : w3.cell? ⟨wr.heap.size, 0, none⟩ = some (.string N) := by rw [(bcell hbo).1 _ _ (by have := HS2.out; omega)]; exact r1
          have HB3 := Lib.hid (HB2.out.trans (hbo.mono HB2.out.size))
          clear hbo HI2 HB2 HS2 r1
          by_cases hg : Q < P
          · have hbj : B (j + 1) = N := by rw [HBSJ.out, if_pos hg]
            have HBJ := Lib.hid hbj
            clear hbj HBSJ
            go_wp2_with fail
            go_roundw
            case rel => exact ⟨j + 1, hlt, by go_num, by rw [HBJ.out], HB3⟩
            case measure => simp [intOf]; omega
          · have hbj : B (j + 1) = T := by rw [HBSJ.out, if_neg hg]
            have HBJ := Lib.hid hbj
            clear hbj HBSJ
            go_wp2_with fail
            go_roundw
            case rel => exact ⟨j + 1, hlt, by go_num, by rw [HBJ.out], HB3⟩
            case measure => simp [intOf]; omega
        · obtain rfl : j = O.length := by omega
          have hbd2 := HBD.out (B O.length)
          obtain ⟨T, hT⟩ : ∃ T, T = B O.length := ⟨_, rfl⟩
          rw [← hT] at hbd2 HTN HPK ⊢
          obtain ⟨Q, hQ⟩ : ∃ Q, Q = ofL cur T := ⟨_, rfl⟩
          rw [← hQ] at hbd2 HPK
          have HQ := Lib.hid hQ
          have hQS : IntKind.i64.wrap (Q - S) = Q - S := by simp [IntKind.wrap, IntKind.signed, IntKind.bits]; omega
          have HI2 := Lib.hid (HIE.out.below hb2.out)
          clear hT hQ HBS HB0 HBD HNM hlt hj
          go_wp2_with fail
          have hof := of12 ua uc cur (by omega) T _ HI2.out
          refine hof.mono ?_
          rintro e w2 ⟨rfl, hbo⟩
          rw [← HQ.out]
          clear hof
          have HI3 := Lib.hid (HI2.out.below hbo)
          have HB3 := Lib.hid (hb2.out.trans (hbo.mono hb2.out.size))
          clear hbo HI2 hb2
          go_wp2_with fail
          have hst := set34 ua uc cur (by omega) T (Q - S) _ HI3.out
          refine hst.mono ?_
          rintro e w3 ⟨a', c', rfl, ho', hbo⟩
          clear hst
          obtain ⟨_, hie9, hfr⟩ := isEnts_own ho'
          have HIE9 := Lib.hid hie9
          have HFR : Hid (∀ p, a' = some p → w.heap.size ≤ p.block ∧ p.block < w3.heap.size) := fun p hp => by
            have h1 := hfr p hp
            have h2 := HB1.out.size
            have h3 := HBL.out.size
            have h4 := HB3.out.size
            omega
          clear hfr
          have HB4 := Lib.hid (HBL.out.trans ((HB3.out.trans (hbo.mono HB3.out.size)).mono HBL.out.size))
          clear ho' hie9 hbo HB3 HI3
          go_wp2_with fail
          have hP := HPK.out
          have hI := HIE9.out
          rw [← hP] at hI ⊢
          refine bodyPost_ret (v := .tuple #[.slice a' (pickL l E).length c', .string T, .bool true]) (by simp [results, Try.results23, go_sem]) rfl ⟨a', c', by rw [HTN.out], hI, HB1.out.trans (HB4.out.mono HB1.out.size), HFR.out⟩
end Go.Proofs.Ytcmjcpgfnkhnoaa
