/- stewardlaw15.Few, Own. -/
import Derived.Test.YtcmjcpgfnkhnoaaRegT
import Derived.Test.YtcmjcpgfnkhnoaaRoN
namespace Go.Proofs.Ytcmjcpgfnkhnoaa
open Go.RowKit Go.Maps

/-- The first few entries, cut. -/
def fewE (es : List Ent) (n : Nat) : List Ent := (es.take n).map fun e => (cutS e.1 12, e.2)
theorem fewE_step {es : List Ent} {j : Nat} (hj : j < es.length) : cellsE (fewE es (j + 1)) = cellsE (fewE es j) ++ [.string (cutS es[j].1 12), .int .i64 es[j].2] := by
  unfold fewE
  rw [List.take_add_one, List.getElem?_eq_getElem hj, Option.toList_some, List.map_append, cellsE_append]
  rfl
theorem fewE_len (es : List Ent) (n : Nat) : (fewE es n).length ≤ n := by unfold fewE; simp; omega
theorem fewE_size {es : List Ent} {n : Nat} {e : Ent} (h : e ∈ fewE es n) : e.1.size ≤ 12 := by
  unfold fewE at h
  obtain ⟨x, _, rfl⟩ := List.mem_map.1 h
  exact cutS_size _ _
/-- What holds while the region runs. -/
structure FewS (w0 : World) (v5 : Value) (k : Nat) (xs : List Value) (N : ByteArray) (V : Int) (L : Nat → Bool) (x : Nat → Value) (w : World) : Prop where
  bel : Below w0.heap.size w0 w
  own : L 14 = false → w.ownsRow w0.heap.size 34 2 v5 k xs
  p13 : L 13 = true → L 14 = false → ∃ b, x 13 = .slice (some ⟨b, 0, none⟩) 1 1 ∧ ∀ (k : Nat) u, [Value.string N, .int .i64 V][k]? = some u → w.cell? ((⟨b, 0, none⟩ : Addr).add k) = some u
  p14 : L 14 = true → L 13 = true ∧ w.ownsRow w0.heap.size 34 2 (x 14) (k + 1) (xs ++ [.string N, .int .i64 V])
theorem FewS.keep {w0 : World} {v5 : Value} {k : Nat} {xs : List Value} {N : ByteArray} {V : Int} {L : Nat → Bool} {x : Nat → Value} {w : World} (h : FewS w0 v5 k xs N V L x w) (i : Nat) (u : Value) (h14 : i ≠ 13) (h15 : i ≠ 14) : FewS w0 v5 k xs N V (setL L i) (updV x i u) w := by
  refine ⟨h.bel, fun e => h.own ?_, fun e e2 => ?_, fun e => ?_⟩
  · simpa only [setL, if_neg (Ne.symm h15)] using e
  · simp only [setL, if_neg (Ne.symm h14)] at e; simp only [setL, if_neg (Ne.symm h15)] at e2; simp only [updV, if_neg (Ne.symm h14)]; exact h.p13 e e2
  · simp only [setL, if_neg (Ne.symm h15)] at e; simp only [updV, if_neg (Ne.symm h15)]; exact ⟨by simp only [setL]; split; rfl; exact (h.p14 e).1, (h.p14 e).2⟩
set_option maxHeartbeats 4000000 in
set_option maxRecDepth 100000 in
theorem few10 (a : Option Addr) (c : Nat) (es : List Ent) (n : Nat) (hn : n ≤ 1000) (hfl : es.length ≤ 9223372036854775807) (w : World) (hf : IsEnts w a c es) :
    Calls Try.prog 10 #[.slice a es.length c, .int .i64 n] w fun e w' => ∃ u, e = .returned u ∧ w'.ownsRow w.heap.size 34 2 u (fewE es n).length (cellsE (fewE es n)) ∧ Below w.heap.size w w' := by
  obtain ⟨i0, hi, hz0, hz1, hz2⟩ := info_parts infoREnt
  have HFF := Lib.hid hf
  clear hf
  have hdone : ∀ j, j ≤ n → j ≤ es.length → (¬ j < n ∨ ¬ j < es.length) → fewE es j = fewE es n := fun j h1 h2 h3 => by
    unfold fewE
    rcases h3 with h | h
    · rw [show j = n by omega]
    · rw [List.take_of_length_le (by omega), List.take_of_length_le (by omega)]
  have HDN := Lib.hid hdone
  clear hdone
  go_enter Try.func10, Try.ntmps10
  go_wp2_with fail
  go_loopw [5, 6] (fun v i wr => ∃ j : Nat, j ≤ n ∧ j ≤ es.length ∧ i = .int .i64 (j : Int) ∧ Hid ((fewE es j).length = j) ∧ Hid (wr.ownsRow w.heap.size 34 2 v j (cellsE (fewE es j))) ∧ Hid (Below w.heap.size w wr)) (fun _ i _ => n - (intOf i).toNat)
  case atStart => exact ⟨0, Nat.zero_le _, Nat.zero_le _, rfl, by simp [Hid, fewE], World.ownsRow_nil _ _ _ _, Below.refl _ _⟩
  case round =>
    obtain ⟨j, hjn, hj, rfl, hlen, ho, hb⟩ := hrel
    by_cases hlt : j < es.length
    · have j1 : (j : Int) < es.length := by omega
      by_cases hnt : j < n
      · have j2 : (j : Int) < n := by omega
        obtain h0 | ⟨bk, o, rfl, hbk, hc, hcell⟩ := HFF.out
        · subst h0; simp at hlt
        obtain ⟨c1, c2⟩ := hcell j es[j] (by simp [hlt])
        have hst := Lib.hid (fewE_step hlt)
        have hln : Hid ((fewE es (j + 1)).length = j + 1) := by show _ = _; unfold fewE; simp; omega
        obtain ⟨f, hfe⟩ : ∃ f, f = es[j] := ⟨_, rfl⟩
        rw [← hfe] at c1 c2 hst
        clear hcell hfe
        obtain ⟨X, V⟩ := f
        simp only at c1 c2 hst
        have HCX : Hid (∀ W, Calls Try.prog 24 #[.string X, .int .i64 12] W fun e w' => e = .returned (.string (cutS X 12)) ∧ W = w') := fun W => cut11 X 12 W
        generalize cutS X 12 = N at *
        generalize cellsE (fewE es j) = xs at *
        go_wp2_with fail
        refine region_mixt 15 [some (u5), some (.slice (some ⟨bk, o, none⟩) es.length c), some (.int .i64 (j : Int)), some (.pointer (some ⟨bk, o + j * 2, none⟩)), some (.pointer (some ⟨bk, o + j * 2, none⟩)), some (.string X), some (.string N), some (.slice (some ⟨bk, o, none⟩) es.length c), some (.int .i64 (j : Int)), some (.pointer (some ⟨bk, o + j * 2, none⟩)), some (.pointer (some ⟨bk, o + j * 2 + 1, none⟩)), some (.int .i64 V), some (.agg #[.string N, .int .i64 V]), none, none]
          [[false, false, false, false, false, false, false, false, false, false, false, false, false, false, false], [false, false, false, false, false, false, false, false, false, false, false, false, false, false, false], [false, false, false, false, false, false, false, false, false, false, false, false, false, false, false], [false, true, true, false, false, false, false, false, false, false, false, false, false, false, false], [false, false, false, true, false, false, false, false, false, false, false, false, false, false, false], [false, false, false, false, true, false, false, false, false, false, false, false, false, false, false], [false, false, false, false, false, true, false, false, false, false, false, false, false, false, false], [false, false, false, false, false, false, false, false, false, false, false, false, false, false, false], [false, false, false, false, false, false, false, false, false, false, false, false, false, false, false], [false, false, false, false, false, false, false, true, true, false, false, false, false, false, false], [false, false, false, false, false, false, false, false, false, true, false, false, false, false, false], [false, false, false, false, false, false, false, false, false, false, true, false, false, false, false], [false, false, false, false, false, false, true, false, false, false, false, true, false, false, false], [false, false, false, false, false, false, false, false, false, false, false, false, true, false, false], [true, false, false, false, false, false, true, false, false, false, false, false, false, true, false]]
          (fun L x w1 => FewS w u5 j xs N V L x w1)
          (by kernel_rfl) (by kernel_rfl) (by kernel_rfl) (by kernel_rfl) (by kernel_rfl) (by decide) ?_ ?_ ?_
        · intro _
          exact ⟨hb.out.drew, fun _ => ho.out.drew, fun h => (by cases h), fun h => (by cases h)⟩
        · simp only [List.take_succ_cons, List.take_zero]
          refine ⟨?_, ?_, ?_, ?_, ?_, ?_, ?_, ?_, ?_, ?_, ?_, ?_, ?_, ?_, ?_, trivial⟩
          all_goals
            intro L x w9 hS hl hp K hK
            have hs : FewS w u5 j xs N V L x w9 := hS
            clear hS ho hb
            have r1 : w9.cell? ⟨bk, o + j * 2, none⟩ = some (.string X) := by rw [(bcell hs.bel).1 _ _ hbk]; exact c1
            have r2 : w9.cell? ⟨bk, o + j * 2 + 1, none⟩ = some (.int .i64 V) := by rw [(bcell hs.bel).1 _ _ hbk]; exact c2
            replace hK := hK.out
            simp only [actMix, pickV, List.tail_cons, List.headD_cons, Act.put, List.setIfInBounds_toArray, List.set_cons_zero, List.set_cons_succ] at hK ⊢
          iterate 6
            · clear hp
              go_simp
              with_reducible refine hK _ ?_
              exact hs.keep _ _ (by decide) (by decide)
          · clear hp
            go_simp
            refine (HCX.out _).mono ?_
            rintro e w' ⟨rfl, rfl⟩
            with_reducible refine hK _ ?_
            exact hs.keep _ _ (by decide) (by decide)
          iterate 6
            · clear hp
              go_simp
              with_reducible refine hK _ ?_
              exact hs.keep _ _ (by decide) (by decide)
          · have h15 : L 14 = false := by
              cases h : L 14 with
              | false => rfl
              | true => have := (hs.p14 h).1; rw [hl] at this; cases this
            clear hp
            go_simp
            with_reducible refine hK _ _ ?_
            have hs9 := hs.bel.size
            refine ⟨hs.bel.alloc hs9 _, fun e => (hs.own h15).alloc _, fun _ _ => ⟨w9.heap.size, by simp [updV], cells_ent w9 N V _⟩, fun h => ?_⟩
            simp [setL, h15] at h
          · have h14 : L 13 = true := allL_mem hp 13 (by decide +kernel)
            obtain ⟨b9, hx9, hc9⟩ := hs.p13 h14 hl
            have ho9 := hs.own hl
            have hs9 := hs.bel.size
            clear hp
            rw [hx9] at hK ⊢
            rw [if_pos (by rfl)]
            refine wp_append_own _ _ _ 29 rfl w.heap.size 34 i0 (.agg #[.string ⟨#[]⟩, .int .i64 0]) 2 24 Try.underlying29 hi hz0 hz1 hz2 rfl (by decide) _ _ _ rfl ho9 ⟨b9, 0, none⟩ 1 1 [.string N, .int .i64 V] rfl rfl hc9 (ent_one N V) (by unfold maxLen; omega) (by omega) hs9 ?_
            intro v' w1 hown1 hgrow _
            have hb1 : Below w.heap.size w w1 := hs.bel.grown hgrow hs9 (fun k hk => (ho9.lt k hk).1)
            simp only [Act.put, List.setIfInBounds_toArray, List.set_cons_zero, List.set_cons_succ]
            with_reducible refine hK _ _ ?_
            refine ⟨hb1, fun h => ?_, fun _ h => ?_, fun _ => ⟨by simp [setL, h14], by simpa [updV] using hown1⟩⟩
            · simp [setL] at h
            · simp [setL] at h
        intro L x w9 hS hL
        have hs : FewS w u5 j xs N V L x w9 := hS
        have ho9 := (hs.p14 (hL 14 (by decide))).2
        rw [← hst.out] at ho9
        have HO9 := Lib.hid ho9
        have HB9 := Lib.hid hs.bel
        clear hS hL hs ho9 ho hb
        simp only [actMix, pickV, List.tail_cons, List.headD_cons, Act.put, List.setIfInBounds_toArray, List.set_cons_zero, List.set_cons_succ, List.replicate_succ, List.replicate_zero, List.drop_succ_cons, List.drop_zero, List.take_succ_cons, List.take_zero]
        generalize x 14 = v6 at *
        go_wp2_with fail
        go_roundw
        case rel => exact ⟨j + 1, by omega, by omega, by go_num, hln, HO9, HB9⟩
        case measure => simp [intOf]; omega
      · have hd := HDN.out j hjn hj (.inl hnt)
        rw [hd] at ho hlen
        have hle := hlen.out
        have hne : ¬ ((j : Int) < n) := by omega
        go_wp2_with fail
        go_ret
        exact ⟨_, rfl, ho.out, hb.out⟩
    · have hd := HDN.out j hjn hj (.inr hlt)
      rw [hd] at ho hlen
      have hle := hlen.out
      have hne : ¬ ((j : Int) < es.length) := by omega
      go_wp2_with fail
      go_ret
      exact ⟨_, rfl, ho.out, hb.out⟩
set_option maxHeartbeats 4000000 in
set_option maxRecDepth 100000 in
theorem own16 (a : Option Addr) (c : Nat) (es : List Ent) (hfl : es.length ≤ 1000000) (w : World) (hf : IsEnts w a c es) :
    Calls Try.prog 16 #[.slice a es.length c] w fun e w' => ∃ u, e = .returned u ∧ w'.ownsRow w.heap.size 57 2 u es.length (cellsE es) ∧ Below w.heap.size w w' := by
  obtain ⟨i0, hi, hz0, hz1, hz2⟩ := info_parts infoEnt
  have HFF := Lib.hid hf
  clear hf
  go_enter Try.func16, Try.ntmps16
  go_wp2_with fail
  go_loopw [3, 8] (fun v i wr => ∃ j : Nat, j ≤ es.length ∧ i = .int .i64 (j : Int) ∧ Hid (wr.ownsRow w.heap.size 57 2 v j (cellsE (es.take j))) ∧ Hid (Below w.heap.size w wr)) (fun _ i _ => es.length - (intOf i).toNat)
  case atStart => exact ⟨0, Nat.zero_le _, rfl, World.ownsRow_nil _ _ _ _, Below.refl _ _⟩
  case round =>
    obtain ⟨j, hj, rfl, ho, hb⟩ := hrel
    by_cases hlt : j < es.length
    · obtain h0 | ⟨bk, o, rfl, hbk, hc, hcell⟩ := HFF.out.below hb.out
      · subst h0; simp at hlt
      obtain ⟨c1, c2⟩ := hcell j es[j] (by simp [hlt])
      have hst := Lib.hid (cellsE_step hlt)
      obtain ⟨f, hfe⟩ : ∃ f, f = es[j] := ⟨_, rfl⟩
      rw [← hfe] at c1 c2 hst
      clear hcell hfe
      obtain ⟨N, V⟩ := f
      simp only at c1 c2 hst
      have j1 : (j : Int) < es.length := by omega
      have hsz : (wr.alloc (.cells #[.string N, .int .i64 V] 34)).heap.size = wr.heap.size + 1 := World.size_alloc _ _
      have hnews := cells_ent (wr.alloc (.cells #[.string N, .int .i64 V] 34)) N V 57
      rw [hsz] at hnews
      have HNW := Lib.hid hnews
      have HO2 : Hid (((wr.alloc (.cells #[.string N, .int .i64 V] 34)).alloc (.cells #[.string N, .int .i64 V] 57)).ownsRow w.heap.size 57 2 _ j (cellsE (es.take j))) := (ho.out.alloc _).alloc _
      have hgr := hb.out.size
      have hb2 : Hid (Below w.heap.size w ((wr.alloc (.cells #[.string N, .int .i64 V] 34)).alloc (.cells #[.string N, .int .i64 V] 57))) := (hb.out.alloc hgr _).alloc (by rw [hsz]; omega) _
      clear hnews ho hb
      go_wp2_with (at_builtin; refine wpList_append_own _ rfl _ _ 44 rfl w.heap.size 57 i0 (.agg #[.string ⟨#[]⟩, .int .i64 0]) 2 24 Try.underlying44 hi hz0 hz1 hz2 rfl (by decide) _ _ _ rfl HO2.out ⟨wr.heap.size + 1, 0, none⟩ 1 1 [.string N, .int .i64 V] rfl rfl HNW.out (ent_one N V) (by unfold maxLen; omega) (by omega) (by simp; omega) ?_)
      intro v' w2 hown' hgrow _
      have hb3 : Hid (Below w.heap.size w w2) := hb2.out.grown hgrow hb2.out.size (fun k hk => (HO2.out.lt k hk).1)
      rw [← hst.out] at hown'
      have HO3 := Lib.hid hown'
      clear hown' hgrow hb2 HO2 HNW hst
      go_wp2_with fail
      go_roundw
      case rel => exact ⟨j + 1, hlt, by go_num, HO3, hb3⟩
      case measure => simp [intOf]; omega
    · obtain rfl : j = es.length := by omega
      have ho2 := ho.out
      rw [List.take_of_length_le (Nat.le_refl _)] at ho2
      have HO := Lib.hid ho2
      clear ho ho2
      go_wp2_with fail
      go_ret
      exact ⟨_, rfl, HO.out, hb.out⟩
end Go.Proofs.Ytcmjcpgfnkhnoaa
