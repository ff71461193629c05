/- stewardlaw18: Few and Own; stewardref18.Check (written by genmgo.py). -/
import Derived.Test.YtlcpkplipfcdaaaDoorMgT
import Derived.Test.YtlcpkplipfcdaaaDoorCut
namespace Go.Proofs.YtlcpkplipfcdaaaDoor
open Go.RowKit

/-- An entry's name, cut, behind an n. -/
def cutE (e : Ent) : Ent := (⟨#[110]⟩ ++ cutS e.1 12, e.2)
def fewE (es : List Ent) (n : Nat) : List Ent := (es.take n).map cutE
theorem fewE_step {es : List Ent} {j : Nat} (hj : j < es.length) : cellsE (fewE es (j + 1)) = cellsE (fewE es j) ++ [.string (⟨#[110]⟩ ++ cutS es[j].1 12), .int .i64 es[j].2] := by
  unfold fewE
  rw [List.take_add_one, List.getElem?_eq_getElem hj, Option.toList_some, List.map_append, cellsE_append]
  rfl
theorem cutE_size (e : Ent) : (cutE e).1.size ≤ 13 := by
  have := cutS_size e.1 12
  show (⟨#[110]⟩ ++ cutS e.1 12 : ByteArray).size ≤ 13
  rw [ByteArray.size_append]
  have : (⟨#[110]⟩ : ByteArray).size = 1 := rfl
  omega
/-- What holds while an entry is appended. -/
structure FeS (w0 : World) (v5 : Value) (j : Nat) (xs : List Value) (N : ByteArray) (V : Int) (L : Nat → Bool) (x : Nat → Value) (w : World) : Prop where
  bel : Below w0.heap.size w0 w
  own : L 15 = false → w.ownsRow w0.heap.size 44 2 v5 j xs
  p14 : L 14 = true → L 15 = false → ∃ b, x 14 = .slice (some ⟨b, 0, none⟩) 1 1 ∧ ∀ (k : Nat) u, [Value.string N, .int .i64 V][k]? = some u → w.cell? ((⟨b, 0, none⟩ : Addr).add k) = some u
  p15 : L 15 = true → L 14 = true ∧ w.ownsRow w0.heap.size 44 2 (x 15) (j + 1) (xs ++ [.string N, .int .i64 V])
theorem FeS.keep {w0 : World} {v5 : Value} {j : Nat} {xs : List Value} {N : ByteArray} {V : Int} {L : Nat → Bool} {x : Nat → Value} {w : World} (h : FeS w0 v5 j xs N V L x w) (i : Nat) (u : Value) (h14 : i ≠ 14) (h15 : i ≠ 15) : FeS w0 v5 j xs N V (setL L i) (updV x i u) w := by
  have e14 : setL L i 14 = L 14 := by simp [setL, Ne.symm h14]
  have e15 : setL L i 15 = L 15 := by simp [setL, Ne.symm h15]
  have x14 : updV x i u 14 = x 14 := by simp [updV, Ne.symm h14]
  have x15 : updV x i u 15 = x 15 := by simp [updV, Ne.symm h15]
  exact ⟨h.bel, by rw [e15]; exact h.own, by rw [e14, e15, x14]; exact h.p14, by rw [e14, e15, x15]; exact h.p15⟩
set_option maxHeartbeats 4000000 in
set_option maxRecDepth 100000 in
theorem few7 (a : Option Addr) (c : Nat) (es : List Ent) (n : Nat) (hn : n ≤ 1000) (hfl : es.length ≤ 9223372036854775807) (w : World) (hf : IsEnts w a c es) :
    Calls Tryd.prog 10 #[.slice a es.length c, .int .i64 (n : Int)] w fun e w' => ∃ u, e = .returned u ∧ w'.ownsRow w.heap.size 44 2 u (fewE es n).length (cellsE (fewE es n)) ∧ Below w.heap.size w w' := by
  obtain ⟨i0, hi, hz0, hz1, hz2⟩ := info_parts infoXEnt
  have HFF := Lib.hid hf
  clear hf
  have hdone : ∀ j, j ≤ n → j ≤ es.length → (¬ j < n ∨ ¬ j < es.length) → fewE es j = fewE es n := fun j h1 h2 h3 => by
    unfold fewE
    rcases h3 with h | h
    · rw [show j = n by omega]
    · rw [List.take_of_length_le (by omega), List.take_of_length_le (by omega)]
  have HDN := Lib.hid hdone
  clear hdone
  go_enter Tryd.func10, Tryd.ntmps10
  go_wp2_with fail
  go_loopw [5, 6] (fun v i wr => ∃ j : Nat, j ≤ n ∧ j ≤ es.length ∧ i = .int .i64 (j : Int) ∧ Hid ((fewE es j).length = j) ∧ Hid (wr.ownsRow w.heap.size 44 2 v j (cellsE (fewE es j))) ∧ Hid (Below w.heap.size w wr)) (fun _ i _ => n - (intOf i).toNat)
  case atStart => exact ⟨0, Nat.zero_le _, Nat.zero_le _, rfl, by simp [Hid, fewE], World.ownsRow_nil _ _ _ _, Below.refl _ _⟩
  case round =>
    obtain ⟨j, hjn, hj, rfl, hlen, ho, hb⟩ := hrel
    by_cases hlt : j < es.length
    · have j1 : (j : Int) < es.length := by omega
      by_cases hnt : j < n
      · have j2 : (j : Int) < n := by omega
        obtain h0 | ⟨bk, o, rfl, hbk, hc, hcell⟩ := HFF.out
        · subst h0; simp at hlt
        obtain ⟨c1, c2⟩ := hcell j es[j] (by simp [hlt])
        have hst := Lib.hid (fewE_step hlt)
        have hln : Hid ((fewE es (j + 1)).length = j + 1) := by show _ = _; unfold fewE; simp; omega
        obtain ⟨f, hfe⟩ : ∃ f, f = es[j] := ⟨_, rfl⟩
        rw [← hfe] at c1 c2 hst
        clear hcell hfe
        have HCX : Hid (∀ W, Calls Tryd.prog 37 #[.string f.1, .int .i64 12] W fun e w' => e = .returned (.string (cutS f.1 12)) ∧ W = w') := fun W => cut11 f.1 12 W
        have hcs := cutS_size f.1 12
        generalize cutS f.1 12 = C at *
        have hcz : ¬ (9223372036854775807 < 1 + C.size) := by omega
        generalize cellsE (fewE es j) = xs at *
        obtain ⟨X, V⟩ := f
        simp only at c1 c2 hst HCX
        go_wp2_with fail
        refine region_mixt 16 [some (u5), some (.slice (some ⟨bk, o, none⟩) es.length c), some (.int .i64 (j : Int)), some (.pointer (some ⟨bk, o + j * 2, none⟩)), some (.pointer (some ⟨bk, o + j * 2, none⟩)), some (.string X), some (.string C), some (.string (⟨#[110]⟩ ++ C)), some (.slice (some ⟨bk, o, none⟩) es.length c), some (.int .i64 (j : Int)), some (.pointer (some ⟨bk, o + j * 2, none⟩)), some (.pointer (some ⟨bk, o + j * 2 + 1, none⟩)), some (.int .i64 V), some (.agg #[.string (⟨#[110]⟩ ++ C), .int .i64 V]), none, none]
          [[false, false, false, false, false, false, false, false, false, false, false, false, false, false, false, false], [false, false, false, false, false, false, false, false, false, false, false, false, false, false, false, false], [false, false, false, false, false, false, false, false, false, false, false, false, false, false, false, false], [false, true, true, false, false, false, false, false, false, false, false, false, false, false, false, false], [false, false, false, true, false, false, false, false, false, false, false, false, false, false, false, false], [false, false, false, false, true, false, false, false, false, false, false, false, false, false, false, false], [false, false, false, false, false, true, false, false, false, false, false, false, false, false, false, false], [false, false, false, false, false, false, true, false, false, false, false, false, false, false, false, false], [false, false, false, false, false, false, false, false, false, false, false, false, false, false, false, false], [false, false, false, false, false, false, false, false, false, false, false, false, false, false, false, false], [false, false, false, false, false, false, false, false, true, true, false, false, false, false, false, false], [false, false, false, false, false, false, false, false, false, false, true, false, false, false, false, false], [false, false, false, false, false, false, false, false, false, false, false, true, false, false, false, false], [false, false, false, false, false, false, false, true, false, false, false, false, true, false, false, false], [false, false, false, false, false, false, false, false, false, false, false, false, false, true, false, false], [true, false, false, false, false, false, true, false, false, false, false, false, false, false, true, false]]
          (fun LL xx w9 => FeS w u5 j xs (⟨#[110]⟩ ++ C) V LL xx w9)
          (by kernel_rfl) (by kernel_rfl) (by kernel_rfl) (by kernel_rfl) (by kernel_rfl) (by decide) ?_ ?_ ?_
        · intro _
          exact ⟨hb.out.drew, fun _ => ho.out.drew, fun h => (by cases h), fun h => (by cases h)⟩
        · simp only [List.take_succ_cons, List.take_zero]
          refine ⟨?_, ?_, ?_, ?_, ?_, ?_, ?_, ?_, ?_, ?_, ?_, ?_, ?_, ?_, ?_, ?_, trivial⟩
          all_goals
            intro L x w9 hS hl hp K hK
            have hs : FeS w u5 j xs (⟨#[110]⟩ ++ C) V L x w9 := hS
            clear hS ho hb
            have r1 : w9.cell? ⟨bk, o + j * 2, none⟩ = some (.string X) := by rw [(bcell hs.bel).1 _ _ hbk]; exact c1
            have r2 : w9.cell? ⟨bk, o + j * 2 + 1, none⟩ = some (.int .i64 V) := by rw [(bcell hs.bel).1 _ _ hbk]; exact c2
            replace hK := hK.out
            simp only [actMix, pickV, List.tail_cons, List.headD_cons, Act.put, List.setIfInBounds_toArray, List.set_cons_zero, List.set_cons_succ] at hK ⊢
          iterate 6
            · clear hp
              go_simp
              with_reducible refine hK _ ?_
              exact hs.keep _ _ (by decide) (by decide)
          · clear hp
            go_simp
            refine (HCX.out _).mono ?_
            rintro e w' ⟨rfl, rfl⟩
            with_reducible refine hK _ ?_
            exact hs.keep _ _ (by decide) (by decide)
          iterate 7
            · clear hp
              go_simp
              with_reducible refine hK _ ?_
              exact hs.keep _ _ (by decide) (by decide)
          · have h15 : L 15 = false := by
              cases h : L 15 with
              | false => rfl
              | true => have := (hs.p15 h).1; rw [hl] at this; cases this
            clear hp
            go_simp
            with_reducible refine hK _ _ ?_
            have hs9 := hs.bel.size
            refine ⟨hs.bel.alloc hs9 _, fun e => (hs.own h15).alloc _, fun _ _ => ⟨w9.heap.size, by simp [updV], cells_ent w9 _ V _⟩, fun h => ?_⟩
            simp [setL, h15] at h
          · have h14 : L 14 = true := allL_mem hp 14 (by decide +kernel)
            obtain ⟨b9, hx9, hc9⟩ := hs.p14 h14 hl
            have ho9 := hs.own hl
            have hs9 := hs.bel.size
            clear hp
            rw [hx9] at hK ⊢
            rw [if_pos (by rfl)]
            refine wp_append_own _ _ _ 22 rfl w.heap.size 44 i0 (.agg #[.string ⟨#[]⟩, .int .i64 0]) 2 24 Tryd.underlying22 hi hz0 hz1 hz2 rfl (by decide) _ _ _ rfl ho9 ⟨b9, 0, none⟩ 1 1 [.string (⟨#[110]⟩ ++ C), .int .i64 V] rfl rfl hc9 (ent_one _ _) (by unfold maxLen; omega) (by omega) hs9 ?_
            intro v' w1 hown1 hgrow _
            have hb1 : Below w.heap.size w w1 := hs.bel.grown hgrow hs9 (fun k hk => (ho9.lt k hk).1)
            simp only [Act.put, List.setIfInBounds_toArray, List.set_cons_zero, List.set_cons_succ]
            with_reducible refine hK _ _ ?_
            refine ⟨hb1, fun h => ?_, fun _ h => ?_, fun _ => ⟨by simp [setL, h14], by simpa [updV] using hown1⟩⟩
            · simp [setL] at h
            · simp [setL] at h
        intro L x w9 hS hL
        have hs : FeS w u5 j xs (⟨#[110]⟩ ++ C) V L x w9 := hS
        have ho9 := (hs.p15 (hL 15 (by decide))).2
        rw [← hst.out] at ho9
        have HO9 := Lib.hid ho9
        have HB9 := Lib.hid hs.bel
        clear hS hL hs ho9 ho hb
        simp only [actMix, pickV, List.tail_cons, List.headD_cons, Act.put, List.setIfInBounds_toArray, List.set_cons_zero, List.set_cons_succ, List.replicate_succ, List.replicate_zero, List.drop_succ_cons, List.drop_zero, List.take_succ_cons, List.take_zero]
        generalize x 15 = v6 at *
        go_wp2_with fail
        go_roundw
        case rel => exact ⟨j + 1, by omega, by omega, by go_num, hln, HO9, HB9⟩
        case measure => simp [intOf]; omega
      · have hd := HDN.out j hjn hj (.inl hnt)
        rw [hd] at ho hlen
        have hle := hlen.out
        have hne : ¬ ((j : Int) < n) := by omega
        go_wp2_with fail
        go_ret
        exact ⟨_, rfl, ho.out, hb.out⟩
    · have hd := HDN.out j hjn hj (.inr hlt)
      rw [hd] at ho hlen
      have hle := hlen.out
      have hne : ¬ ((j : Int) < es.length) := by omega
      go_wp2_with fail
      go_ret
      exact ⟨_, rfl, ho.out, hb.out⟩
set_option maxHeartbeats 4000000 in
set_option maxRecDepth 100000 in
theorem own11 (a : Option Addr) (c : Nat) (es : List Ent) (hl : es.length ≤ 1000) (w : World) (hf : IsEnts w a c es) :
    Calls Tryd.prog 13 #[.slice a es.length c] w fun e w' => ∃ a' c', e = .returned (.slice a' es.length c') ∧ IsEnts w' a' c' es ∧ Below w.heap.size w w' := by
  obtain ⟨i0, hi, hz0, hz1, hz2⟩ := info_parts infoMEnt
  have HFF := Lib.hid hf
  clear hf
  go_enter Tryd.func13, Tryd.ntmps13
  go_wp2_with fail
  go_loopw [3, 8] (fun v i wr => ∃ j : Nat, j ≤ es.length ∧ i = .int .i64 (j : Int) ∧ Hid (wr.ownsRow w.heap.size 72 2 v j (cellsE (es.take j))) ∧ Hid (Below w.heap.size w wr)) (fun _ i _ => es.length - (intOf i).toNat)
  case atStart => exact ⟨0, Nat.zero_le _, rfl, World.ownsRow_nil _ _ _ _, Below.refl _ _⟩
  case round =>
    obtain ⟨j, hj, rfl, ho, hb⟩ := hrel
    by_cases hlt : j < es.length
    · have j1 : (j : Int) < es.length := by omega
      obtain h0 | ⟨bk, o, rfl, hbk, hc, hcell⟩ := HFF.out.below hb.out
      · subst h0; simp at hlt
      obtain ⟨c1, c2⟩ := hcell j es[j] (by simp [hlt])
      have hst := Lib.hid (cellsE_step hlt)
      generalize es[j] = e at *
      obtain ⟨N, V⟩ := e
      simp only at c1 c2 hst
      have hsz := hb.out.size
      have hb1 := hb.out.alloc hsz (.cells #[.string N, .int .i64 V] 44)
      have HB2 := Lib.hid (hb1.alloc hb1.size (.cells #[.string N, .int .i64 V] 72))
      have HO2 := Lib.hid ((ho.out.alloc (.cells #[.string N, .int .i64 V] 44)).alloc (.cells #[.string N, .int .i64 V] 72))
      clear hcell ho hb hb1
      go_wp2_with (at_builtin; refine wpList_append_own _ rfl _ _ 32 rfl w.heap.size 72 i0 (.agg #[.string ⟨#[]⟩, .int .i64 0]) 2 24 Tryd.underlying32 hi hz0 hz1 hz2 rfl (by decide) _ _ _ rfl HO2.out ⟨wr.heap.size + 1, 0, none⟩ 1 1 [.string N, .int .i64 V] rfl rfl (by have := cells_ent (wr.alloc (.cells #[.string N, .int .i64 V] 44)) N V 72; simpa using this) (ent_one _ _) (by unfold maxLen; omega) (by omega) HB2.out.size ?_; intro v' w4 hown' hgrow _; have HB5 : Hid (Below w.heap.size w w4) := HB2.out.grown hgrow HB2.out.size (fun k hk => (HO2.out.lt k hk).1); have HO5 := Lib.hid hown'; clear hown' hgrow HB2 HO2)
      go_roundw
      case rel => exact ⟨j + 1, hlt, by go_num, by rw [hst.out]; exact HO5, HB5⟩
      case measure => simp [intOf]; omega
    · obtain rfl : j = es.length := by omega
      have hne : ¬ ((es.length : Int) < es.length) := by omega
      go_wp2_with fail
      go_ret
      have ho' := ho.out
      rw [List.take_length] at ho'
      obtain ⟨a', c', rfl⟩ := own_slice ho'
      exact ⟨a', c', rfl, (isEnts_own ho').2.1, hb.out⟩
end Go.Proofs.YtlcpkplipfcdaaaDoor
