/- The reference's Keep. -/
import Derived.Test.YtcmjcpgfnkhnoaaRpC
namespace Go.Proofs.Ytcmjcpgfnkhnoaa
open Go.RowKit Go.Maps

theorem keepL_step {l : List Ent} {ns : List ByteArray} {j : Nat} (hj : j < l.length) : keepL (l.take (j + 1)) ns = if (ns.any fun s => decide (s = l[j].1)) = true then keepL (l.take j) ns ++ [l[j]] else keepL (l.take j) ns := by
  unfold keepL
  rw [List.take_add_one, List.getElem?_eq_getElem hj, Option.toList_some, List.filter_append]
  by_cases h : (ns.any fun s => decide (s = l[j].1)) = true
  · rw [if_pos h, List.filter_cons, if_pos h]; simp
  · rw [if_neg h, List.filter_cons, if_neg h]; simp
theorem any_at {ns : List ByteArray} {N : ByteArray} {k : Nat} (hk : k < ns.length) (h : ns[k] = N) : (ns.any fun s => decide (s = N)) = true :=
  List.any_eq_true.2 ⟨ns[k], List.getElem_mem hk, decide_eq_true h⟩
theorem any_none {ns : List ByteArray} {N : ByteArray} (h : ∀ t ∈ ns, t ≠ N) : (ns.any fun s => decide (s = N)) = false := by
  rw [List.any_eq_false]
  intro t ht
  simpa using h t ht
theorem none_step {ns : List ByteArray} {N : ByteArray} {k : Nat} (hk : k < ns.length) (h : ∀ t ∈ ns.take k, t ≠ N) (hn : ns[k] ≠ N) : ∀ t ∈ ns.take (k + 1), t ≠ N := by
  intro t ht
  rw [List.take_add_one, List.getElem?_eq_getElem hk, Option.toList_some, List.mem_append] at ht
  rcases ht with ht | ht
  · exact h t ht
  · simp at ht; rw [ht]; exact hn
set_option maxHeartbeats 4000000 in
set_option maxRecDepth 100000 in
theorem rkeep22 (a0 : Option Addr) (c0 : Nat) (l : List Ent) (hll : l.length ≤ 1000000) (a : Option Addr) (c : Nat) (ns : List ByteArray) (hl : ns.length ≤ 1000) (w : World) (hx : IsEnts w a0 c0 l) (hn : IsStrs w a c ns) :
    Calls Try.prog 22 #[.slice a0 l.length c0, .slice a ns.length c] w fun e w' => ∃ a' c', e = .returned (.slice a' (keepL l ns).length c') ∧ IsEnts w' a' c' (keepL l ns) ∧ Below w.heap.size w w' ∧ ∀ p, a' = some p → w.heap.size ≤ p.block ∧ p.block < w'.heap.size := by
  obtain ⟨i0, hi, hz0, hz1, hz2⟩ := info_parts infoMark
  have HFF := Lib.hid hx
  have HNN := Lib.hid hn
  clear hx hn
  go_enter Try.func22, Try.ntmps22
  go_wp2_with fail
  go_loopw [5, 13] (fun u i wr => ∃ (j : Nat) (ua : Option Addr) (uc : Nat), j ≤ l.length ∧ i = .int .i64 (j : Int) ∧ u = .slice ua (keepL (l.take j) ns).length uc ∧ Hid (wr.ownsRow w.heap.size 38 2 (.slice ua (keepL (l.take j) ns).length uc) (keepL (l.take j) ns).length (cellsE (keepL (l.take j) ns))) ∧ Hid (Below w.heap.size w wr)) (fun _ i _ => l.length - (intOf i).toNat)
  case atStart =>
    refine ⟨0, _, _, Nat.zero_le _, rfl, rfl, ⟨rfl, .inr ⟨w.heap.size, 0, #[], rfl, Nat.le_refl _, ?_, Nat.le_refl _, Nat.zero_le _, rfl, rfl⟩⟩, below_alloc w _⟩
    exact heap_alloc_new w _
  case round =>
    obtain ⟨j, ua, uc, hj, rfl, rfl, ho, hb⟩ := hrel
    by_cases hlt : j < l.length
    · obtain h0 | ⟨bk, o, rfl, hbk, hc, hcell⟩ := HFF.out.below hb.out
      · subst h0; simp at hlt
      obtain ⟨c1, c2⟩ := hcell j l[j] (by simp [hlt])
      have hstep := keepL_step (ns := ns) hlt
      have hle := keepL_len (l.take j) ns
      rw [List.length_take] at hle
      obtain ⟨f, hfe⟩ : ∃ f, f = l[j] := ⟨_, rfl⟩
      rw [← hfe] at c1 c2 hstep
      clear hcell hfe
      obtain ⟨N, V⟩ := f
      simp only at c1 c2 hstep
      have j1 : (j : Int) < l.length := by omega
      have HST := Lib.hid hstep
      clear hstep
      generalize keepL (l.take j) ns = acc at *
      have hacl : acc.length ≤ 1000000 := by omega
      have HRW := Lib.hid (Row.new wr 38 #[.string N, .int .i64 V])
      have HB2 := Lib.hid (hb.out.alloc hb.out.size (.cells #[.string N, .int .i64 V] 38))
      have HO2 := Lib.hid (ho.out.alloc (.cells #[.string N, .int .i64 V] 38))
      have HNS := Lib.hid (HNN.out.below HB2.out)
      have hws : (wr.alloc (.cells #[.string N, .int .i64 V] 38)).heap.size = wr.heap.size + 1 := World.size_alloc _ _
      have hwl := hb.out.size
      clear hb ho hle
      go_wp2_with fail
      clear c1 c2
      generalize wr.alloc (.cells #[.string N, .int .i64 V] 38) = w2 at *
      obtain ⟨R, hRe⟩ : ∃ R, R = wr.heap.size := ⟨_, rfl⟩
      rw [← hRe] at hws hwl HRW ⊢
      clear hRe hbk
      go_loopw [5, 19] (fun u i wi => ∃ k : Nat, k ≤ ns.length ∧ i = .int .i64 (k : Int) ∧ u = .slice ua acc.length uc ∧ Hid (∀ t ∈ ns.take k, t ≠ N) ∧ Hid (Below w2.heap.size w2 wi)) (fun _ i _ => ns.length - (intOf i).toNat)
      case atStart => exact ⟨0, Nat.zero_le _, rfl, rfl, (fun t ht => by simp at ht), Below.refl _ _⟩
      case round =>
        obtain ⟨k, hk, rfl, rfl, hno, hbi⟩ := hrel
        have hRw : R < wr.heap.size := by have := hbi.out.size; omega
        have e1 : wr.cell? ⟨R, 0, none⟩ = some (.string N) := (HRW.out.below hbi.out).cell 0
        have e2 : wr.cell? ⟨R, 1, none⟩ = some (.int .i64 V) := (HRW.out.below hbi.out).cell 1
        by_cases hkl : k < ns.length
        · obtain h0 | ⟨bi, oi, rfl, hbi2, hci, hcelli⟩ := HNS.out.below hbi.out
          · subst h0; simp at hkl
          have x1 := hcelli k ns[k] (by simp [hkl])
          have hat := fun h => any_at (N := N) hkl h
          have hns := fun h => none_step (N := N) hkl hno.out h
          obtain ⟨X, hxe⟩ : ∃ x, x = ns[k] := ⟨_, rfl⟩
          rw [← hxe] at x1 hat hns
          clear hcelli hxe
          have k1 : (k : Int) < ns.length := by omega
          have hse := strEq X N
          by_cases he : X = N
          · have hst : keepL (l.take (j + 1)) ns = acc ++ [(N, V)] := by rw [HST.out, if_pos (hat he)]
            have HSN := Lib.hid hst
            rw [decide_eq_true he] at hse
            have hnw := cells_ent wr N V 38
            have HNW := Lib.hid hnw
            have HB3 := Lib.hid (HB2.out.trans (hbi.out.mono HB2.out.size))
            have HO4 := Lib.hid ((own_below HO2.out hbi.out).alloc (.cells #[.string N, .int .i64 V] 38))
            have HB4 := Lib.hid (HB3.out.alloc HB3.out.size (.cells #[.string N, .int .i64 V] 38))
            have hwz := HB3.out.size
            clear hst hnw hat hns hno hbi HB3 HNS he
            go_wp2_with (at_builtin; refine wpList_append_own _ rfl _ _ 26 rfl w.heap.size 38 i0 (.agg #[.string ⟨#[]⟩, .int .i64 0]) 2 24 Try.underlying26 hi hz0 hz1 hz2 rfl (by decide) _ _ _ rfl HO4.out ⟨wr.heap.size, 0, none⟩ 1 1 [.string N, .int .i64 V] rfl rfl HNW.out (ent_one N V) (by unfold maxLen; omega) (by omega) (by simp; omega) ?_)
            intro v' w4 hown' hgrow _
            have HB5 : Hid (Below w.heap.size w w4) := HB4.out.grown hgrow HB4.out.size (fun k hk => (HO4.out.lt k hk).1)
            have hown5 : w4.ownsRow w.heap.size 38 2 v' (keepL (l.take (j + 1)) ns).length (cellsE (keepL (l.take (j + 1)) ns)) := by
              rw [HSN.out, List.length_append, cellsE_append]; exact hown'
            obtain ⟨a5, c5, rfl⟩ := own_slice hown5
            have HO5 := Lib.hid hown5
            clear hown' hgrow hown5 HB4 HO4 HNW e1 e2 x1
            go_wp2_with fail
            go_roundw
            case rel => exact ⟨j + 1, a5, c5, hlt, by go_num, rfl, HO5, HB5⟩
            case measure => simp [intOf]; omega
          · have HNO := Lib.hid (hns he)
            rw [decide_eq_false he] at hse
            clear hat hns hno he
            go_wp2_with fail
            go_roundw
            case rel => exact ⟨k + 1, hkl, by go_num, rfl, HNO, hbi⟩
            case measure => simp [intOf]; omega
        · obtain rfl : k = ns.length := by omega
          have hnn := hno.out
          rw [List.take_of_length_le (Nat.le_refl _)] at hnn
          have hne : ¬ ((ns.length : Int) < ns.length) := by omega
          have hst : keepL (l.take (j + 1)) ns = acc := by rw [HST.out, any_none hnn]; rfl
          have HSN := Lib.hid hst
          have HB3 := Lib.hid (HB2.out.trans (hbi.out.mono HB2.out.size))
          have HO3 := Lib.hid (own_below HO2.out hbi.out)
          clear hst hnn hno hbi HB2 HO2 HNS HRW e1 e2
          go_wp2_with fail
          go_roundw
          case rel => exact ⟨j + 1, ua, uc, hlt, by go_num, by rw [HSN.out], by rw [HSN.out]; exact HO3, HB3⟩
          case measure => simp [intOf]; omega
    · obtain rfl : l.length = j := by omega
      rw [List.take_of_length_le (Nat.le_refl _)] at ho ⊢
      obtain ⟨_, hie, hfr⟩ := isEnts_own ho.out
      have HIE := Lib.hid hie
      have HFR := Lib.hid hfr
      clear hie ho hfr
      have hne : ¬ ((l.length : Int) < l.length) := by omega
      go_wp2_with fail
      go_ret
      exact ⟨_, _, rfl, HIE.out, hb.out, HFR.out⟩
end Go.Proofs.Ytcmjcpgfnkhnoaa
