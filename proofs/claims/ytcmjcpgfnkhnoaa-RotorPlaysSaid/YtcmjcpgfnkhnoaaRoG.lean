/- stewardref15.Once; the fixed fact of the law. -/
import Derived.Test.YtcmjcpgfnkhnoaaRoF
import Derived.Lib.SlicesS
namespace Go.Proofs.Ytcmjcpgfnkhnoaa
open Go.RowKit Go.Maps

/-- What the loop holds. -/
structure OnceS (w : World) (es : List Ent) (a : Option Addr) (c : Nat) (j : Nat) (wr : World) : Prop where
  bel : Below w.heap.size w wr
  own : wr.ownsRow w.heap.size 34 2 (.slice a (once (es.take j)).length c) (once (es.take j)).length (cellsE (once (es.take j)))
theorem hasE_step {acc : List Ent} {i : Nat} (hi : i < acc.length) (s : ByteArray) : hasE (acc.take (i + 1)) s = (hasE (acc.take i) s || decide (acc[i].1 = s)) := by
  rw [List.take_add_one, List.getElem?_eq_getElem hi, Option.toList_some, hasE_append]
  simp [hasE]
theorem strEq (a b : ByteArray) : (a.toList == b.toList) = decide (a = b) := by
  by_cases h : a = b
  · subst h; simp
  · rw [decide_eq_false h]; exact (Lib.bytes_beq_false_iff a b).2 h
theorem own_below {w w' : World} {b e n m : Nat} {v : Value} {xs : List Value} (h : w.ownsRow b e n v m xs) (hb : Below w.heap.size w w') : w'.ownsRow b e n v m xs := by
  obtain ⟨hl, h0 | ⟨g, cap, cur, rfl, hbb, hc, r⟩⟩ := h
  · exact ⟨hl, .inl h0⟩
  · exact ⟨hl, .inr ⟨g, cap, cur, rfl, hbb, (hb.block g (Array.getElem?_eq_some_iff.1 hc).1).trans hc, r⟩⟩
theorem once_short (es : List Ent) (j : Nat) : (once (es.take j)).length ≤ es.length := Nat.le_trans (once_len _) (by simp; omega)
set_option maxHeartbeats 4000000 in
set_option maxRecDepth 100000 in
theorem once14 (a : Option Addr) (c : Nat) (es : List Ent) (hfl : es.length ≤ 1000000) (w : World) (hf : IsEnts w a c es) :
    Calls Try.prog 14 #[.slice a es.length c] w fun e w' => ∃ a' c', e = .returned (.slice a' (once es).length c') ∧ w'.ownsRow w.heap.size 34 2 (.slice a' (once es).length c') (once es).length (cellsE (once es)) ∧ Below w.heap.size w w' := by
  obtain ⟨i0, hi, hz0, hz1, hz2⟩ := info_parts infoREnt
  have HFF := Lib.hid hf
  clear hf
  go_enter Try.func14, Try.ntmps14
  go_wp2_with fail
  go_loopw [3, 12] (fun u i wr => ∃ (j : Nat) (ua : Option Addr) (uc : Nat), j ≤ es.length ∧ i = .int .i64 (j : Int) ∧ u = .slice ua (once (es.take j)).length uc ∧ OnceS w es ua uc j wr) (fun _ i _ => es.length - (intOf i).toNat)
  case atStart =>
    refine ⟨0, _, _, Nat.zero_le _, rfl, rfl, below_alloc w _, rfl, .inr ⟨w.heap.size, 0, #[], rfl, Nat.le_refl _, ?_, Nat.le_refl _, Nat.zero_le _, rfl, rfl⟩⟩
    exact heap_alloc_new w _
  case round =>
    obtain ⟨j, ua, uc, hj, rfl, rfl, HS⟩ := hrel
    by_cases hlt : j < es.length
    · obtain h0 | ⟨bk, o, rfl, hbk, hc, hcell⟩ := HFF.out.below HS.bel
      · subst h0; simp at hlt
      obtain ⟨c1, c2⟩ := hcell j es[j] (by simp [hlt])
      have hstep := once_step hlt
      have hle := once_short es j
      obtain ⟨f, hfe⟩ : ∃ f, f = es[j] := ⟨_, rfl⟩
      rw [← hfe] at c1 c2 hstep
      clear hcell hfe
      obtain ⟨N, V⟩ := f
      simp only at c1 c2
      have j1 : (j : Int) < es.length := by omega
      have HST := Lib.hid hstep
      have HBL := Lib.hid HS.bel
      have HOW := Lib.hid HS.own
      clear hstep HS
      generalize once (es.take j) = acc at *
      have hal := below_alloc wr (.cells #[.string N, .int .i64 V] 34)
      have HRW := Lib.hid (Row.new wr 34 #[.string N, .int .i64 V])
      obtain ⟨_, hie, hib⟩ := isEnts_own (HOW.out.alloc (.cells #[.string N, .int .i64 V] 34))
      have HIE := Lib.hid hie
      have HAL := Lib.hid hal
      have HB2 := Lib.hid (HBL.out.alloc HBL.out.size (.cells #[.string N, .int .i64 V] 34))
      have HO2 := Lib.hid (HOW.out.alloc (.cells #[.string N, .int .i64 V] 34))
      clear hie hib hal
      go_wp2_with fail
      have hws : (wr.alloc (.cells #[.string N, .int .i64 V] 34)).heap.size = wr.heap.size + 1 := World.size_alloc _ _
      have hwl := HBL.out.size
      generalize wr.alloc (.cells #[.string N, .int .i64 V] 34) = w2 at *
      obtain ⟨R, hRe⟩ : ∃ R, R = wr.heap.size := ⟨_, rfl⟩
      rw [← hRe] at hws hwl HRW ⊢
      clear HBL HOW HAL hRe
      go_loopw [6, 18] (fun hd i wi => ∃ k : Nat, k ≤ acc.length ∧ i = .int .i64 (k : Int) ∧ hd = .bool (hasE (acc.take k) N) ∧ Below w2.heap.size w2 wi) (fun _ i _ => acc.length - (intOf i).toNat)
      case atStart => exact ⟨0, Nat.zero_le _, rfl, by simp [hasE], Below.refl _ _⟩
      case round =>
        obtain ⟨k, hk, rfl, rfl, hbi⟩ := hrel
        by_cases hkl : k < acc.length
        · obtain h0 | ⟨bi, oi, rfl, hbi2, hci, hcelli⟩ := HIE.out.below hbi
          · subst h0; simp at hkl
          obtain ⟨x1, x2⟩ := hcelli k acc[k] (by simp [hkl])
          have hks := hasE_step hkl N
          obtain ⟨x, hxe⟩ : ∃ x, x = acc[k] := ⟨_, rfl⟩
          rw [← hxe] at x1 x2 hks
          clear hcelli hxe
          obtain ⟨X, U⟩ := x
          simp only at x1 x2 hks
          have k1 : (k : Int) < acc.length := by omega
          have e1 : wr.cell? ⟨R, 0, none⟩ = some (.string N) := (HRW.out.below hbi).cell 0
          have hRw : R < wr.heap.size := by have := hbi.size; omega
          have hse := strEq X N
          have hb3 := Lib.hid (hbi.alloc hbi.size (.cells #[.string X, .int .i64 U] 34))
          generalize hasE (acc.take k) N = q at *
          generalize decide (X = N) = p at *
          have HKS := Lib.hid hks
          clear hks hbi
          cases q <;> cases p <;> (
            go_wp2_with fail
            go_roundw
            case rel => exact ⟨k + 1, hkl, by go_num, by rw [HKS.out]; rfl, hb3.out⟩
            case measure => simp [intOf]; omega)
        · obtain rfl : k = acc.length := by omega
          rw [List.take_of_length_le (Nat.le_refl _)]
          have hne : ¬ ((acc.length : Int) < acc.length) := by omega
          have e1 : wr.cell? ⟨R, 0, none⟩ = some (.string N) := (HRW.out.below hbi).cell 0
          have e2 : wr.cell? ⟨R, 1, none⟩ = some (.int .i64 V) := (HRW.out.below hbi).cell 1
          have hRw : R < wr.heap.size := by have := hbi.size; omega
          have HB3 := Lib.hid (HB2.out.trans (hbi.mono HB2.out.size))
          have HO3 := Lib.hid (own_below HO2.out hbi)
          obtain ⟨q, hq⟩ : ∃ q, q = hasE acc N := ⟨_, rfl⟩
          have HQ : Hid (hasE acc N = q) := hq.symm
          rw [← hq]
          clear hq hbi HIE HRW HB2 HO2
          cases q
          · have hst : once (es.take (j + 1)) = acc ++ [(N, V)] := by rw [HST.out]; unfold onceF; simp only [HQ.out]; rfl
            have HSN := Lib.hid hst
            have hnw := cells_ent wr N V 34
            have HNW := Lib.hid hnw
            have HO4 := Lib.hid (HO3.out.alloc (.cells #[.string N, .int .i64 V] 34))
            have HB4 := Lib.hid (HB3.out.alloc HB3.out.size (.cells #[.string N, .int .i64 V] 34))
            have hwz := HB3.out.size
            clear hst hnw HO3 HB3
            go_wp2_with (at_builtin; refine wpList_append_own _ rfl _ _ 29 rfl w.heap.size 34 i0 (.agg #[.string ⟨#[]⟩, .int .i64 0]) 2 24 Try.underlying29 hi hz0 hz1 hz2 rfl (by decide) _ _ _ rfl HO4.out ⟨wr.heap.size, 0, none⟩ 1 1 [.string N, .int .i64 V] rfl rfl HNW.out (ent_one N V) (by unfold maxLen; omega) (by omega) (by simp; omega) ?_)
            intro v' w4 hown' hgrow _
            have HB5 : Hid (Below w.heap.size w w4) := HB4.out.grown hgrow HB4.out.size (fun k hk => (HO4.out.lt k hk).1)
            have hown5 : w4.ownsRow w.heap.size 34 2 v' (once (es.take (j + 1))).length (cellsE (once (es.take (j + 1)))) := by
              rw [HSN.out, List.length_append, cellsE_append]; exact hown'
            obtain ⟨a5, c5, rfl⟩ := own_slice hown5
            have HO5 := Lib.hid hown5
            clear hown' hgrow hown5 HB4 HO4 HNW
            go_wp2_with fail
            go_roundw
            case rel => exact ⟨j + 1, a5, c5, hlt, by go_num, rfl, HB5.out, HO5.out⟩
            case measure => simp [intOf]; omega
          · have hst : once (es.take (j + 1)) = acc := by rw [HST.out]; unfold onceF; simp only [HQ.out]; rfl
            have HSN := Lib.hid hst
            clear hst
            go_wp2_with fail
            go_roundw
            case rel => exact ⟨j + 1, ua, uc, hlt, by go_num, by rw [HSN.out], HB3.out, by rw [HSN.out]; exact HO3.out⟩
            case measure => simp [intOf]; omega
    · obtain rfl : es.length = j := by omega
      have ho := HS.own
      rw [List.take_of_length_le (Nat.le_refl _)] at ho ⊢
      have HO := Lib.hid ho
      have HBB := Lib.hid HS.bel
      clear HS ho
      have hne : ¬ ((es.length : Int) < es.length) := by omega
      go_wp2_with fail
      go_ret
      exact ⟨_, _, rfl, HO.out, HBB.out⟩
end Go.Proofs.Ytcmjcpgfnkhnoaa
