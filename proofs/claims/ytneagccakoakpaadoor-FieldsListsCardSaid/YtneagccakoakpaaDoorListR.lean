/- The reference's List. -/
import Derived.Test.YtneagccakoakpaaDoorAwakeO
namespace Go.Proofs.YtneagccakoakpaaDoor
open Go.RowKit

theorem no_comma_step (s : ByteArray) (f i : Nat) (hf : f ≤ i) (hi : i < s.size) (h : (44 : UInt8) ∉ (s.data.toList.drop f).take (i - f)) (hc : s[i] ≠ 44) : (44 : UInt8) ∉ (s.data.toList.drop f).take (i + 1 - f) := by
  have e : i + 1 - f = (i - f) + 1 := by omega
  have hg : (s.data.toList.drop f)[i - f]? = some s[i] := by rw [List.getElem?_drop, show f + (i - f) = i by omega]; exact toList_get s i hi
  rw [e, List.take_add_one, hg, Option.toList_some, List.mem_append, not_or]
  exact ⟨h, by rw [List.mem_singleton]; exact fun e => hc e.symm⟩
theorem comma_cut (s : ByteArray) (f i : Nat) (hf : f ≤ i) (hi : i < s.size) (h : (44 : UInt8) ∉ (s.data.toList.drop f).take (i - f)) (hc : s[i] = 44) :
    parts 44 (s.data.toList.drop f) = (s.extract f i).data.toList :: parts 44 (s.data.toList.drop (i + 1)) := by
  have hg : (s.data.toList.drop f)[i - f]? = some s[i] := by rw [List.getElem?_drop, show f + (i - f) = i by omega]; exact toList_get s i hi
  have hlt := (List.getElem?_eq_some_iff.1 hg).1
  have e : s.data.toList.drop f = (s.data.toList.drop f).take (i - f) ++ 44 :: s.data.toList.drop (i + 1) := by
    have e2 : s.data.toList.drop (i + 1) = (s.data.toList.drop f).drop (i - f + 1) := by rw [List.drop_drop]; congr 1; omega
    rw [e2]
    have := List.drop_eq_getElem_cons hlt
    have e3 : (s.data.toList.drop f)[i - f] = 44 := by
      have := (List.getElem?_eq_some_iff.1 hg).2
      rw [this, hc]
    rw [← e3, ← this, List.take_append_drop]
  have h1 := congrArg (parts 44) e
  rw [parts_cut 44 _ _ h] at h1
  rw [h1, extractL]
theorem comma_end (s : ByteArray) (f : Nat) (hf : f ≤ s.size) (h : (44 : UInt8) ∉ (s.data.toList.drop f).take (s.size - f)) :
    parts 44 (s.data.toList.drop f) = [(s.extract f s.size).data.toList] := by
  have hz := Lib.size_eq s
  rw [List.take_of_length_le (by rw [List.length_drop]; omega)] at h
  rw [parts_one 44 _ h, extractL, List.take_of_length_le (by rw [List.length_drop]; omega)]
theorem one_str (T : ByteArray) : ∀ u ∈ [Value.string T], u.oneCell' = true := by intro u hu; simp at hu; subst hu; rfl
/-- Where the reference's inner loop stands. -/
def InPart (s : ByteArray) (f i : Nat) (pre : List (List UInt8)) : Prop :=
  (i ≤ s.size ∧ f ≤ i ∧ pre ++ parts 44 (s.data.toList.drop f) = parts 44 s.data.toList ∧ (44 : UInt8) ∉ (s.data.toList.drop f).take (i - f)) ∨ (i = s.size + 1 ∧ pre = parts 44 s.data.toList)
theorem inPart_zero (s : ByteArray) : InPart s 0 0 [] := .inl ⟨Nat.zero_le _, Nat.le_refl _, rfl, by simp⟩
theorem inPart_go {s : ByteArray} {f i : Nat} {pre : List (List UInt8)} (h : InPart s f i pre) (hi : i < s.size) (hc : s[i] ≠ 44) : InPart s f (i + 1) pre := by
  rcases h with ⟨h1, h2, h3, h4⟩ | ⟨h1, _⟩
  · exact .inl ⟨hi, by omega, h3, no_comma_step s f i h2 hi h4 hc⟩
  · omega
theorem inPart_cut {s : ByteArray} {f i : Nat} {pre : List (List UInt8)} (h : InPart s f i pre) (hi : i < s.size) (hc : s[i] = 44) : InPart s (i + 1) (i + 1) (pre ++ [(s.extract f i).data.toList]) := by
  rcases h with ⟨h1, h2, h3, h4⟩ | ⟨h1, _⟩
  · refine .inl ⟨hi, Nat.le_refl _, ?_, by simp⟩
    rw [List.append_assoc, List.singleton_append, ← comma_cut s f i h2 hi h4 hc, h3]
  · omega
theorem inPart_end {s : ByteArray} {f : Nat} {pre : List (List UInt8)} (h : InPart s f s.size pre) : InPart s (s.size + 1) (s.size + 1) (pre ++ [(s.extract f s.size).data.toList]) := by
  rcases h with ⟨h1, h2, h3, h4⟩ | ⟨h1, _⟩
  · refine .inr ⟨rfl, ?_⟩
    rw [← comma_end s f h2 h4, h3]
  · omega
theorem inPart_le {s : ByteArray} {f i : Nat} {pre : List (List UInt8)} (h : InPart s f i pre) (hi : i ≤ s.size) : f ≤ i := by
  rcases h with ⟨_, h2, _⟩ | ⟨h1, _⟩
  · exact h2
  · omega
theorem inPart_len {s : ByteArray} {f i : Nat} {pre : List (List UInt8)} (h : InPart s f i pre) : pre.length ≤ s.size + 1 := by
  have hl := parts_length 44 s.data.toList
  rw [← Lib.size_eq] at hl
  rcases h with ⟨_, _, h3, _⟩ | ⟨_, h2⟩
  · have := congrArg List.length h3
    rw [List.length_append] at this
    omega
  · rw [h2]; exact hl

set_option maxRecDepth 1000000 in
set_option maxHeartbeats 4000000 in
theorem list34 (a : Option Addr) (c : Nat) (xs : List ByteArray) (hsum : sumS xs ≤ 1000000000) (w : World) (hx : IsStrs w a c xs) :
    Calls Tryd.prog 34 #[.slice a xs.length c] w fun e w' => ∃ v, e = .returned v ∧ w'.ownsRow w.heap.size 9 1 v (listP xs).length (valsOf (listP xs)) ∧ Below w.heap.size w w' := by
  obtain ⟨i0, hi, hz0, hz1, hz2⟩ := info_parts infoStr
  have HX := Lib.hid hx
  clear hx
  have hlen := sum_len xs
  have L0 := below_alloc w (.cells #[] 9)
  have O0 : Hid ((w.alloc (.cells #[] 9)).ownsRow w.heap.size 9 1 (.slice (some ⟨w.heap.size, 0, none⟩) 0 0) (accL xs 0).length (valsOf (accL xs 0))) := World.ownsRow_lit w #[] 0 (Nat.le_refl _) (by decide) (by simp)
  go_enter Tryd.func34, Tryd.ntmps34
  go_wp2_with fail
  go_loopw [3, 12] (fun v i wr => ∃ j : Nat, j ≤ xs.length ∧ i = .int .i64 (j : Int) ∧ Hid (wr.ownsRow w.heap.size 9 1 v (accL xs j).length (valsOf (accL xs j))) ∧ Below w.heap.size w wr) (fun _ i _ => xs.length - (intOf i).toNat)
  case atStart => exact ⟨0, Nat.zero_le _, rfl, O0, L0⟩
  case round =>
    clear O0 L0
    obtain ⟨j, hj, rfl, hown, hb⟩ := hrel
    by_cases hlt : j < xs.length
    · obtain h0 | ⟨bk, o, rfl, hbk, hc, hcell⟩ := HX.out.below hb
      · subst h0; simp at hlt
      have cj := hcell j xs[j] (by simp [hlt])
      have hpart := sumS_part xs j hlt
      have hacc := accL_bound xs j
      have HSU := Lib.hid (accL_succ xs j hlt)
      clear hcell
      generalize xs[j] = s at cj hpart HSU
      have hss : s.size ≤ 1000000000 := by omega
      have HPB : Hid ((accL xs j).length + (s.size + 1) ≤ 1000000000) := by show _ ≤ _; omega
      clear hpart hacc
      go_wp2_with fail
      clear cj
      obtain ⟨wo, hwo⟩ : ∃ wo : World, wo = wr := ⟨_, rfl⟩
      rw [← hwo] at hown hb
      have hb0 : Below w.heap.size w wr := by rw [← hwo]; exact hb
      have hown0 : Hid (wr.ownsRow w.heap.size 9 1 u3 (accL xs j).length (valsOf (accL xs j))) := by rw [← hwo]; exact hown
      clear hown hb hwo
      have A0 : Hid (wr.ownsRow w.heap.size 9 1 u3 (accL xs j ++ keepP []).length (valsOf (accL xs j ++ keepP []))) := by rw [show keepP [] = [] from rfl, List.append_nil]; exact hown0
      have hz2' := hz2
      clear hz2
      go_loopw [3, 6, 7] (fun u3i vf vi wi => ∃ (f i : Nat) (pre : List (List UInt8)), i ≤ s.size + 1 ∧ vf = .int .i64 (f : Int) ∧ vi = .int .i64 (i : Int) ∧ Hid (InPart s f i pre) ∧ Hid (wi.ownsRow w.heap.size 9 1 u3i (accL xs j ++ keepP pre).length (valsOf (accL xs j ++ keepP pre))) ∧ Below w.heap.size w wi)
        (fun _ _ vi _ => s.size + 1 - (intOf vi).toNat)
      case atStart => exact ⟨0, 0, [], Nat.zero_le _, rfl, rfl, inPart_zero s, A0, hb0⟩
      case round =>
        clear A0 hown0 hb0
        obtain ⟨f, i, pre, hi1, rfl, rfl, hin, hown2, hb2⟩ := hrel
        by_cases hi2 : i < s.size
        · by_cases hq : s[i] = 44
          · have HN := Lib.hid (inPart_cut hin.out hi2 hq)
            have ht : ((s[i].toNat : Int) != 44) = false := by rw [hq]; rfl
            clear hq
            have hfi := inPart_le hin.out (by omega)
            have hpl := inPart_len hin.out
            have f0 : (0 : Int) ≤ f := by omega
            have f1 : (f : Int) ≤ i := by omega
            have f2 : (i : Int) ≤ s.size := by omega
            have HT := Lib.hid (fun W => trim24 (s.extract f i) (by rw [size_extract s f i (by omega)]; omega) W)
            have hkl : (accL xs j ++ keepP pre).length ≤ 1000000000 := by
              have h1 := HPB.out
              have h2 := keepP_length pre
              rw [List.length_append]
              omega
            have hz2 := hb2.size
            clear hin hpl hfi
            go_wp2_with fail
            refine (HT.out _).mono ?_
            rintro e w' ⟨rfl, rfl⟩
            clear HT
            generalize (s.extract f i).data.toList = y at HN ⊢
            by_cases hemp : trimB y = []
            · have hks : keepP (pre ++ [y]) = keepP pre := by rw [keepP_snoc, hemp]; simp
              have HO : Hid (wr.ownsRow w.heap.size 9 1 u3 (accL xs j ++ keepP (pre ++ [y])).length (valsOf (accL xs j ++ keepP (pre ++ [y])))) := by rw [hks]; exact hown2
              have he1 : (⟨(trimB y).toArray⟩ : ByteArray).toList = [] := by rw [hemp, ByteArray.toList_eq]
              obtain ⟨T, hT⟩ : ∃ T : ByteArray, T = ⟨(trimB y).toArray⟩ := ⟨_, rfl⟩
              rw [← hT] at he1 ⊢
              clear hT hks hemp hown2
              go_wp2_with fail
              go_roundw
              case rel => exact ⟨i + 1, i + 1, pre ++ [y], by omega, by go_num, by go_num, HN, HO, hb2⟩
              case measure => simp [intOf]; omega
            · have hks : keepP (pre ++ [y]) = keepP pre ++ [trimB y] := by rw [keepP_snoc, if_neg (by simpa using hemp)]
              have he1 : (⟨(trimB y).toArray⟩ : ByteArray).toList.isEmpty = false := by
                rw [ByteArray.toList_eq]
                cases h : trimB y with
                | nil => exact absurd h hemp
                | cons a r => rfl
              have hvv : valsOf (accL xs j ++ keepP pre) ++ [Value.string ⟨(trimB y).toArray⟩] = valsOf (accL xs j ++ keepP (pre ++ [y])) := by
                rw [hks]; unfold valsOf; simp
              have hll : (accL xs j ++ keepP pre).length + 1 = (accL xs j ++ keepP (pre ++ [y])).length := by rw [hks]; simp; omega
              have HVV := Lib.hid hvv
              have HLL := Lib.hid hll
              obtain ⟨T, hT⟩ : ∃ T : ByteArray, T = ⟨(trimB y).toArray⟩ := ⟨_, rfl⟩
              rw [← hT] at he1 HVV ⊢
              have hrow := hown2.out
              obtain ⟨k, hk⟩ : ∃ k, k = (accL xs j ++ keepP pre).length := ⟨_, rfl⟩
              rw [← hk] at hrow hkl HLL
              clear hT hks hemp hvv hll hk hown2
              go_wp2_with (at_builtin; refine wpList_append_own _ rfl _ _ 36 rfl w.heap.size 9 i0 (.string ⟨#[]⟩) 1 16 Tryd.underlying36 hi hz0 hz1 hz2' rfl (by decide) _ _ _ rfl (hrow.alloc _) ⟨wr.heap.size, 0, none⟩ 1 1 [.string T] rfl rfl (cell_one_new _ _ _) (one_str T) (by unfold maxLen; omega) (by omega) (by simp; omega) ?_)
              intro v2 w1 hown' hgrow _
              have hb3 : Below w.heap.size w w1 := (hb2.alloc hz2 _).grown hgrow (by simp; omega) (fun q hq => (hrow.lt q hq).1)
              have HO : Hid (w1.ownsRow w.heap.size 9 1 v2 (accL xs j ++ keepP (pre ++ [y])).length (valsOf (accL xs j ++ keepP (pre ++ [y])))) := by
                show w1.ownsRow _ _ _ _ _ _
                rw [← HVV.out, ← HLL.out]
                exact hown'
              clear hown' hgrow hrow
              go_wp2_with fail
              go_roundw
              case rel => exact ⟨i + 1, i + 1, pre ++ [y], by omega, by go_num, by go_num, HN, HO, hb3⟩
              case measure => simp [intOf]; omega
          · have HN := Lib.hid (inPart_go hin.out hi2 hq)
            have ht : ((s[i].toNat : Int) != 44) = true := by
              rw [bne, show (44 : Int) = ((44 : UInt8).toNat : Int) from rfl, byte_eq]
              simp [hq]
            clear hq
            go_wp2_with fail
            go_roundw
            case rel => exact ⟨f, i + 1, pre, by omega, rfl, by go_num, HN, hown2, hb2⟩
            case measure => simp [intOf]; omega
        · by_cases hi3 : i = s.size
          · have HN : Hid (InPart s (i + 1) (i + 1) (pre ++ [(s.extract f i).data.toList])) := by
              show InPart _ _ _ _
              have h := hin.out
              rw [hi3] at h ⊢
              exact inPart_end h
            have hle : i ≤ s.size := by omega
            clear hi3
            have hfi := inPart_le hin.out (by omega)
            have hpl := inPart_len hin.out
            have f0 : (0 : Int) ≤ f := by omega
            have f1 : (f : Int) ≤ i := by omega
            have f2 : (i : Int) ≤ s.size := by omega
            have HT := Lib.hid (fun W => trim24 (s.extract f i) (by rw [size_extract s f i (by omega)]; omega) W)
            have hkl : (accL xs j ++ keepP pre).length ≤ 1000000000 := by
              have h1 := HPB.out
              have h2 := keepP_length pre
              rw [List.length_append]
              omega
            have hz2 := hb2.size
            clear hin hpl hfi
            go_wp2_with fail
            refine (HT.out _).mono ?_
            rintro e w' ⟨rfl, rfl⟩
            clear HT
            generalize (s.extract f i).data.toList = y at HN ⊢
            by_cases hemp : trimB y = []
            · have hks : keepP (pre ++ [y]) = keepP pre := by rw [keepP_snoc, hemp]; simp
              have HO : Hid (wr.ownsRow w.heap.size 9 1 u3 (accL xs j ++ keepP (pre ++ [y])).length (valsOf (accL xs j ++ keepP (pre ++ [y])))) := by rw [hks]; exact hown2
              have he1 : (⟨(trimB y).toArray⟩ : ByteArray).toList = [] := by rw [hemp, ByteArray.toList_eq]
              obtain ⟨T, hT⟩ : ∃ T : ByteArray, T = ⟨(trimB y).toArray⟩ := ⟨_, rfl⟩
              rw [← hT] at he1 ⊢
              clear hT hks hemp hown2
              go_wp2_with fail
              go_roundw
              case rel => exact ⟨i + 1, i + 1, pre ++ [y], by omega, by go_num, by go_num, HN, HO, hb2⟩
              case measure => simp [intOf]; omega
            · have hks : keepP (pre ++ [y]) = keepP pre ++ [trimB y] := by rw [keepP_snoc, if_neg (by simpa using hemp)]
              have he1 : (⟨(trimB y).toArray⟩ : ByteArray).toList.isEmpty = false := by
                rw [ByteArray.toList_eq]
                cases h : trimB y with
                | nil => exact absurd h hemp
                | cons a r => rfl
              have hvv : valsOf (accL xs j ++ keepP pre) ++ [Value.string ⟨(trimB y).toArray⟩] = valsOf (accL xs j ++ keepP (pre ++ [y])) := by
                rw [hks]; unfold valsOf; simp
              have hll : (accL xs j ++ keepP pre).length + 1 = (accL xs j ++ keepP (pre ++ [y])).length := by rw [hks]; simp; omega
              have HVV := Lib.hid hvv
              have HLL := Lib.hid hll
              obtain ⟨T, hT⟩ : ∃ T : ByteArray, T = ⟨(trimB y).toArray⟩ := ⟨_, rfl⟩
              rw [← hT] at he1 HVV ⊢
              have hrow := hown2.out
              obtain ⟨k, hk⟩ : ∃ k, k = (accL xs j ++ keepP pre).length := ⟨_, rfl⟩
              rw [← hk] at hrow hkl HLL
              clear hT hks hemp hvv hll hk hown2
              go_wp2_with (at_builtin; refine wpList_append_own _ rfl _ _ 36 rfl w.heap.size 9 i0 (.string ⟨#[]⟩) 1 16 Tryd.underlying36 hi hz0 hz1 hz2' rfl (by decide) _ _ _ rfl (hrow.alloc _) ⟨wr.heap.size, 0, none⟩ 1 1 [.string T] rfl rfl (cell_one_new _ _ _) (one_str T) (by unfold maxLen; omega) (by omega) (by simp; omega) ?_)
              intro v2 w1 hown' hgrow _
              have hb3 : Below w.heap.size w w1 := (hb2.alloc hz2 _).grown hgrow (by simp; omega) (fun q hq => (hrow.lt q hq).1)
              have HO : Hid (w1.ownsRow w.heap.size 9 1 v2 (accL xs j ++ keepP (pre ++ [y])).length (valsOf (accL xs j ++ keepP (pre ++ [y])))) := by
                show w1.ownsRow _ _ _ _ _ _
                rw [← HVV.out, ← HLL.out]
                exact hown'
              clear hown' hgrow hrow
              go_wp2_with fail
              go_roundw
              case rel => exact ⟨i + 1, i + 1, pre ++ [y], by omega, by go_num, by go_num, HN, HO, hb3⟩
              case measure => simp [intOf]; omega
          · have hp : Hid (pre = parts 44 s.data.toList) := by
              rcases hin.out with ⟨h1, _⟩ | ⟨_, h2⟩
              · omega
              · exact h2
            have HO : Hid (wr.ownsRow w.heap.size 9 1 u3 (accL xs (j + 1)).length (valsOf (accL xs (j + 1)))) := by
              show wr.ownsRow _ _ _ _ _ _
              rw [HSU.out, ← hp.out]
              exact hown2
            have hgt : ¬ (i : Int) ≤ s.size := by omega
            clear hin hown2 hp
            go_wp2_with fail
            go_roundw
            case rel => exact ⟨j + 1, hlt, by go_num, HO, hb2⟩
            case measure => simp [intOf]; omega
    · obtain rfl : j = xs.length := by omega
      go_wp2_with fail
      go_ret
      exact ⟨_, rfl, hown.out, hb⟩
end Go.Proofs.YtneagccakoakpaaDoor
